/-
  Drawn systems: with a call.
  The law FnRefusedParts: its walk.
-/
import Derived.Test.YteagpjlgjfaclaaGreatDoorCallDraw3
import Derived.Test.YteagpjlgjfaclaaGreatDoorCallSpoil
import Derived.Test.YteagpjlgjfaclaaGreatDoorImplSys
import Derived.Test.YteagpjlgjfaclaaGreatDoorImplTask
import Derived.Test.YteagpjlgjfaclaaGreatDoorImplAdd
import Derived.Test.YteagpjlgjfaclaaGreatDoorSysLocks
import Derived.Test.YteagpjlgjfaclaaGreatDoorDraw1
import Derived.Test.YteagpjlgjfaclaaGreatDoorStepCopy
import Derived.Deep.Cut
namespace Go.Proofs.YteagpjlgjfaclaaGreatDoor
set_option maxRecDepth 100000
open Go.RowKit
def qig (w:World) (e:Ending) (w':World):Prop:=∃ (s:Sy) (v:Sv) (vs:List Lv) (c:Cl),e = .returned (.tuple #[.agg (syc s v),ck c]) /\ OwnS w' w.heap.size v vs s /\ qeo s /\ Keeps w w'
set_option linter.unusedSimpArgs false in
set_option maxHeartbeats 8000000 in
theorem qih (a:Option Addr) (n cap:Nat) (w:World) (hn:n <= 1048576) (hb:∀ g,w.heap.size <= g->Bytes g w a n) :
  Calls Tryz.prog 7 #[.slice a n cap] w (qig w):=by
 have kW:Keeps w ((w.alloc (.cells zc 30)).alloc (.cells cc0 32)):=((Keeps.refl w).alloc _).alloc _
 have B0:Hid (Blk ((w.alloc (.cells zc 30)).alloc (.cells cc0 32)) w.heap.size zc):=(Blk.new _ _ _).alloc _
 have C0:Hid (Blk ((w.alloc (.cells zc 30)).alloc (.cells cc0 32)) (w.heap.size+1) cc0):=by
  have:=Blk.new (w.alloc (.cells zc 30)) cc0 32
  show Blk _ _ _
  simpa using this
 have HB:Hid (∀ g,w.heap.size+2 <= g->Bytes g ((w.alloc (.cells zc 30)).alloc (.cells cc0 32)) a n):=fun g hg=>(hb g (by omega)).but (.of kW)
 have hws:((w.alloc (.cells zc 30)).alloc (.cells cc0 32)).heap.size=w.heap.size+2:=by simp
 clear hb
 go_enter Tryz.func7,Tryz.ntmps7
 go_upto_region 1 with fail
 change Code.wp _ _ _ _ ((w.alloc (.cells zc 30)).alloc (.cells cc0 32))
 generalize ((w.alloc (.cells zc 30)).alloc (.cells cc0 32))=W at *
 go_upto_region 2 with (go_at_call 21;refine (qiG a n cap _ hn (fun g hg=>HB.out g (by omega))).mono ?_;rintro e w1 ⟨g,rfl,hg,hc1,k1⟩)
 have K1:Keeps w w1:=kW.trans k1
 have B1:Hid (Blk w1 w.heap.size zc):=B0.out.keeps k1
 have C1:Hid (Blk w1 (w.heap.size+1) cc0):=C0.out.keeps k1
 have hg1:=hc1.lt
 have hwg:w.heap.size+1 < g:=by omega
 have hs1:=K1.size
 clear kW k1 B0 C0 HB hg hws
 go_upto_region 3 with (go_at_call 22;refine (qif hc1 a n cap hn).mono ?_;rintro e w2 ⟨s,v,vs,rfl,o2,sz,hc2,k2⟩;obtain ⟨⟨yA,yB,yC⟩,⟨yD,yE,yF⟩,⟨yG,yH,yI⟩,⟨yJ,yK,yL⟩,⟨yM,yN,yO⟩⟩:=v)
 have kA:=blkK w2 (.cells (syc s ⟨⟨yA,yB,yC⟩,⟨yD,yE,yF⟩,⟨yG,yH,yI⟩,⟨yJ,yK,yL⟩,⟨yM,yN,yO⟩⟩) 30)
 have X0:Hid (Blk (w2.alloc (.cells (syc s ⟨⟨yA,yB,yC⟩,⟨yD,yE,yF⟩,⟨yG,yH,yI⟩,⟨yJ,yK,yL⟩,⟨yM,yN,yO⟩⟩) 30)) w2.heap.size (syc s ⟨⟨yA,yB,yC⟩,⟨yD,yE,yF⟩,⟨yG,yH,yI⟩,⟨yJ,yK,yL⟩,⟨yM,yN,yO⟩⟩)):=Blk.new _ _ _
 have K2:Hid (KeepsBut g w1 (w2.alloc (.cells (syc s ⟨⟨yA,yB,yC⟩,⟨yD,yE,yF⟩,⟨yG,yH,yI⟩,⟨yJ,yK,yL⟩,⟨yM,yN,yO⟩⟩) 30))):=k2.trans (.of kA)
 have O2:Hid (OwnS (w2.alloc (.cells (syc s ⟨⟨yA,yB,yC⟩,⟨yD,yE,yF⟩,⟨yG,yH,yI⟩,⟨yJ,yK,yL⟩,⟨yM,yN,yO⟩⟩) 30)) w1.heap.size ⟨⟨yA,yB,yC⟩,⟨yD,yE,yF⟩,⟨yG,yH,yI⟩,⟨yJ,yK,yL⟩,⟨yM,yN,yO⟩⟩ vs s):=o2.keeps kA
 have C2:=hc2.keeps kA
 have hxb:w1.heap.size <= w2.heap.size:=k2.size
 change Code.wp _ _ _ _ (w2.alloc (.cells (syc s ⟨⟨yA,yB,yC⟩,⟨yD,yE,yF⟩,⟨yG,yH,yI⟩,⟨yJ,yK,yL⟩,⟨yM,yN,yO⟩⟩) 30))
 clear kA k2 o2 hc1 hc2
 generalize (w2.alloc (.cells (syc s ⟨⟨yA,yB,yC⟩,⟨yD,yE,yF⟩,⟨yG,yH,yI⟩,⟨yJ,yK,yL⟩,⟨yM,yN,yO⟩⟩) 30))=Y at *
 generalize w2.heap.size=xb at *
 have e0:∀ w',Blk w' xb (syc s ⟨⟨yA,yB,yC⟩,⟨yD,yE,yF⟩,⟨yG,yH,yI⟩,⟨yJ,yK,yL⟩,⟨yM,yN,yO⟩⟩)->∀ q,w'.cell? ⟨xb,q,none⟩=(syc s ⟨⟨yA,yB,yC⟩,⟨yD,yE,yF⟩,⟨yG,yH,yI⟩,⟨yJ,yK,yL⟩,⟨yM,yN,yO⟩⟩)[q]?:=fun w' hh=>hh.cells
 dsimp only [syc] at e0
 refine wp_region_held_drew (S:=(fun w'=>Blk w' xb (syc s ⟨⟨yA,yB,yC⟩,⟨yD,yE,yF⟩,⟨yG,yH,yI⟩,⟨yJ,yK,yL⟩,⟨yM,yN,yO⟩⟩))) (by kernel_rfl) ?_ (fun hHeld => ?_)
 ·exact X0.out.keeps (Keeps.refl _).drew
 refine Plan.go [0,1,2,3] ?_
 iterate 4 (refine qac (by simp only [qab];rfl) (by kernel_rfl) (by exact fun _ _ _ h=>h) (by rfl) (by assumption) (fun w _=>by go_simp;try (with_reducible rfl)) ?_;try simp only [qaa])
 refine Plan.nil ?_
 refine qad 4 (by kernel_rfl) (by simp only [qab];rfl) (fun K hK => ?_)
 go_simp
 first
  | (go_at_call 24;refine (qeS (v:=⟨⟨yA,yB,yC⟩,⟨yD,yE,yF⟩,⟨yG,yH,yI⟩,⟨yJ,yK,yL⟩,⟨yM,yN,yO⟩⟩) (C2.keeps (Keeps.refl _).drew) (O2.out.keeps (Keeps.refl _).drew) hg1 (by have:=sz.1;omega) (by have:=sz.2.1;omega)).mono ?_;rintro e w5 ⟨c5,rfl,-,hc5,k5⟩;have K5:KeepsBut g Y w5:=((KeepsBut.refl g Y).drew).trans k5;have X5:=X0.out.but K5 (by omega))
  | (go_at_call 23;refine (qfR hc5 c5).mono ?_;rintro e w6 ⟨c6,rfl,hc6,k6⟩;have K6:KeepsBut g Y w6:=K5.trans k6;have X6:=X0.out.but K6 (by omega))
 try go_wp2_with fail
 refine hK.out _ _ ?_ (fun hHeld => ?_)
 ·assumption
 clear hK K
 try simp only [qaa]
 refine qad 5 (by kernel_rfl) (by simp only [qab];rfl) (fun K hK => ?_)
 go_simp
 first
  | (go_at_call 24;refine (qeS (v:=⟨⟨yA,yB,yC⟩,⟨yD,yE,yF⟩,⟨yG,yH,yI⟩,⟨yJ,yK,yL⟩,⟨yM,yN,yO⟩⟩) (C2.keeps (Keeps.refl _).drew) (O2.out.keeps (Keeps.refl _).drew) hg1 (by have:=sz.1;omega) (by have:=sz.2.1;omega)).mono ?_;rintro e w5 ⟨c5,rfl,-,hc5,k5⟩;have K5:KeepsBut g Y w5:=((KeepsBut.refl g Y).drew).trans k5;have X5:=X0.out.but K5 (by omega))
  | (go_at_call 23;refine (qfR hc5 c5).mono ?_;rintro e w6 ⟨c6,rfl,hc6,k6⟩;have K6:KeepsBut g Y w6:=K5.trans k6;have X6:=X0.out.but K6 (by omega))
 try go_wp2_with fail
 refine hK.out _ _ ?_ (fun hHeld => ?_)
 ·assumption
 clear hK K
 try simp only [qaa]
 refine qad 6 (by kernel_rfl) (by simp only [qab];rfl) (fun K hK => ?_)
 have B6:Hid (Blk w6 w.heap.size zc):=B1.out.but (K2.out.trans K6) (by omega);have C6:Hid (Blk w6 (w.heap.size+1) cc0):=C1.out.but (K2.out.trans K6) (by omega);obtain ⟨_,r1,r2⟩:=B6.out;obtain ⟨_,r3,r4⟩:=C6.out
 go_simp
 try go_wp2_with fail
 refine hK.out _ _ ?_ (fun hHeld => ?_)
 ·exact Blk.farC (c:=w.heap.size) (by omega) (syc s ⟨⟨yA,yB,yC⟩,⟨yD,yE,yF⟩,⟨yG,yH,yI⟩,⟨yJ,yK,yL⟩,⟨yM,yN,yO⟩⟩).toList 0 X6
 clear hK K
 try simp only [qaa]
 refine qad 7 (by kernel_rfl) (by simp only [qab];rfl) (fun K hK => ?_)
 skip
 go_simp
 try go_wp2_with fail
 refine hK.out _ _ ?_ (fun hHeld => ?_)
 ·exact Blk.farC (c:=w.heap.size+1) (by omega) (cc c6).toList 0 (Blk.farC (c:=w.heap.size) (by omega) (syc s ⟨⟨yA,yB,yC⟩,⟨yD,yE,yF⟩,⟨yG,yH,yI⟩,⟨yJ,yK,yL⟩,⟨yM,yN,yO⟩⟩).toList 0 X6)
 clear hK K
 try simp only [qaa]
 refine wpAnyH_done (by kernel_rfl) ?_ _
 have O6:OwnS w6 w1.heap.size ⟨⟨yA,yB,yC⟩,⟨yD,yE,yF⟩,⟨yG,yH,yI⟩,⟨yJ,yK,yL⟩,⟨yM,yN,yO⟩⟩ vs s:=O2.out.butG K6 hg1
 have K9:Keeps w w6:=(K2.out.trans K6).keeps K1 (by omega)
 have E1:Hid (Blk (putC (putC w6 w.heap.size 0 (syc s ⟨⟨yA,yB,yC⟩,⟨yD,yE,yF⟩,⟨yG,yH,yI⟩,⟨yJ,yK,yL⟩,⟨yM,yN,yO⟩⟩).toList) (w.heap.size+1) 0 (cc c6).toList) w.heap.size (syc s ⟨⟨yA,yB,yC⟩,⟨yD,yE,yF⟩,⟨yG,yH,yI⟩,⟨yJ,yK,yL⟩,⟨yM,yN,yO⟩⟩)):=Blk.farC (c:=w.heap.size+1) (by omega) _ 0 (B6.out.putC (syc s ⟨⟨yA,yB,yC⟩,⟨yD,yE,yF⟩,⟨yG,yH,yI⟩,⟨yJ,yK,yL⟩,⟨yM,yN,yO⟩⟩).toList rfl)
 have E2:Hid (Blk (putC (putC w6 w.heap.size 0 (syc s ⟨⟨yA,yB,yC⟩,⟨yD,yE,yF⟩,⟨yG,yH,yI⟩,⟨yJ,yK,yL⟩,⟨yM,yN,yO⟩⟩).toList) (w.heap.size+1) 0 (cc c6).toList) (w.heap.size+1) (cc c6)):=(Blk.farC (c:=w.heap.size) (by omega) _ 0 C6.out).putC (cc c6).toList rfl
 have KQ:Hid (Keeps w (putC (putC w6 w.heap.size 0 (syc s ⟨⟨yA,yB,yC⟩,⟨yD,yE,yF⟩,⟨yG,yH,yI⟩,⟨yJ,yK,yL⟩,⟨yM,yN,yO⟩⟩).toList) (w.heap.size+1) 0 (cc c6).toList)):=Keeps.putC (b:=w.heap.size+1) (by omega) _ 0 (Keeps.putC (b:=w.heap.size) (Nat.le_refl _) _ 0 K9)
 have OQ:Hid (OwnS (putC (putC w6 w.heap.size 0 (syc s ⟨⟨yA,yB,yC⟩,⟨yD,yE,yF⟩,⟨yG,yH,yI⟩,⟨yJ,yK,yL⟩,⟨yM,yN,yO⟩⟩).toList) (w.heap.size+1) 0 (cc c6).toList) w.heap.size ⟨⟨yA,yB,yC⟩,⟨yD,yE,yF⟩,⟨yG,yH,yI⟩,⟨yJ,yK,yL⟩,⟨yM,yN,yO⟩⟩ vs s):=(OwnS.farC (c:=w.heap.size+1) (fun i hi=>by have:=(O6.blkLt hi).1;omega) _ _ (OwnS.farC (c:=w.heap.size) (fun i hi=>by have:=(O6.blkLt hi).1;omega) _ _ O6)).base (by omega)
 clear r1 r2 r3 r4 e0 hHeld O6 K9 X5 X6 k5 k6 B6 C6
 change Exit.then _ _ _ _ (putC (putC w6 w.heap.size 0 (syc s ⟨⟨yA,yB,yC⟩,⟨yD,yE,yF⟩,⟨yG,yH,yI⟩,⟨yJ,yK,yL⟩,⟨yM,yN,yO⟩⟩).toList) (w.heap.size+1) 0 (cc c6).toList)
 generalize putC (putC w6 w.heap.size 0 (syc s ⟨⟨yA,yB,yC⟩,⟨yD,yE,yF⟩,⟨yG,yH,yI⟩,⟨yJ,yK,yL⟩,⟨yM,yN,yO⟩⟩).toList) (w.heap.size+1) 0 (cc c6).toList=Q at *
 go_wp2
 have y1:=E1.out.cells
 have y2:=E2.out.cells
 exact bodyPost_ret (v := .tuple #[.agg (syc s ⟨⟨yA,yB,yC⟩,⟨yD,yE,yF⟩,⟨yG,yH,yI⟩,⟨yJ,yK,yL⟩,⟨yM,yN,yO⟩⟩),ck c6]) (by simp [results,Tryz.results7,go_sem,y1,y2]) rfl ⟨s,⟨⟨yA,yB,yC⟩,⟨yD,yE,yF⟩,⟨yG,yH,yI⟩,⟨yJ,yK,yL⟩,⟨yM,yN,yO⟩⟩,vs,c6,rfl,OQ.out,sz,KQ.out⟩
end Go.Proofs.YteagpjlgjfaclaaGreatDoor
namespace Go.Proofs.YteagpjlgjfaclaaGreatDoor
set_option maxRecDepth 100000
open Go.RowKit
attribute [local go_sem] Keeps.refl Keeps.alloc Keeps.drew Keeps.drewN
theorem qlI (s:Sy) (c:Cl):(newN s c).toNat <= 6:=by
 unfold newN
 repeat' split
 all_goals decide
theorem qlJ {s:Sy} (hs:sysB s=true) (no cpu a b:Int):(if (newN s ⟨1,no,cpu,a,b⟩).toNat=0 then newC s ⟨1,no,cpu,a,b⟩ else s)=qaO s ⟨1,no,cpu,a,b⟩ /\ (((newN s ⟨1,no,cpu,a,b⟩).toNat:Nat):Int)=qaS s ⟨1,no,cpu,a,b⟩:=by
 have hcb:qaC ⟨1,no,cpu,a,b⟩=true:=by simp [qaC,qaB,eqC,inB]
 have h0:0 <= newN s ⟨1,no,cpu,a,b⟩:=by
  unfold newN
  repeat' split
  all_goals decide
 have hd:doN s ⟨1,no,cpu,a,b⟩=newN s ⟨1,no,cpu,a,b⟩:=rfl
 have hc:doC s ⟨1,no,cpu,a,b⟩=newC s ⟨1,no,cpu,a,b⟩:=rfl
 unfold qaO qaS
 rw [hs,hcb,hd,hc]
 refine ⟨?_,?_⟩
 ·by_cases h:newN s ⟨1,no,cpu,a,b⟩=0
  ·rw [h];rfl
  ·rw [if_neg (by omega)]
   have:(newN s ⟨1,no,cpu,a,b⟩==0)=false:=by simpa using h
   rw [this]
   rfl
 ·show ((newN s ⟨1,no,cpu,a,b⟩).toNat:Int)=newN s ⟨1,no,cpu,a,b⟩
  omega
set_option linter.unusedSimpArgs false in
set_option maxHeartbeats 8000000 in
theorem qlK (a:Option Addr) (n cap:Nat) (w:World) (hm:n <= maxLen) (hb:∀ g,w.heap.size <= g->Bytes g w a n) (hg:GlobE w) {er:Nat->Addr} (E:Errs w er) :
  Calls Tryz.prog 5 #[.slice a n cap] w fun e w'=>e = .returned (.bool true) /\ Keeps w w':=by
 by_cases hn:n <= 1048576
 case neg =>
  have hd:decide (1048576 < (n:Int))=true:=by simp;omega
  go_enter Tryz.func5,Tryz.ntmps5
  go_wp2_with (go_at_call 6;refine (qfV _ _ _ _ hm).mono ?_;rintro e w1 ⟨rfl,rfl⟩)
  go_ret
  exact ⟨rfl,Keeps.refl _⟩
 have hd:decide (1048576 < (n:Int))=false:=by simp;omega
 have HB:Hid (∀ g,w.heap.size <= g->Bytes g w a n):=hb
 have HG:Hid (GlobE w):=hg
 have HE:Hid (Errs w er):=E
 clear hb hg E
 go_enter Tryz.func5,Tryz.ntmps5
 go_wp2_with fail
 refine (qfV _ _ _ _ hm).mono ?_
 rintro e w0 ⟨rfl,rfl⟩
 rw [hd]
 go_upto_region 4 with (go_at_call 7;refine (qih a n cap _ hn HB.out).mono ?_;rintro e w1 ⟨s,v,vs,c,rfl,o1,sz,k1⟩;obtain ⟨⟨yA,yB,yC⟩,⟨yD,yE,yF⟩,⟨yG,yH,yI⟩,⟨yJ,yK,yL⟩,⟨yM,yN,yO⟩⟩:=v)
 have kX:Keeps w0 ((w1.alloc (.cells (syc s ⟨⟨yA,yB,yC⟩,⟨yD,yE,yF⟩,⟨yG,yH,yI⟩,⟨yJ,yK,yL⟩,⟨yM,yN,yO⟩⟩) 30)).alloc (.cells (cc c) 32)):=(k1.alloc _).alloc _
 have BX:Hid (Blk ((w1.alloc (.cells (syc s ⟨⟨yA,yB,yC⟩,⟨yD,yE,yF⟩,⟨yG,yH,yI⟩,⟨yJ,yK,yL⟩,⟨yM,yN,yO⟩⟩) 30)).alloc (.cells (cc c) 32)) w1.heap.size (syc s ⟨⟨yA,yB,yC⟩,⟨yD,yE,yF⟩,⟨yG,yH,yI⟩,⟨yJ,yK,yL⟩,⟨yM,yN,yO⟩⟩)):=(Blk.new _ _ _).alloc _
 have SX:Hid (SysOn ((w1.alloc (.cells (syc s ⟨⟨yA,yB,yC⟩,⟨yD,yE,yF⟩,⟨yG,yH,yI⟩,⟨yJ,yK,yL⟩,⟨yM,yN,yO⟩⟩) 30)).alloc (.cells (cc c) 32)) ⟨⟨yA,yB,yC⟩,⟨yD,yE,yF⟩,⟨yG,yH,yI⟩,⟨yJ,yK,yL⟩,⟨yM,yN,yO⟩⟩ s):=(o1.keeps (((Keeps.refl w1).alloc _).alloc _)).on (by have:=sz.2.2;omega)
 change Code.wp _ _ _ _ ((w1.alloc (.cells (syc s ⟨⟨yA,yB,yC⟩,⟨yD,yE,yF⟩,⟨yG,yH,yI⟩,⟨yJ,yK,yL⟩,⟨yM,yN,yO⟩⟩) 30)).alloc (.cells (cc c) 32))
 clear k1 o1 hd
 generalize ((w1.alloc (.cells (syc s ⟨⟨yA,yB,yC⟩,⟨yD,yE,yF⟩,⟨yG,yH,yI⟩,⟨yJ,yK,yL⟩,⟨yM,yN,yO⟩⟩) 30)).alloc (.cells (cc c) 32))=X at *
 generalize w1.heap.size=sb at *
 have e0:∀ w',Keeps X w'->∀ q,w'.cell? ⟨sb,q,none⟩=(syc s ⟨⟨yA,yB,yC⟩,⟨yD,yE,yF⟩,⟨yG,yH,yI⟩,⟨yJ,yK,yL⟩,⟨yM,yN,yO⟩⟩)[q]?:=fun w' k=>(BX.out.keeps k).cells
 dsimp only [syc] at e0
 obtain ⟨z,Hz⟩:∃ z,Hid (sysB s=z):=⟨_,rfl⟩
 have hzz:(z != z)=false:=by simp
 have cI:Hid (∀ w',Keeps X w'->Calls Tryz.prog 8 #[.agg (syc s ⟨⟨yA,yB,yC⟩,⟨yD,yE,yF⟩,⟨yG,yH,yI⟩,⟨yJ,yK,yL⟩,⟨yM,yN,yO⟩⟩)] w' fun e w''=>e = .returned (.bool z) /\ Keeps w' w''):=fun w' k=>by
  have:=qgC w' ⟨⟨yA,yB,yC⟩,⟨yD,yE,yF⟩,⟨yG,yH,yI⟩,⟨yJ,yK,yL⟩,⟨yM,yN,yO⟩⟩ s (HG.out.keeps (kX.trans k)) (SX.out.keeps k)
  rw [Hz.out] at this
  exact this
 have cS:Hid (∀ w',Keeps X w'->Calls Tryz.prog 9 #[.agg (syc s ⟨⟨yA,yB,yC⟩,⟨yD,yE,yF⟩,⟨yG,yH,yI⟩,⟨yJ,yK,yL⟩,⟨yM,yN,yO⟩⟩)] w' fun e w''=>e = .returned (.bool z) /\ Keeps w' w''):=fun w' k=>by
  have:=qeM (SX.out.keeps k)
  rw [Hz.out] at this
  exact this
 refine wp_region_held_drew (S:=(fun w'=>Keeps X w')) (by kernel_rfl) ?_ (fun hHeld => ?_)
 ·exact (Keeps.refl X).drew
 refine Plan.go [0,2] ?_
 iterate 2 (refine qac (by simp only [qab];rfl) (by kernel_rfl) (by exact fun _ _ _ h=>h) (by rfl) (by assumption) (fun w _=>by go_simp;try (with_reducible rfl)) ?_;try simp only [qaa])
 refine Plan.nil ?_
 refine qad 1 (by kernel_rfl) (by simp only [qab];rfl) (fun K hK => ?_)
 go_simp
 first
  | (go_at_call 8;refine (cI.out _ (by assumption)).mono ?_;rintro e w2 ⟨rfl,k2⟩)
  | (go_at_call 9;refine (cS.out _ (by assumption)).mono ?_;rintro e w3 ⟨rfl,k3⟩)
 try go_wp2_with fail
 refine hK.out _ _ ?_ (fun hHeld => ?_)
 ·exact Keeps.trans (by assumption) (by assumption)
 clear hK K
 try simp only [qaa]
 refine qad 3 (by kernel_rfl) (by simp only [qab];rfl) (fun K hK => ?_)
 go_simp
 first
  | (go_at_call 8;refine (cI.out _ (by assumption)).mono ?_;rintro e w2 ⟨rfl,k2⟩)
  | (go_at_call 9;refine (cS.out _ (by assumption)).mono ?_;rintro e w3 ⟨rfl,k3⟩)
 try go_wp2_with fail
 refine hK.out _ _ ?_ (fun hHeld => ?_)
 ·exact Keeps.trans (by assumption) (by assumption)
 clear hK K
 try simp only [qaa]
 refine qar 4 (v := ?_) (by simp only [qab];rfl) (by kernel_rfl) (by exact fun _ _ _ h=>h) (by rfl) (by assumption) ?_ ?_
 rotate_left
 ·(intro w _;go_simp;try (with_reducible rfl))
 try simp only [qaa]
 refine wpAnyH_done (by kernel_rfl) ?_ _
 have K3:Keeps X w3:=by assumption
 have f0:∀ w',Keeps w3 w'->∀ q,w'.cell? ⟨sb,q,none⟩=(syc s ⟨⟨yA,yB,yC⟩,⟨yD,yE,yF⟩,⟨yG,yH,yI⟩,⟨yJ,yK,yL⟩,⟨yM,yN,yO⟩⟩)[q]?:=fun w' k=>(BX.out.keeps (K3.trans k)).cells
 dsimp only [syc] at f0
 have Htn:Hid (s.tasks.length=yB):=SX.out.lay.tl
 have htn:yB <= 30:=by rw [<- Htn.out];exact sz.1
 clear e0 k2 k3 hHeld hzz cI
 cases z
 ·go_wp2_with (go_at_call 9;refine (cS.out _ K3).mono ?_;rintro e w4 ⟨rfl,k4⟩)
  go_ret
  exact ⟨rfl,(kX.trans K3).trans k4⟩
 by_cases h12:12 <= yB
 ·have h12':decide ((12:Int) <= (yB:Int))=true:=by simp;omega
  go_wp2_with (go_at_call 9;refine (cS.out _ K3).mono ?_;rintro e w4 ⟨rfl,k4⟩)
  go_ret
  exact ⟨rfl,(kX.trans K3).trans k4⟩
 have h12':decide ((12:Int) <= (yB:Int))=false:=by simp;omega
 obtain ⟨m,Hm⟩:∃ m,Hid (qau s.tasks 777=m):=⟨_,rfl⟩
 have cA:Hid (∀ w',Keeps w3 w'->Calls Tryz.prog 17 #[.slice yA yB yC,.int .i64 777] w' fun e w''=>e = .returned (.int .i64 m) /\ Keeps w' w''):=fun w' k=>by
  have:=qew yA yC s.tasks 777 w' (by rw [Htn.out];unfold maxLen;omega) (SX.out.keeps (K3.trans k)).lay.t
  rw [Htn.out,Hm.out] at this
  exact this
 by_cases h7:0 <= m
 ·have h7':decide (0 <= m)=true:=by simp;omega
  go_wp2_with first
   | (go_at_call 9;refine (cS.out _ K3).mono ?_;rintro e w4 ⟨rfl,k4⟩)
   | (go_at_call 17;refine (cA.out _ k4).mono ?_;rintro e w5 ⟨rfl,k5⟩)
  go_ret
  exact ⟨rfl,((kX.trans K3).trans k4).trans k5⟩
 have h7':decide (0 <= m)=false:=by simp;omega
 go_upto_region 8 with first
  | (go_at_call 9;refine (cS.out _ K3).mono ?_;rintro e w4 ⟨rfl,k4⟩)
  | (go_at_call 17;refine (cA.out _ k4).mono ?_;rintro e w5 ⟨rfl,k5⟩)
 have K5:Keeps X w5:=(K3.trans k4).trans k5
 have HB5:Hid (∀ g,w5.heap.size <= g->Bytes g w5 a n):=fun g hg=>(HB.out g (by have:=(kX.trans K5).size;omega)).but (.of (kX.trans K5))
 clear cS cA k4 k5 K3 f0
 go_upto_region 9 with (go_at_call 18;refine (qg8 a n cap 1 _ hn (by omega) (by omega) HB5.out).mono ?_;rintro e w6 ⟨x1,rfl,x10,x11,hw6⟩;have hw7:=hw6.symm;subst hw7;clear hw6)
 have hm1:0 <= x1 % 12 /\ x1 % 12 <= 11:=by omega
 generalize x1 % 12=m1 at *
 have hp:1 <= 1+m1 /\ 1+m1 <= 12:=by omega
 generalize 1+m1=p at *
 obtain ⟨hp1,hp2⟩:=hp
 have hp0:p≠0:=by omega
 clear hm1 x10 x11
 go_upto_region 10 with (go_at_call 18;refine (qg8 a n cap 2 _ hn (by omega) (by omega) HB5.out).mono ?_;rintro e w6 ⟨x2,rfl,x20,x21,hw6⟩;have hw7:=hw6.symm;subst hw7;clear hw6;have hq0:0 <= x2 % p:=Int.emod_nonneg _ hp0;have hq1:x2 % p < p:=Int.emod_lt_of_pos _ (by omega);have hqm:x2.tmod p=x2 % p:=Int.tmod_eq_emod_of_nonneg x20)
 generalize x2 % p=m2 at *
 have hq:1 <= 1+m2 /\ 1+m2 <= p:=by omega
 generalize 1+m2=q at *
 obtain ⟨hqa,hqb⟩:=hq
 clear hq0 hq1 hqm x20 x21 HB5
 have KY:Keeps X (w5.alloc (.cells #[.int .i64 q,.int .i64 p] 51)):=K5.alloc _
 have BS:Hid (Blk (w5.alloc (.cells #[.int .i64 q,.int .i64 p] 51)) w5.heap.size #[.int .i64 q,.int .i64 p]):=Blk.new _ _ _
 have hxl:sb < w5.heap.size:=Nat.lt_of_lt_of_le BX.out.lt K5.size
 change Code.wp _ _ _ _ (w5.alloc (.cells #[.int .i64 q,.int .i64 p] 51))
 clear K5
 generalize (w5.alloc (.cells #[.int .i64 q,.int .i64 p] 51))=Y at *
 generalize w5.heap.size=xb at *
 have g0:∀ w',Keeps Y w'->∀ j,w'.cell? ⟨sb,j,none⟩=(syc s ⟨⟨yA,yB,yC⟩,⟨yD,yE,yF⟩,⟨yG,yH,yI⟩,⟨yJ,yK,yL⟩,⟨yM,yN,yO⟩⟩)[j]?:=fun w' k=>(BX.out.keeps (KY.trans k)).cells
 have g1:∀ w',Keeps Y w'->∀ j,w'.cell? ⟨xb,j,none⟩=#[.int .i64 q,.int .i64 p][j]?:=fun w' k=>(BS.out.keeps k).cells
 dsimp only [syc] at g0
 obtain ⟨nn,Hnn⟩:∃ x,Hid ((newN s ⟨1,777,0,q,p⟩).toNat=x):=⟨_,rfl⟩
 obtain ⟨s2,Hs2⟩:∃ x,Hid ((if nn=0 then newC s ⟨1,777,0,q,p⟩ else s)=x):=⟨_,rfl⟩
 have hszs:qai s <= 5000:=sz.2.2
 have cC:Hid (∀ w',Keeps Y w'->Calls Tryz.prog 11 #[.agg (syc s ⟨⟨yA,yB,yC⟩,⟨yD,yE,yF⟩,⟨yG,yH,yI⟩,⟨yJ,yK,yL⟩,⟨yM,yN,yO⟩⟩),ck ⟨1,777,0,q,p⟩] w' (qgB s2 (nn:Int) w')):=fun w' k=>by
  have:=qj6 ⟨⟨yA,yB,yC⟩,⟨yD,yE,yF⟩,⟨yG,yH,yI⟩,⟨yJ,yK,yL⟩,⟨yM,yN,yO⟩⟩ s (newC s ⟨1,777,0,q,p⟩) w' (SX.out.keeps (KY.trans k)) Hz.out (HG.out.keeps (kX.trans (KY.trans k))) 777 0 q p (by simp [qaC,qaB,eqC,inB]) (HE.out.keeps (kX.trans (KY.trans k))) nn (by rw [<- Hnn.out];exact qlI _ _) (fun W E' h'=>qjz ⟨⟨yA,yB,yC⟩,⟨yD,yE,yF⟩,⟨yG,yH,yI⟩,⟨yJ,yK,yL⟩,⟨yM,yN,yO⟩⟩ s _ W h' (by omega) 777 0 q p E' nn (fun W' lo ob v1 vs1 V lo' E'' EB ta=>by have:=qjv V lo' E'' EB (by omega) ta 777 0 q p;rw [Hnn.out] at this;exact this))
  rw [Hs2.out] at this
  exact this
 go_upto_region 11 with (go_at_call 11;refine (cC.out _ (Keeps.refl Y)).mono ?_;rintro e w7 ⟨v7,vs7,rfl,o7,k7⟩)
 have KU:Keeps Y (w7.alloc (.cells (syc s2 v7) 30)):=k7.alloc _
 have BU:Hid (Blk (w7.alloc (.cells (syc s2 v7) 30)) w7.heap.size (syc s2 v7)):=Blk.new _ _ _
 have OU:Hid (OwnS (w7.alloc (.cells (syc s2 v7) 30)) Y.heap.size v7 vs7 s2):=o7.keeps ((Keeps.refl w7).alloc _)
 change Code.wp _ _ _ _ (w7.alloc (.cells (syc s2 v7) 30))
 clear k7 o7 cC g0 g1
 generalize (w7.alloc (.cells (syc s2 v7) 30))=U at *
 generalize w7.heap.size=ub at *
 have SU:Hid (SysOn U ⟨⟨yA,yB,yC⟩,⟨yD,yE,yF⟩,⟨yG,yH,yI⟩,⟨yJ,yK,yL⟩,⟨yM,yN,yO⟩⟩ s):=SX.out.keeps (KY.trans KU)
 have g0:∀ w',Keeps U w'->∀ j,w'.cell? ⟨sb,j,none⟩=(syc s ⟨⟨yA,yB,yC⟩,⟨yD,yE,yF⟩,⟨yG,yH,yI⟩,⟨yJ,yK,yL⟩,⟨yM,yN,yO⟩⟩)[j]?:=fun w' k=>(BX.out.keeps ((KY.trans KU).trans k)).cells
 have g1:∀ w',Keeps U w'->∀ j,w'.cell? ⟨xb,j,none⟩=#[.int .i64 q,.int .i64 p][j]?:=fun w' k=>(BS.out.keeps (KU.trans k)).cells
 dsimp only [syc] at g0
 obtain ⟨f,Hf⟩:∃ x,Hid (qaL (qan s 0++[(q,p)])=x):=⟨_,rfl⟩
 obtain ⟨ns,Hns⟩:∃ x,Hid ((qan s 0).length=x):=⟨_,rfl⟩
 have hns:ns <= 10000:=by
  rw [<- Hns.out]
  unfold qan
  rw [List.length_append,List.length_map,List.length_map]
  have h1:=List.length_filter_le (qaI 0) s.tasks
  have h2:=List.length_filter_le (ghOn 0) s.ghosts
  unfold qai at hszs
  omega
 go_cut [9] (fun x wx=>x = .bool f /\ Hid (Keeps U wx))
 case first=>as_aux_lemma =>
  refine wp_region_held_drew (S:=fun w'=>Keeps U w') (by kernel_rfl) ?_ (fun hHeld => ?_)
  ·exact (Keeps.refl U).drew
  have H0:Keeps U U.drew:=(Keeps.refl U).drew
  generalize U.drew=D0 at *
  refine Plan.go [1,4] ?_
  iterate 2 (refine qac (by simp only [qab];rfl) (by kernel_rfl) (by exact fun _ _ _ h=>h) (by rfl) (by assumption) (fun w _=>by go_simp;try (with_reducible rfl)) ?_;try simp only [qaa])
  refine Plan.nil ?_
  refine wpAnyH_ready (rs:=[0,2,5]) (by kernel_rfl) (by simp) ?_
  refine (AllReadyH.cons (by simp only [qab];rfl) (fun K hK => ?_) (AllReadyH.cons (by simp only [qab];rfl) (fun K hK => ?_) (AllReadyH.cons (by simp only [qab];rfl) (fun K hK => ?_) AllReadyH.nil)))
  ·go_simp
   try go_wp2_with fail
   refine hK.out _ _ ?_ (fun hHeld => ?_)
   ·exact Keeps.alloc H0 _
   clear hK K
   try simp only [qaa]
   have A1:OwnP (D0.alloc (.cells #[] 51)) U.heap.size (.slice (some ⟨D0.heap.size,0,none⟩) 0 0) []:=Own.new 51 2 pc D0 (Keeps.size H0)
   have kk:=blkK D0 (.cells #[] 51)
   have H1:Keeps U (D0.alloc (.cells #[] 51)):=H0.alloc _
   clear kk
   generalize D0.alloc (.cells #[] 51)=D1 at *
   generalize D0.heap.size=bA at *
   refine wpAnyH_ready (rs:=[2,5]) (by kernel_rfl) (by simp) ?_
   refine (AllReadyH.cons (by simp only [qab];rfl) (fun K hK => ?_) (AllReadyH.cons (by simp only [qab];rfl) (fun K hK => ?_) AllReadyH.nil))
   ·go_simp
    (go_at_call 16;refine (qc4 _ ⟨⟨yA,yB,yC⟩,⟨yD,yE,yF⟩,⟨yG,yH,yI⟩,⟨yJ,yK,yL⟩,⟨yM,yN,yO⟩⟩ s 0 (SU.out.keeps H1)).mono ?_;rintro e D2 ⟨u,rfl,S2,kk⟩;obtain ⟨aS,cS,eS⟩:=Own.form S2 qaq;rw [Hns.out] at eS;subst eS)
    try go_wp2_with fail
    have H2:Keeps U D2:=H1.trans kk
    refine hK.out _ _ ?_ (fun hHeld => ?_)
    ·exact H2
    clear hK K
    try simp only [qaa]
    have A2:=A1.keeps kk
    clear kk
    refine wpAnyH_ready (rs:=[3,5]) (by kernel_rfl) (by simp) ?_
    refine (AllReadyH.cons (by simp only [qab];rfl) (fun K hK => ?_) (AllReadyH.cons (by simp only [qab];rfl) (fun K hK => ?_) AllReadyH.nil))
    ·(refine qdd rfl (.tmp 58) (.tmp 60) 46 rfl U.heap.size 51 (.agg #[.int .i64 0,.int .i64 0]) 2 16 pc Tryz.underlying46 (by kernel_rfl) rfl (by decide) qaq qba (.slice (some ⟨bA,0,none⟩) 0 0) (by simp [Act.eval]) A2 (Keeps.size H2) (qan s 0) ⟨aS,ns,cS⟩ (Own.row (x:=⟨aS,ns,cS⟩) S2 qaq).2.2.1 (Own.row (x:=⟨aS,ns,cS⟩) S2 qaq).2.1 Hns.out (by simp [Act.eval]) (by rw [Hns.out];omega) (by decide) ?_;intro v3 D3 R3 g3 f3;obtain ⟨a3,c3,e3⟩:=Own.form R3 qaq;rw [Hns.out] at e3;subst e3)
     have H3:Keeps U D3:=Keeps.grown H2 g3 (fun k e=>(A2.ltb k e).1)
     refine hK.out _ _ ?_ (fun hHeld => ?_)
     ·exact H3
     clear hK K
     try simp only [qaa]
     clear g3 f3
     refine qad 5 (by kernel_rfl) (by simp only [qab];rfl) (fun K hK => ?_)
     go_simp
     try go_wp2_with fail
     refine hK.out _ _ ?_ (fun hHeld => ?_)
     ·exact Keeps.alloc H3 _
     clear hK K
     try simp only [qaa]
     have B4:Blk (D3.alloc (.cells #[.int .i64 q,.int .i64 p] 51)) D3.heap.size (pc (q,p)):=Blk.new _ _ _
     have kk:=blkK D3 (.cells #[.int .i64 q,.int .i64 p] 51)
     have H4:Keeps U (D3.alloc (.cells #[.int .i64 q,.int .i64 p] 51)):=H3.alloc _
     have R4:=R3.keeps kk
     clear kk
     generalize D3.alloc (.cells #[.int .i64 q,.int .i64 p] 51)=D4 at *
     generalize D3.heap.size=bB at *
     refine qad 6 (by kernel_rfl) (by simp only [qab];rfl) (fun K hK => ?_)
     (refine qbU rfl (.tmp 61) (.tmp 63) 46 rfl U.heap.size 51 (.agg #[.int .i64 0,.int .i64 0]) 2 16 pc Tryz.underlying46 (by kernel_rfl) rfl (by decide) qaq qba (.slice a3 ns c3) (qan s 0) (by simp [Act.eval]) R4 (Keeps.size H4) [(q,p)] bB 0 1 (qb3 B4) (by simp [Act.eval]) (by rw [Hns.out];simp [maxLen];omega) (by rw [Hns.out];simp;omega) ?_;intro v6 D5 O6 g6 f6)
     have H5:Keeps U D5:=Keeps.grown H4 g6 (fun k e=>(R4.ltb k e).1)
     refine hK.out _ _ ?_ (fun hHeld => ?_)
     ·exact H5
     clear hK K
     try simp only [qaa]
     clear g6 f6
     refine qad 7 (by kernel_rfl) (by simp only [qab];rfl) (fun K hK => ?_)
     go_simp
     (go_at_call 19;refine (qca O6).mono ?_;rintro e D6 ⟨rfl,kk⟩;rw [Hf.out])
     try go_wp2_with fail
     have H6:Keeps U D6:=H5.trans kk
     refine hK.out _ _ ?_ (fun hHeld => ?_)
     ·exact H6
     clear hK K
     try simp only [qaa]
     refine Plan.go [8] ?_
     iterate 1 (refine qac (by simp only [qab];rfl) (by kernel_rfl) (by exact fun _ _ _ h=>h) (by rfl) (by assumption) (fun w _=>by go_simp;try (with_reducible rfl)) ?_;try simp only [qaa])
     refine Plan.nil ?_
     refine wpAnyH_done (by kernel_rfl) ?_ _
     go_wp2
     go_meet
     exact ⟨rfl,H6⟩
    ·go_simp
     try go_wp2_with fail
     refine hK.out _ _ ?_ (fun hHeld => ?_)
     ·exact Keeps.alloc H2 _
     clear hK K
     try simp only [qaa]
     have B7:Blk (D2.alloc (.cells #[.int .i64 q,.int .i64 p] 51)) D2.heap.size (pc (q,p)):=Blk.new _ _ _
     have kk:=blkK D2 (.cells #[.int .i64 q,.int .i64 p] 51)
     have H7:Keeps U (D2.alloc (.cells #[.int .i64 q,.int .i64 p] 51)):=H2.alloc _
     have hAB:bA≠D2.heap.size:=by have hh:bA < D2.heap.size:=(A2.ltb _ rfl).2;omega
     have A7:=A2.keeps kk
     have S7:=S2.keeps kk
     clear kk
     generalize D2.alloc (.cells #[.int .i64 q,.int .i64 p] 51)=D7 at *
     generalize D2.heap.size=bB at *
     refine qad 3 (by kernel_rfl) (by simp only [qab];rfl) (fun K hK => ?_)
     (refine qdd rfl (.tmp 58) (.tmp 60) 46 rfl U.heap.size 51 (.agg #[.int .i64 0,.int .i64 0]) 2 16 pc Tryz.underlying46 (by kernel_rfl) rfl (by decide) qaq qba (.slice (some ⟨bA,0,none⟩) 0 0) (by simp [Act.eval]) A7 (Keeps.size H7) (qan s 0) ⟨aS,ns,cS⟩ (Own.row (x:=⟨aS,ns,cS⟩) S7 qaq).2.2.1 (Own.row (x:=⟨aS,ns,cS⟩) S7 qaq).2.1 Hns.out (by simp [Act.eval]) (by rw [Hns.out];omega) (by decide) ?_;intro v3 D8 R8 g3 f3;obtain ⟨a3,c3,e3⟩:=Own.form R8 qaq;rw [Hns.out] at e3;subst e3)
     have H8:Keeps U D8:=Keeps.grown H7 g3 (fun k e=>(A7.ltb k e).1)
     refine hK.out _ _ ?_ (fun hHeld => ?_)
     ·exact H8
     clear hK K
     try simp only [qaa]
     have B8:=B7.grown g3 (by intro k hk;cases hk;exact hAB)
     clear g3 f3
     refine qad 6 (by kernel_rfl) (by simp only [qab];rfl) (fun K hK => ?_)
     (refine qbU rfl (.tmp 61) (.tmp 63) 46 rfl U.heap.size 51 (.agg #[.int .i64 0,.int .i64 0]) 2 16 pc Tryz.underlying46 (by kernel_rfl) rfl (by decide) qaq qba (.slice a3 ns c3) (qan s 0) (by simp [Act.eval]) R8 (Keeps.size H8) [(q,p)] bB 0 1 (qb3 B8) (by simp [Act.eval]) (by rw [Hns.out];simp [maxLen];omega) (by rw [Hns.out];simp;omega) ?_;intro v6 D9 O6 g6 f6)
     have H9:Keeps U D9:=Keeps.grown H8 g6 (fun k e=>(R8.ltb k e).1)
     refine hK.out _ _ ?_ (fun hHeld => ?_)
     ·exact H9
     clear hK K
     try simp only [qaa]
     clear g6 f6
     refine qad 7 (by kernel_rfl) (by simp only [qab];rfl) (fun K hK => ?_)
     go_simp
     (go_at_call 19;refine (qca O6).mono ?_;rintro e D10 ⟨rfl,kk⟩;rw [Hf.out])
     try go_wp2_with fail
     have H10:Keeps U D10:=H9.trans kk
     refine hK.out _ _ ?_ (fun hHeld => ?_)
     ·exact H10
     clear hK K
     try simp only [qaa]
     refine Plan.go [8] ?_
     iterate 1 (refine qac (by simp only [qab];rfl) (by kernel_rfl) (by exact fun _ _ _ h=>h) (by rfl) (by assumption) (fun w _=>by go_simp;try (with_reducible rfl)) ?_;try simp only [qaa])
     refine Plan.nil ?_
     refine wpAnyH_done (by kernel_rfl) ?_ _
     go_wp2
     go_meet
     exact ⟨rfl,H10⟩
   ·go_simp
    try go_wp2_with fail
    refine hK.out _ _ ?_ (fun hHeld => ?_)
    ·exact Keeps.alloc H1 _
    clear hK K
    try simp only [qaa]
    have B11:Blk (D1.alloc (.cells #[.int .i64 q,.int .i64 p] 51)) D1.heap.size (pc (q,p)):=Blk.new _ _ _
    have kk:=blkK D1 (.cells #[.int .i64 q,.int .i64 p] 51)
    have H11:Keeps U (D1.alloc (.cells #[.int .i64 q,.int .i64 p] 51)):=H1.alloc _
    have hAB:bA≠D1.heap.size:=by have hh:bA < D1.heap.size:=(A1.ltb _ rfl).2;omega
    have A11:=A1.keeps kk
    clear kk
    generalize D1.alloc (.cells #[.int .i64 q,.int .i64 p] 51)=D11 at *
    generalize D1.heap.size=bB at *
    refine qad 2 (by kernel_rfl) (by simp only [qab];rfl) (fun K hK => ?_)
    go_simp
    (go_at_call 16;refine (qc4 _ ⟨⟨yA,yB,yC⟩,⟨yD,yE,yF⟩,⟨yG,yH,yI⟩,⟨yJ,yK,yL⟩,⟨yM,yN,yO⟩⟩ s 0 (SU.out.keeps H11)).mono ?_;rintro e D12 ⟨u,rfl,S12,kk⟩;obtain ⟨aS,cS,eS⟩:=Own.form S12 qaq;rw [Hns.out] at eS;subst eS)
    try go_wp2_with fail
    have H12:Keeps U D12:=H11.trans kk
    refine hK.out _ _ ?_ (fun hHeld => ?_)
    ·exact H12
    clear hK K
    try simp only [qaa]
    have A12:=A11.keeps kk
    have B12:=B11.keeps kk
    clear kk
    refine qad 3 (by kernel_rfl) (by simp only [qab];rfl) (fun K hK => ?_)
    (refine qdd rfl (.tmp 58) (.tmp 60) 46 rfl U.heap.size 51 (.agg #[.int .i64 0,.int .i64 0]) 2 16 pc Tryz.underlying46 (by kernel_rfl) rfl (by decide) qaq qba (.slice (some ⟨bA,0,none⟩) 0 0) (by simp [Act.eval]) A12 (Keeps.size H12) (qan s 0) ⟨aS,ns,cS⟩ (Own.row (x:=⟨aS,ns,cS⟩) S12 qaq).2.2.1 (Own.row (x:=⟨aS,ns,cS⟩) S12 qaq).2.1 Hns.out (by simp [Act.eval]) (by rw [Hns.out];omega) (by decide) ?_;intro v3 D13 R13 g3 f3;obtain ⟨a3,c3,e3⟩:=Own.form R13 qaq;rw [Hns.out] at e3;subst e3)
    have H13:Keeps U D13:=Keeps.grown H12 g3 (fun k e=>(A12.ltb k e).1)
    refine hK.out _ _ ?_ (fun hHeld => ?_)
    ·exact H13
    clear hK K
    try simp only [qaa]
    have B13:=B12.grown g3 (by intro k hk;cases hk;exact hAB)
    clear g3 f3
    refine qad 6 (by kernel_rfl) (by simp only [qab];rfl) (fun K hK => ?_)
    (refine qbU rfl (.tmp 61) (.tmp 63) 46 rfl U.heap.size 51 (.agg #[.int .i64 0,.int .i64 0]) 2 16 pc Tryz.underlying46 (by kernel_rfl) rfl (by decide) qaq qba (.slice a3 ns c3) (qan s 0) (by simp [Act.eval]) R13 (Keeps.size H13) [(q,p)] bB 0 1 (qb3 B13) (by simp [Act.eval]) (by rw [Hns.out];simp [maxLen];omega) (by rw [Hns.out];simp;omega) ?_;intro v6 D14 O6 g6 f6)
    have H14:Keeps U D14:=Keeps.grown H13 g6 (fun k e=>(R13.ltb k e).1)
    refine hK.out _ _ ?_ (fun hHeld => ?_)
    ·exact H14
    clear hK K
    try simp only [qaa]
    clear g6 f6
    refine qad 7 (by kernel_rfl) (by simp only [qab];rfl) (fun K hK => ?_)
    go_simp
    (go_at_call 19;refine (qca O6).mono ?_;rintro e D15 ⟨rfl,kk⟩;rw [Hf.out])
    try go_wp2_with fail
    have H15:Keeps U D15:=H14.trans kk
    refine hK.out _ _ ?_ (fun hHeld => ?_)
    ·exact H15
    clear hK K
    try simp only [qaa]
    refine Plan.go [8] ?_
    iterate 1 (refine qac (by simp only [qab];rfl) (by kernel_rfl) (by exact fun _ _ _ h=>h) (by rfl) (by assumption) (fun w _=>by go_simp;try (with_reducible rfl)) ?_;try simp only [qaa])
    refine Plan.nil ?_
    refine wpAnyH_done (by kernel_rfl) ?_ _
    go_wp2
    go_meet
    exact ⟨rfl,H15⟩
  ·go_simp
   (go_at_call 16;refine (qc4 _ ⟨⟨yA,yB,yC⟩,⟨yD,yE,yF⟩,⟨yG,yH,yI⟩,⟨yJ,yK,yL⟩,⟨yM,yN,yO⟩⟩ s 0 (SU.out.keeps H0)).mono ?_;rintro e D16 ⟨u,rfl,S16,kk⟩;obtain ⟨aS,cS,eS⟩:=Own.form S16 qaq;rw [Hns.out] at eS;subst eS)
   try go_wp2_with fail
   have H16:Keeps U D16:=H0.trans kk
   refine hK.out _ _ ?_ (fun hHeld => ?_)
   ·exact H16
   clear hK K
   try simp only [qaa]
   clear kk
   refine wpAnyH_ready (rs:=[0,5]) (by kernel_rfl) (by simp) ?_
   refine (AllReadyH.cons (by simp only [qab];rfl) (fun K hK => ?_) (AllReadyH.cons (by simp only [qab];rfl) (fun K hK => ?_) AllReadyH.nil))
   ·go_simp
    try go_wp2_with fail
    refine hK.out _ _ ?_ (fun hHeld => ?_)
    ·exact Keeps.alloc H16 _
    clear hK K
    try simp only [qaa]
    have A17:OwnP (D16.alloc (.cells #[] 51)) U.heap.size (.slice (some ⟨D16.heap.size,0,none⟩) 0 0) []:=Own.new 51 2 pc D16 (Keeps.size H16)
    have kk:=blkK D16 (.cells #[] 51)
    have H17:Keeps U (D16.alloc (.cells #[] 51)):=H16.alloc _
    have S17:=S16.keeps kk
    clear kk
    generalize D16.alloc (.cells #[] 51)=D17 at *
    generalize D16.heap.size=bA at *
    refine wpAnyH_ready (rs:=[3,5]) (by kernel_rfl) (by simp) ?_
    refine (AllReadyH.cons (by simp only [qab];rfl) (fun K hK => ?_) (AllReadyH.cons (by simp only [qab];rfl) (fun K hK => ?_) AllReadyH.nil))
    ·(refine qdd rfl (.tmp 58) (.tmp 60) 46 rfl U.heap.size 51 (.agg #[.int .i64 0,.int .i64 0]) 2 16 pc Tryz.underlying46 (by kernel_rfl) rfl (by decide) qaq qba (.slice (some ⟨bA,0,none⟩) 0 0) (by simp [Act.eval]) A17 (Keeps.size H17) (qan s 0) ⟨aS,ns,cS⟩ (Own.row (x:=⟨aS,ns,cS⟩) S17 qaq).2.2.1 (Own.row (x:=⟨aS,ns,cS⟩) S17 qaq).2.1 Hns.out (by simp [Act.eval]) (by rw [Hns.out];omega) (by decide) ?_;intro v3 D18 R18 g3 f3;obtain ⟨a3,c3,e3⟩:=Own.form R18 qaq;rw [Hns.out] at e3;subst e3)
     have H18:Keeps U D18:=Keeps.grown H17 g3 (fun k e=>(A17.ltb k e).1)
     refine hK.out _ _ ?_ (fun hHeld => ?_)
     ·exact H18
     clear hK K
     try simp only [qaa]
     clear g3 f3
     refine qad 5 (by kernel_rfl) (by simp only [qab];rfl) (fun K hK => ?_)
     go_simp
     try go_wp2_with fail
     refine hK.out _ _ ?_ (fun hHeld => ?_)
     ·exact Keeps.alloc H18 _
     clear hK K
     try simp only [qaa]
     have B19:Blk (D18.alloc (.cells #[.int .i64 q,.int .i64 p] 51)) D18.heap.size (pc (q,p)):=Blk.new _ _ _
     have kk:=blkK D18 (.cells #[.int .i64 q,.int .i64 p] 51)
     have H19:Keeps U (D18.alloc (.cells #[.int .i64 q,.int .i64 p] 51)):=H18.alloc _
     have R19:=R18.keeps kk
     clear kk
     generalize D18.alloc (.cells #[.int .i64 q,.int .i64 p] 51)=D19 at *
     generalize D18.heap.size=bB at *
     refine qad 6 (by kernel_rfl) (by simp only [qab];rfl) (fun K hK => ?_)
     (refine qbU rfl (.tmp 61) (.tmp 63) 46 rfl U.heap.size 51 (.agg #[.int .i64 0,.int .i64 0]) 2 16 pc Tryz.underlying46 (by kernel_rfl) rfl (by decide) qaq qba (.slice a3 ns c3) (qan s 0) (by simp [Act.eval]) R19 (Keeps.size H19) [(q,p)] bB 0 1 (qb3 B19) (by simp [Act.eval]) (by rw [Hns.out];simp [maxLen];omega) (by rw [Hns.out];simp;omega) ?_;intro v6 D20 O6 g6 f6)
     have H20:Keeps U D20:=Keeps.grown H19 g6 (fun k e=>(R19.ltb k e).1)
     refine hK.out _ _ ?_ (fun hHeld => ?_)
     ·exact H20
     clear hK K
     try simp only [qaa]
     clear g6 f6
     refine qad 7 (by kernel_rfl) (by simp only [qab];rfl) (fun K hK => ?_)
     go_simp
     (go_at_call 19;refine (qca O6).mono ?_;rintro e D21 ⟨rfl,kk⟩;rw [Hf.out])
     try go_wp2_with fail
     have H21:Keeps U D21:=H20.trans kk
     refine hK.out _ _ ?_ (fun hHeld => ?_)
     ·exact H21
     clear hK K
     try simp only [qaa]
     refine Plan.go [8] ?_
     iterate 1 (refine qac (by simp only [qab];rfl) (by kernel_rfl) (by exact fun _ _ _ h=>h) (by rfl) (by assumption) (fun w _=>by go_simp;try (with_reducible rfl)) ?_;try simp only [qaa])
     refine Plan.nil ?_
     refine wpAnyH_done (by kernel_rfl) ?_ _
     go_wp2
     go_meet
     exact ⟨rfl,H21⟩
    ·go_simp
     try go_wp2_with fail
     refine hK.out _ _ ?_ (fun hHeld => ?_)
     ·exact Keeps.alloc H17 _
     clear hK K
     try simp only [qaa]
     have B22:Blk (D17.alloc (.cells #[.int .i64 q,.int .i64 p] 51)) D17.heap.size (pc (q,p)):=Blk.new _ _ _
     have kk:=blkK D17 (.cells #[.int .i64 q,.int .i64 p] 51)
     have H22:Keeps U (D17.alloc (.cells #[.int .i64 q,.int .i64 p] 51)):=H17.alloc _
     have hAB:bA≠D17.heap.size:=by have hh:bA < D17.heap.size:=(A17.ltb _ rfl).2;omega
     have A22:=A17.keeps kk
     have S22:=S17.keeps kk
     clear kk
     generalize D17.alloc (.cells #[.int .i64 q,.int .i64 p] 51)=D22 at *
     generalize D17.heap.size=bB at *
     refine qad 3 (by kernel_rfl) (by simp only [qab];rfl) (fun K hK => ?_)
     (refine qdd rfl (.tmp 58) (.tmp 60) 46 rfl U.heap.size 51 (.agg #[.int .i64 0,.int .i64 0]) 2 16 pc Tryz.underlying46 (by kernel_rfl) rfl (by decide) qaq qba (.slice (some ⟨bA,0,none⟩) 0 0) (by simp [Act.eval]) A22 (Keeps.size H22) (qan s 0) ⟨aS,ns,cS⟩ (Own.row (x:=⟨aS,ns,cS⟩) S22 qaq).2.2.1 (Own.row (x:=⟨aS,ns,cS⟩) S22 qaq).2.1 Hns.out (by simp [Act.eval]) (by rw [Hns.out];omega) (by decide) ?_;intro v3 D23 R23 g3 f3;obtain ⟨a3,c3,e3⟩:=Own.form R23 qaq;rw [Hns.out] at e3;subst e3)
     have H23:Keeps U D23:=Keeps.grown H22 g3 (fun k e=>(A22.ltb k e).1)
     refine hK.out _ _ ?_ (fun hHeld => ?_)
     ·exact H23
     clear hK K
     try simp only [qaa]
     have B23:=B22.grown g3 (by intro k hk;cases hk;exact hAB)
     clear g3 f3
     refine qad 6 (by kernel_rfl) (by simp only [qab];rfl) (fun K hK => ?_)
     (refine qbU rfl (.tmp 61) (.tmp 63) 46 rfl U.heap.size 51 (.agg #[.int .i64 0,.int .i64 0]) 2 16 pc Tryz.underlying46 (by kernel_rfl) rfl (by decide) qaq qba (.slice a3 ns c3) (qan s 0) (by simp [Act.eval]) R23 (Keeps.size H23) [(q,p)] bB 0 1 (qb3 B23) (by simp [Act.eval]) (by rw [Hns.out];simp [maxLen];omega) (by rw [Hns.out];simp;omega) ?_;intro v6 D24 O6 g6 f6)
     have H24:Keeps U D24:=Keeps.grown H23 g6 (fun k e=>(R23.ltb k e).1)
     refine hK.out _ _ ?_ (fun hHeld => ?_)
     ·exact H24
     clear hK K
     try simp only [qaa]
     clear g6 f6
     refine qad 7 (by kernel_rfl) (by simp only [qab];rfl) (fun K hK => ?_)
     go_simp
     (go_at_call 19;refine (qca O6).mono ?_;rintro e D25 ⟨rfl,kk⟩;rw [Hf.out])
     try go_wp2_with fail
     have H25:Keeps U D25:=H24.trans kk
     refine hK.out _ _ ?_ (fun hHeld => ?_)
     ·exact H25
     clear hK K
     try simp only [qaa]
     refine Plan.go [8] ?_
     iterate 1 (refine qac (by simp only [qab];rfl) (by kernel_rfl) (by exact fun _ _ _ h=>h) (by rfl) (by assumption) (fun w _=>by go_simp;try (with_reducible rfl)) ?_;try simp only [qaa])
     refine Plan.nil ?_
     refine wpAnyH_done (by kernel_rfl) ?_ _
     go_wp2
     go_meet
     exact ⟨rfl,H25⟩
   ·go_simp
    try go_wp2_with fail
    refine hK.out _ _ ?_ (fun hHeld => ?_)
    ·exact Keeps.alloc H16 _
    clear hK K
    try simp only [qaa]
    have B26:Blk (D16.alloc (.cells #[.int .i64 q,.int .i64 p] 51)) D16.heap.size (pc (q,p)):=Blk.new _ _ _
    have kk:=blkK D16 (.cells #[.int .i64 q,.int .i64 p] 51)
    have H26:Keeps U (D16.alloc (.cells #[.int .i64 q,.int .i64 p] 51)):=H16.alloc _
    have S26:=S16.keeps kk
    clear kk
    generalize D16.alloc (.cells #[.int .i64 q,.int .i64 p] 51)=D26 at *
    generalize D16.heap.size=bB at *
    refine qad 0 (by kernel_rfl) (by simp only [qab];rfl) (fun K hK => ?_)
    go_simp
    try go_wp2_with fail
    refine hK.out _ _ ?_ (fun hHeld => ?_)
    ·exact Keeps.alloc H26 _
    clear hK K
    try simp only [qaa]
    have A27:OwnP (D26.alloc (.cells #[] 51)) U.heap.size (.slice (some ⟨D26.heap.size,0,none⟩) 0 0) []:=Own.new 51 2 pc D26 (Keeps.size H26)
    have kk:=blkK D26 (.cells #[] 51)
    have H27:Keeps U (D26.alloc (.cells #[] 51)):=H26.alloc _
    have hAB:D26.heap.size≠bB:=by have:=B26.lt;omega
    have S27:=S26.keeps kk
    have B27:=B26.keeps kk
    clear kk
    generalize D26.alloc (.cells #[] 51)=D27 at *
    generalize D26.heap.size=bA at *
    refine qad 3 (by kernel_rfl) (by simp only [qab];rfl) (fun K hK => ?_)
    (refine qdd rfl (.tmp 58) (.tmp 60) 46 rfl U.heap.size 51 (.agg #[.int .i64 0,.int .i64 0]) 2 16 pc Tryz.underlying46 (by kernel_rfl) rfl (by decide) qaq qba (.slice (some ⟨bA,0,none⟩) 0 0) (by simp [Act.eval]) A27 (Keeps.size H27) (qan s 0) ⟨aS,ns,cS⟩ (Own.row (x:=⟨aS,ns,cS⟩) S27 qaq).2.2.1 (Own.row (x:=⟨aS,ns,cS⟩) S27 qaq).2.1 Hns.out (by simp [Act.eval]) (by rw [Hns.out];omega) (by decide) ?_;intro v3 D28 R28 g3 f3;obtain ⟨a3,c3,e3⟩:=Own.form R28 qaq;rw [Hns.out] at e3;subst e3)
    have H28:Keeps U D28:=Keeps.grown H27 g3 (fun k e=>(A27.ltb k e).1)
    refine hK.out _ _ ?_ (fun hHeld => ?_)
    ·exact H28
    clear hK K
    try simp only [qaa]
    have B28:=B27.grown g3 (by intro k hk;cases hk;exact hAB)
    clear g3 f3
    refine qad 6 (by kernel_rfl) (by simp only [qab];rfl) (fun K hK => ?_)
    (refine qbU rfl (.tmp 61) (.tmp 63) 46 rfl U.heap.size 51 (.agg #[.int .i64 0,.int .i64 0]) 2 16 pc Tryz.underlying46 (by kernel_rfl) rfl (by decide) qaq qba (.slice a3 ns c3) (qan s 0) (by simp [Act.eval]) R28 (Keeps.size H28) [(q,p)] bB 0 1 (qb3 B28) (by simp [Act.eval]) (by rw [Hns.out];simp [maxLen];omega) (by rw [Hns.out];simp;omega) ?_;intro v6 D29 O6 g6 f6)
    have H29:Keeps U D29:=Keeps.grown H28 g6 (fun k e=>(R28.ltb k e).1)
    refine hK.out _ _ ?_ (fun hHeld => ?_)
    ·exact H29
    clear hK K
    try simp only [qaa]
    clear g6 f6
    refine qad 7 (by kernel_rfl) (by simp only [qab];rfl) (fun K hK => ?_)
    go_simp
    (go_at_call 19;refine (qca O6).mono ?_;rintro e D30 ⟨rfl,kk⟩;rw [Hf.out])
    try go_wp2_with fail
    have H30:Keeps U D30:=H29.trans kk
    refine hK.out _ _ ?_ (fun hHeld => ?_)
    ·exact H30
    clear hK K
    try simp only [qaa]
    refine Plan.go [8] ?_
    iterate 1 (refine qac (by simp only [qab];rfl) (by kernel_rfl) (by exact fun _ _ _ h=>h) (by rfl) (by assumption) (fun w _=>by go_simp;try (with_reducible rfl)) ?_;try simp only [qaa])
    refine Plan.nil ?_
    refine wpAnyH_done (by kernel_rfl) ?_ _
    go_wp2
    go_meet
    exact ⟨rfl,H30⟩
  ·go_simp
   try go_wp2_with fail
   refine hK.out _ _ ?_ (fun hHeld => ?_)
   ·exact Keeps.alloc H0 _
   clear hK K
   try simp only [qaa]
   have B31:Blk (D0.alloc (.cells #[.int .i64 q,.int .i64 p] 51)) D0.heap.size (pc (q,p)):=Blk.new _ _ _
   have kk:=blkK D0 (.cells #[.int .i64 q,.int .i64 p] 51)
   have H31:Keeps U (D0.alloc (.cells #[.int .i64 q,.int .i64 p] 51)):=H0.alloc _
   clear kk
   generalize D0.alloc (.cells #[.int .i64 q,.int .i64 p] 51)=D31 at *
   generalize D0.heap.size=bB at *
   refine wpAnyH_ready (rs:=[0,2]) (by kernel_rfl) (by simp) ?_
   refine (AllReadyH.cons (by simp only [qab];rfl) (fun K hK => ?_) (AllReadyH.cons (by simp only [qab];rfl) (fun K hK => ?_) AllReadyH.nil))
   ·go_simp
    try go_wp2_with fail
    refine hK.out _ _ ?_ (fun hHeld => ?_)
    ·exact Keeps.alloc H31 _
    clear hK K
    try simp only [qaa]
    have A32:OwnP (D31.alloc (.cells #[] 51)) U.heap.size (.slice (some ⟨D31.heap.size,0,none⟩) 0 0) []:=Own.new 51 2 pc D31 (Keeps.size H31)
    have kk:=blkK D31 (.cells #[] 51)
    have H32:Keeps U (D31.alloc (.cells #[] 51)):=H31.alloc _
    have hAB:D31.heap.size≠bB:=by have:=B31.lt;omega
    have B32:=B31.keeps kk
    clear kk
    generalize D31.alloc (.cells #[] 51)=D32 at *
    generalize D31.heap.size=bA at *
    refine qad 2 (by kernel_rfl) (by simp only [qab];rfl) (fun K hK => ?_)
    go_simp
    (go_at_call 16;refine (qc4 _ ⟨⟨yA,yB,yC⟩,⟨yD,yE,yF⟩,⟨yG,yH,yI⟩,⟨yJ,yK,yL⟩,⟨yM,yN,yO⟩⟩ s 0 (SU.out.keeps H32)).mono ?_;rintro e D33 ⟨u,rfl,S33,kk⟩;obtain ⟨aS,cS,eS⟩:=Own.form S33 qaq;rw [Hns.out] at eS;subst eS)
    try go_wp2_with fail
    have H33:Keeps U D33:=H32.trans kk
    refine hK.out _ _ ?_ (fun hHeld => ?_)
    ·exact H33
    clear hK K
    try simp only [qaa]
    have A33:=A32.keeps kk
    have B33:=B32.keeps kk
    clear kk
    refine qad 3 (by kernel_rfl) (by simp only [qab];rfl) (fun K hK => ?_)
    (refine qdd rfl (.tmp 58) (.tmp 60) 46 rfl U.heap.size 51 (.agg #[.int .i64 0,.int .i64 0]) 2 16 pc Tryz.underlying46 (by kernel_rfl) rfl (by decide) qaq qba (.slice (some ⟨bA,0,none⟩) 0 0) (by simp [Act.eval]) A33 (Keeps.size H33) (qan s 0) ⟨aS,ns,cS⟩ (Own.row (x:=⟨aS,ns,cS⟩) S33 qaq).2.2.1 (Own.row (x:=⟨aS,ns,cS⟩) S33 qaq).2.1 Hns.out (by simp [Act.eval]) (by rw [Hns.out];omega) (by decide) ?_;intro v3 D34 R34 g3 f3;obtain ⟨a3,c3,e3⟩:=Own.form R34 qaq;rw [Hns.out] at e3;subst e3)
    have H34:Keeps U D34:=Keeps.grown H33 g3 (fun k e=>(A33.ltb k e).1)
    refine hK.out _ _ ?_ (fun hHeld => ?_)
    ·exact H34
    clear hK K
    try simp only [qaa]
    have B34:=B33.grown g3 (by intro k hk;cases hk;exact hAB)
    clear g3 f3
    refine qad 6 (by kernel_rfl) (by simp only [qab];rfl) (fun K hK => ?_)
    (refine qbU rfl (.tmp 61) (.tmp 63) 46 rfl U.heap.size 51 (.agg #[.int .i64 0,.int .i64 0]) 2 16 pc Tryz.underlying46 (by kernel_rfl) rfl (by decide) qaq qba (.slice a3 ns c3) (qan s 0) (by simp [Act.eval]) R34 (Keeps.size H34) [(q,p)] bB 0 1 (qb3 B34) (by simp [Act.eval]) (by rw [Hns.out];simp [maxLen];omega) (by rw [Hns.out];simp;omega) ?_;intro v6 D35 O6 g6 f6)
    have H35:Keeps U D35:=Keeps.grown H34 g6 (fun k e=>(R34.ltb k e).1)
    refine hK.out _ _ ?_ (fun hHeld => ?_)
    ·exact H35
    clear hK K
    try simp only [qaa]
    clear g6 f6
    refine qad 7 (by kernel_rfl) (by simp only [qab];rfl) (fun K hK => ?_)
    go_simp
    (go_at_call 19;refine (qca O6).mono ?_;rintro e D36 ⟨rfl,kk⟩;rw [Hf.out])
    try go_wp2_with fail
    have H36:Keeps U D36:=H35.trans kk
    refine hK.out _ _ ?_ (fun hHeld => ?_)
    ·exact H36
    clear hK K
    try simp only [qaa]
    refine Plan.go [8] ?_
    iterate 1 (refine qac (by simp only [qab];rfl) (by kernel_rfl) (by exact fun _ _ _ h=>h) (by rfl) (by assumption) (fun w _=>by go_simp;try (with_reducible rfl)) ?_;try simp only [qaa])
    refine Plan.nil ?_
    refine wpAnyH_done (by kernel_rfl) ?_ _
    go_wp2
    go_meet
    exact ⟨rfl,H36⟩
   ·go_simp
    (go_at_call 16;refine (qc4 _ ⟨⟨yA,yB,yC⟩,⟨yD,yE,yF⟩,⟨yG,yH,yI⟩,⟨yJ,yK,yL⟩,⟨yM,yN,yO⟩⟩ s 0 (SU.out.keeps H31)).mono ?_;rintro e D37 ⟨u,rfl,S37,kk⟩;obtain ⟨aS,cS,eS⟩:=Own.form S37 qaq;rw [Hns.out] at eS;subst eS)
    try go_wp2_with fail
    have H37:Keeps U D37:=H31.trans kk
    refine hK.out _ _ ?_ (fun hHeld => ?_)
    ·exact H37
    clear hK K
    try simp only [qaa]
    have B37:=B31.keeps kk
    clear kk
    refine qad 0 (by kernel_rfl) (by simp only [qab];rfl) (fun K hK => ?_)
    go_simp
    try go_wp2_with fail
    refine hK.out _ _ ?_ (fun hHeld => ?_)
    ·exact Keeps.alloc H37 _
    clear hK K
    try simp only [qaa]
    have A38:OwnP (D37.alloc (.cells #[] 51)) U.heap.size (.slice (some ⟨D37.heap.size,0,none⟩) 0 0) []:=Own.new 51 2 pc D37 (Keeps.size H37)
    have kk:=blkK D37 (.cells #[] 51)
    have H38:Keeps U (D37.alloc (.cells #[] 51)):=H37.alloc _
    have hAB:D37.heap.size≠bB:=by have:=B37.lt;omega
    have S38:=S37.keeps kk
    have B38:=B37.keeps kk
    clear kk
    generalize D37.alloc (.cells #[] 51)=D38 at *
    generalize D37.heap.size=bA at *
    refine qad 3 (by kernel_rfl) (by simp only [qab];rfl) (fun K hK => ?_)
    (refine qdd rfl (.tmp 58) (.tmp 60) 46 rfl U.heap.size 51 (.agg #[.int .i64 0,.int .i64 0]) 2 16 pc Tryz.underlying46 (by kernel_rfl) rfl (by decide) qaq qba (.slice (some ⟨bA,0,none⟩) 0 0) (by simp [Act.eval]) A38 (Keeps.size H38) (qan s 0) ⟨aS,ns,cS⟩ (Own.row (x:=⟨aS,ns,cS⟩) S38 qaq).2.2.1 (Own.row (x:=⟨aS,ns,cS⟩) S38 qaq).2.1 Hns.out (by simp [Act.eval]) (by rw [Hns.out];omega) (by decide) ?_;intro v3 D39 R39 g3 f3;obtain ⟨a3,c3,e3⟩:=Own.form R39 qaq;rw [Hns.out] at e3;subst e3)
    have H39:Keeps U D39:=Keeps.grown H38 g3 (fun k e=>(A38.ltb k e).1)
    refine hK.out _ _ ?_ (fun hHeld => ?_)
    ·exact H39
    clear hK K
    try simp only [qaa]
    have B39:=B38.grown g3 (by intro k hk;cases hk;exact hAB)
    clear g3 f3
    refine qad 6 (by kernel_rfl) (by simp only [qab];rfl) (fun K hK => ?_)
    (refine qbU rfl (.tmp 61) (.tmp 63) 46 rfl U.heap.size 51 (.agg #[.int .i64 0,.int .i64 0]) 2 16 pc Tryz.underlying46 (by kernel_rfl) rfl (by decide) qaq qba (.slice a3 ns c3) (qan s 0) (by simp [Act.eval]) R39 (Keeps.size H39) [(q,p)] bB 0 1 (qb3 B39) (by simp [Act.eval]) (by rw [Hns.out];simp [maxLen];omega) (by rw [Hns.out];simp;omega) ?_;intro v6 D40 O6 g6 f6)
    have H40:Keeps U D40:=Keeps.grown H39 g6 (fun k e=>(R39.ltb k e).1)
    refine hK.out _ _ ?_ (fun hHeld => ?_)
    ·exact H40
    clear hK K
    try simp only [qaa]
    clear g6 f6
    refine qad 7 (by kernel_rfl) (by simp only [qab];rfl) (fun K hK => ?_)
    go_simp
    (go_at_call 19;refine (qca O6).mono ?_;rintro e D41 ⟨rfl,kk⟩;rw [Hf.out])
    try go_wp2_with fail
    have H41:Keeps U D41:=H40.trans kk
    refine hK.out _ _ ?_ (fun hHeld => ?_)
    ·exact H41
    clear hK K
    try simp only [qaa]
    refine Plan.go [8] ?_
    iterate 1 (refine qac (by simp only [qab];rfl) (by kernel_rfl) (by exact fun _ _ _ h=>h) (by rfl) (by assumption) (fun w _=>by go_simp;try (with_reducible rfl)) ?_;try simp only [qaa])
    refine Plan.nil ?_
    refine wpAnyH_done (by kernel_rfl) ?_ _
    go_wp2
    go_meet
    exact ⟨rfl,H41⟩
 case rest =>
 obtain ⟨rfl,KC⟩:=hcut
 generalize wc=C at *
 clear g0 g1
 have KCX:Keeps X C:=(KY.trans KU).trans KC.out
 have hX:Keeps w0 C:=kX.trans KCX
 have g2:∀ w',Keeps C w'->∀ j,w'.cell? ⟨sb,j,none⟩=(syc s ⟨⟨yA,yB,yC⟩,⟨yD,yE,yF⟩,⟨yG,yH,yI⟩,⟨yJ,yK,yL⟩,⟨yM,yN,yO⟩⟩)[j]?:=fun w' k=>(BX.out.keeps (KCX.trans k)).cells
 have g3:∀ w',Keeps C w'->∀ j,w'.cell? ⟨ub,j,none⟩=(syc s2 v7)[j]?:=fun w' k=>(BU.out.keeps (KC.out.trans k)).cells
 dsimp only [syc] at g2 g3
 have PC:=qlM Hz.out (s:=s) (by rw [Htn.out];omega) (no:=777) (q:=q) (p:=p) (by omega) (by unfold qak;rw [Hm.out];simp;omega) (by omega) ⟨hqa,hqb⟩
 rw [Hf.out] at PC
 obtain ⟨T1,T2⟩:=qlJ Hz.out 777 0 q p
 rw [Hnn.out] at T1 T2
 rw [Hs2.out] at T1
 rw [<- T1,<- T2] at PC
 have HPC:Hid ((f=true->(nn:Int)=0 /\ 0 <= qau s2.tasks 777) /\ (f=false->(nn:Int)=4 /\ s2=s)):=PC
 have LU:Hid (Ts C v7.t.a s2.tasks /\ s2.tasks.length=v7.t.n /\ v7.t.n <= maxLen):=by
  have h1:=(OU.out.keeps KC.out).t.row qao
  exact ⟨h1.2.1,h1.1,h1.2.2.2⟩
 clear PC T1 T2
 cases f
 ·obtain ⟨e4,es⟩:=HPC.out.2 rfl
  have hl7:Hid (v7.t.n=yB):=by show _=_;rw [<- LU.out.2.1,es,Htn.out]
  have cT:Hid (Calls Tryz.prog 20 #[.slice v7.t.a v7.t.n v7.t.cap,.slice yA yB yC] C fun e w'=>e = .returned (.bool true) /\ Keeps C w'):=by
   show Calls _ _ _ _ _
   rw [hl7.out]
   exact qlH v7.t.a yA yB v7.t.cap yC s.tasks C Htn.out (by omega) (by have:=LU.out.1;rw [es] at this;exact this) (SX.out.keeps KCX).lay.t
  have hcm:((nn:Int)==4)=true:=by simp [e4]
  clear HPC e4 es LU hl7
  go_wp2_with (go_at_call 20;refine cT.out.mono ?_;rintro e w9 ⟨rfl,k9⟩)
  go_ret
  exact ⟨rfl,hX.trans k9⟩
 ·obtain ⟨e4,es⟩:=HPC.out.1 rfl
  have cT:=qew v7.t.a v7.t.cap s2.tasks 777 C (by rw [LU.out.2.1];exact LU.out.2.2) LU.out.1
  rw [LU.out.2.1] at cT
  obtain ⟨m2,Hm2⟩:∃ x,Hid (qau s2.tasks 777=x):=⟨_,rfl⟩
  rw [Hm2.out] at cT es
  have hcm:((nn:Int)==0)=true:=by simp [e4]
  have hmd:decide (0 <= m2)=true:=by simp;exact es
  clear HPC e4
  go_wp2_with (go_at_call 17;refine cT.mono ?_;rintro e w9 ⟨rfl,k9⟩)
  go_ret
  exact ⟨rfl,hX.trans k9⟩
end Go.Proofs.YteagpjlgjfaclaaGreatDoor
