/-
  Drawn systems: with a call.
  The law FnLent: its walk.
-/
import Derived.Test.YteagpjlgjfaclaaGreatDoorCallDraw3
import Derived.Test.YteagpjlgjfaclaaGreatDoorCallSpoil
import Derived.Test.YteagpjlgjfaclaaGreatDoorCallDo0
import Derived.Test.YteagpjlgjfaclaaGreatDoorLockDraw2
import Derived.Test.YteagpjlgjfaclaaGreatDoorImplLock
import Derived.Test.YteagpjlgjfaclaaGreatDoorImplSysOk
import Derived.Test.YteagpjlgjfaclaaGreatDoorCallSys
import Derived.Test.YteagpjlgjfaclaaGreatDoorSysLocks
import Derived.Test.YteagpjlgjfaclaaGreatDoorDraw1
import Derived.Test.YteagpjlgjfaclaaGreatDoorCallMove
import Derived.Deep.Cut
namespace Go.Proofs.YteagpjlgjfaclaaGreatDoor
set_option maxRecDepth 100000
open Go.RowKit
def Mf (w:World) (e:Ending) (w':World):Prop:=∃ (s:Sy) (v:Sv) (vs:List Lv) (c:Cl),e = .returned (.tuple #[.agg (ae s v),ck c]) /\ ay w' w.heap.size v vs s /\ sY s /\ aa w w'
set_option linter.unusedSimpArgs false in
set_option maxHeartbeats 8000000 in
theorem Mg (a:Option Addr) (n cap:Nat) (w:World) (hn:n <= 1048576) (hb:∀ g,w.heap.size <= g->Bytes g w a n) :
  Calls Tryz.prog 7 #[.slice a n cap] w (Mf w):=by
 have kW:aa w ((w.alloc (.cells zc 30)).alloc (.cells dX 32)):=((aa.refl w).alloc _).alloc _
 have B0:Hid (ai ((w.alloc (.cells zc 30)).alloc (.cells dX 32)) w.heap.size zc):=(ai.new _ _ _).alloc _
 have C0:Hid (ai ((w.alloc (.cells zc 30)).alloc (.cells dX 32)) (w.heap.size+1) dX):=by
  have:=ai.new (w.alloc (.cells zc 30)) dX 32
  show ai _ _ _
  simpa using this
 have HB:Hid (∀ g,w.heap.size+2 <= g->Bytes g ((w.alloc (.cells zc 30)).alloc (.cells dX 32)) a n):=fun g hg=>(hb g (by omega)).but (.of kW)
 have hws:((w.alloc (.cells zc 30)).alloc (.cells dX 32)).heap.size=w.heap.size+2:=by simp
 clear hb
 go_enter Tryz.func7,Tryz.ntmps7
 go_upto_region 1 with fail
 change Code.wp _ _ _ _ ((w.alloc (.cells zc 30)).alloc (.cells dX 32))
 generalize ((w.alloc (.cells zc 30)).alloc (.cells dX 32))=W at *
 go_upto_region 2 with (go_at_call 21;refine (GJ a n cap _ hn (fun g hg=>HB.out g (by omega))).mono ?_;rintro e w1 ⟨g,rfl,hg,hc1,k1⟩)
 have K1:aa w w1:=kW.trans k1
 have B1:Hid (ai w1 w.heap.size zc):=B0.out.keeps k1
 have C1:Hid (ai w1 (w.heap.size+1) dX):=C0.out.keeps k1
 have hg1:=hc1.lt
 have hwg:w.heap.size+1 < g:=by omega
 have hs1:=K1.size
 clear kW k1 B0 C0 HB hg hws
 go_upto_region 3 with (go_at_call 22;refine (Fq hc1 a n cap hn).mono ?_;rintro e w2 ⟨s,v,vs,rfl,o2,sz,hc2,k2⟩;obtain ⟨⟨yA,yB,yC⟩,⟨yD,yE,yF⟩,⟨yG,yH,yI⟩,⟨yJ,yK,yL⟩,⟨yM,yN,yO⟩⟩:=v)
 have kA:=cZ w2 (.cells (ae s ⟨⟨yA,yB,yC⟩,⟨yD,yE,yF⟩,⟨yG,yH,yI⟩,⟨yJ,yK,yL⟩,⟨yM,yN,yO⟩⟩) 30)
 have X0:Hid (ai (w2.alloc (.cells (ae s ⟨⟨yA,yB,yC⟩,⟨yD,yE,yF⟩,⟨yG,yH,yI⟩,⟨yJ,yK,yL⟩,⟨yM,yN,yO⟩⟩) 30)) w2.heap.size (ae s ⟨⟨yA,yB,yC⟩,⟨yD,yE,yF⟩,⟨yG,yH,yI⟩,⟨yJ,yK,yL⟩,⟨yM,yN,yO⟩⟩)):=ai.new _ _ _
 have K2:Hid (ab g w1 (w2.alloc (.cells (ae s ⟨⟨yA,yB,yC⟩,⟨yD,yE,yF⟩,⟨yG,yH,yI⟩,⟨yJ,yK,yL⟩,⟨yM,yN,yO⟩⟩) 30))):=k2.trans (.of kA)
 have O2:Hid (ay (w2.alloc (.cells (ae s ⟨⟨yA,yB,yC⟩,⟨yD,yE,yF⟩,⟨yG,yH,yI⟩,⟨yJ,yK,yL⟩,⟨yM,yN,yO⟩⟩) 30)) w1.heap.size ⟨⟨yA,yB,yC⟩,⟨yD,yE,yF⟩,⟨yG,yH,yI⟩,⟨yJ,yK,yL⟩,⟨yM,yN,yO⟩⟩ vs s):=o2.keeps kA
 have C2:=hc2.keeps kA
 have hxb:w1.heap.size <= w2.heap.size:=k2.size
 change Code.wp _ _ _ _ (w2.alloc (.cells (ae s ⟨⟨yA,yB,yC⟩,⟨yD,yE,yF⟩,⟨yG,yH,yI⟩,⟨yJ,yK,yL⟩,⟨yM,yN,yO⟩⟩) 30))
 clear kA k2 o2 hc1 hc2
 generalize (w2.alloc (.cells (ae s ⟨⟨yA,yB,yC⟩,⟨yD,yE,yF⟩,⟨yG,yH,yI⟩,⟨yJ,yK,yL⟩,⟨yM,yN,yO⟩⟩) 30))=Y at *
 generalize w2.heap.size=xb at *
 have e0:∀ w',ai w' xb (ae s ⟨⟨yA,yB,yC⟩,⟨yD,yE,yF⟩,⟨yG,yH,yI⟩,⟨yJ,yK,yL⟩,⟨yM,yN,yO⟩⟩)->∀ q,w'.cell? ⟨xb,q,none⟩=(ae s ⟨⟨yA,yB,yC⟩,⟨yD,yE,yF⟩,⟨yG,yH,yI⟩,⟨yJ,yK,yL⟩,⟨yM,yN,yO⟩⟩)[q]?:=fun w' hh=>hh.cells
 dsimp only [ae] at e0
 refine wp_region_held_drew (S:=(fun w'=>ai w' xb (ae s ⟨⟨yA,yB,yC⟩,⟨yD,yE,yF⟩,⟨yG,yH,yI⟩,⟨yJ,yK,yL⟩,⟨yM,yN,yO⟩⟩))) (by kernel_rfl) ?_ (fun hHeld => ?_)
 ·exact X0.out.keeps (aa.refl _).drew
 refine ad.go [0,1,2,3] ?_
 iterate 4 (refine aJ (h := ?_);try simp only [ar])
 refine ad.nil ?_
 refine aO 4 (h:=fun K hK => ?_)
 go_simp
 first
  | (go_at_call 24;refine (uy (v:=⟨⟨yA,yB,yC⟩,⟨yD,yE,yF⟩,⟨yG,yH,yI⟩,⟨yJ,yK,yL⟩,⟨yM,yN,yO⟩⟩) (C2.keeps (aa.refl _).drew) (O2.out.keeps (aa.refl _).drew) hg1 (by have:=sz.1;omega) (by have:=sz.2.1;omega)).mono ?_;rintro e w5 ⟨c5,rfl,-,fD,k5⟩;have K5:ab g Y w5:=((ab.refl g Y).drew).trans k5;have X5:=X0.out.but K5 (by omega))
  | (go_at_call 23;refine (zn fD c5).mono ?_;rintro e w6 ⟨c6,rfl,hc6,k6⟩;have K6:ab g Y w6:=K5.trans k6;have X6:=X0.out.but K6 (by omega))
 try go_wp2_with fail
 refine hK.out _ _ ?_ fun hHeld => ?_
 ·assumption
 clear hK K
 try simp only [ar]
 refine aO 5 (h:=fun K hK => ?_)
 go_simp
 first
  | (go_at_call 24;refine (uy (v:=⟨⟨yA,yB,yC⟩,⟨yD,yE,yF⟩,⟨yG,yH,yI⟩,⟨yJ,yK,yL⟩,⟨yM,yN,yO⟩⟩) (C2.keeps (aa.refl _).drew) (O2.out.keeps (aa.refl _).drew) hg1 (by have:=sz.1;omega) (by have:=sz.2.1;omega)).mono ?_;rintro e w5 ⟨c5,rfl,-,fD,k5⟩;have K5:ab g Y w5:=((ab.refl g Y).drew).trans k5;have X5:=X0.out.but K5 (by omega))
  | (go_at_call 23;refine (zn fD c5).mono ?_;rintro e w6 ⟨c6,rfl,hc6,k6⟩;have K6:ab g Y w6:=K5.trans k6;have X6:=X0.out.but K6 (by omega))
 try go_wp2_with fail
 refine hK.out _ _ ?_ fun hHeld => ?_
 ·assumption
 clear hK K
 try simp only [ar]
 refine aO 6 (h:=fun K hK => ?_)
 have B6:Hid (ai w6 w.heap.size zc):=B1.out.but (K2.out.trans K6) (by omega);have C6:Hid (ai w6 (w.heap.size+1) dX):=C1.out.but (K2.out.trans K6) (by omega);obtain ⟨_,r1,r2⟩:=B6.out;obtain ⟨_,r3,r4⟩:=C6.out
 go_simp
 try go_wp2_with fail
 refine hK.out _ _ ?_ fun hHeld => ?_
 ·exact ai.aU (c:=w.heap.size) (by omega) (ae s ⟨⟨yA,yB,yC⟩,⟨yD,yE,yF⟩,⟨yG,yH,yI⟩,⟨yJ,yK,yL⟩,⟨yM,yN,yO⟩⟩).toList 0 X6
 clear hK K
 try simp only [ar]
 refine aO 7 (h:=fun K hK => ?_)
 skip
 go_simp
 try go_wp2_with fail
 refine hK.out _ _ ?_ fun hHeld => ?_
 ·exact ai.aU (c:=w.heap.size+1) (by omega) (cc c6).toList 0 (ai.aU (c:=w.heap.size) (by omega) (ae s ⟨⟨yA,yB,yC⟩,⟨yD,yE,yF⟩,⟨yG,yH,yI⟩,⟨yJ,yK,yL⟩,⟨yM,yN,yO⟩⟩).toList 0 X6)
 clear hK K
 try simp only [ar]
 refine wpAnyH_done (by kernel_rfl) ?_ _
 have O6:ay w6 w1.heap.size ⟨⟨yA,yB,yC⟩,⟨yD,yE,yF⟩,⟨yG,yH,yI⟩,⟨yJ,yK,yL⟩,⟨yM,yN,yO⟩⟩ vs s:=O2.out.cE K6 hg1
 have K9:aa w w6:=(K2.out.trans K6).keeps K1 (by omega)
 have E1:Hid (ai (putC (putC w6 w.heap.size 0 (ae s ⟨⟨yA,yB,yC⟩,⟨yD,yE,yF⟩,⟨yG,yH,yI⟩,⟨yJ,yK,yL⟩,⟨yM,yN,yO⟩⟩).toList) (w.heap.size+1) 0 (cc c6).toList) w.heap.size (ae s ⟨⟨yA,yB,yC⟩,⟨yD,yE,yF⟩,⟨yG,yH,yI⟩,⟨yJ,yK,yL⟩,⟨yM,yN,yO⟩⟩)):=ai.aU (c:=w.heap.size+1) (by omega) _ 0 (B6.out.putC (ae s ⟨⟨yA,yB,yC⟩,⟨yD,yE,yF⟩,⟨yG,yH,yI⟩,⟨yJ,yK,yL⟩,⟨yM,yN,yO⟩⟩).toList rfl)
 have E2:Hid (ai (putC (putC w6 w.heap.size 0 (ae s ⟨⟨yA,yB,yC⟩,⟨yD,yE,yF⟩,⟨yG,yH,yI⟩,⟨yJ,yK,yL⟩,⟨yM,yN,yO⟩⟩).toList) (w.heap.size+1) 0 (cc c6).toList) (w.heap.size+1) (cc c6)):=(ai.aU (c:=w.heap.size) (by omega) _ 0 C6.out).putC (cc c6).toList rfl
 have KQ:Hid (aa w (putC (putC w6 w.heap.size 0 (ae s ⟨⟨yA,yB,yC⟩,⟨yD,yE,yF⟩,⟨yG,yH,yI⟩,⟨yJ,yK,yL⟩,⟨yM,yN,yO⟩⟩).toList) (w.heap.size+1) 0 (cc c6).toList)):=aa.putC (b:=w.heap.size+1) (by omega) _ 0 (aa.putC (b:=w.heap.size) (Nat.le_refl _) _ 0 K9)
 have OQ:Hid (ay (putC (putC w6 w.heap.size 0 (ae s ⟨⟨yA,yB,yC⟩,⟨yD,yE,yF⟩,⟨yG,yH,yI⟩,⟨yJ,yK,yL⟩,⟨yM,yN,yO⟩⟩).toList) (w.heap.size+1) 0 (cc c6).toList) w.heap.size ⟨⟨yA,yB,yC⟩,⟨yD,yE,yF⟩,⟨yG,yH,yI⟩,⟨yJ,yK,yL⟩,⟨yM,yN,yO⟩⟩ vs s):=(ay.aU (c:=w.heap.size+1) (fun i hi=>by have:=(O6.aG hi).1;omega) _ _ (ay.aU (c:=w.heap.size) (fun i hi=>by have:=(O6.aG hi).1;omega) _ _ O6)).base (by omega)
 clear r1 r2 r3 r4 e0 hHeld O6 K9 X5 X6 k5 k6 B6 C6
 change Exit.then _ _ _ _ (putC (putC w6 w.heap.size 0 (ae s ⟨⟨yA,yB,yC⟩,⟨yD,yE,yF⟩,⟨yG,yH,yI⟩,⟨yJ,yK,yL⟩,⟨yM,yN,yO⟩⟩).toList) (w.heap.size+1) 0 (cc c6).toList)
 generalize putC (putC w6 w.heap.size 0 (ae s ⟨⟨yA,yB,yC⟩,⟨yD,yE,yF⟩,⟨yG,yH,yI⟩,⟨yJ,yK,yL⟩,⟨yM,yN,yO⟩⟩).toList) (w.heap.size+1) 0 (cc c6).toList=Q at *
 go_wp2
 have y1:=E1.out.cells
 have y2:=E2.out.cells
 exact bodyPost_ret (v := .tuple #[.agg (ae s ⟨⟨yA,yB,yC⟩,⟨yD,yE,yF⟩,⟨yG,yH,yI⟩,⟨yJ,yK,yL⟩,⟨yM,yN,yO⟩⟩),ck c6]) (by simp [results,Tryz.results7,go_sem,y1,y2]) rfl ⟨s,⟨⟨yA,yB,yC⟩,⟨yD,yE,yF⟩,⟨yG,yH,yI⟩,⟨yJ,yK,yL⟩,⟨yM,yN,yO⟩⟩,vs,c6,rfl,OQ.out,sz,KQ.out⟩
section
attribute [local go_sem] aa.refl aa.alloc aa.drew aa.drewN
theorem BQ {s:Sy} (hs:bf s=true) (no a:Int):(if jq s ⟨8,no,0,a,0⟩=0 then jX s ⟨8,no,0,a,0⟩ else s)=eQ s ⟨8,no,0,a,0⟩ /\ ((jq s ⟨8,no,0,a,0⟩:Nat):Int)=fK s ⟨8,no,0,a,0⟩ /\ jq s ⟨8,no,0,a,0⟩ <= 6:=by
 have hcb:ey ⟨8,no,0,a,0⟩=true:=by simp [ey,eh,fF,aF]
 have hI:=Mh (kp.1 hs) no 0 a 0
 have h0:0 <= df s ⟨8,no,0,a,0⟩ /\ df s ⟨8,no,0,a,0⟩ <= 6:=by
  cases hth:bF s.tasks no
  ·rw [sH (c:=⟨8,no,0,a,0⟩) rfl rfl hth]
   decide
  ·rw [mh (c:=⟨8,no,0,a,0⟩) rfl rfl hth]
   show 0 <= je s ⟨8,no,0,a,0⟩ (de s.tasks no) /\ je s ⟨8,no,0,a,0⟩ (de s.tasks no) <= 6
   unfold je
   repeat' split
   all_goals decide
 have hc:ei s ⟨8,no,0,a,0⟩=jX s ⟨8,no,0,a,0⟩:=rfl
 unfold eQ fK
 rw [hs,hcb,hc,hI]
 refine ⟨?_,?_,by omega⟩
 ·by_cases h:df s ⟨8,no,0,a,0⟩=0
  ·rw [h];rfl
  ·rw [if_neg (by omega)]
   have:(df s ⟨8,no,0,a,0⟩==0)=false:=by simpa using h
   rw [this]
   rfl
 ·show ((df s ⟨8,no,0,a,0⟩).toNat:Int)=df s ⟨8,no,0,a,0⟩
  omega
theorem Mi {s:Sy} (hs:bf s=true) {i:Nat} {l:Lk} (hl:s.af[i]?=some l) (hd:fK s ⟨8,l.owner,0,i,0⟩=0):∃ l2,(eQ s ⟨8,l.owner,0,i,0⟩).af[i]?=some l2 /\ l2.owner=eO s.tasks l.waits:=by
 have hu:=I8 hs hl hd
 have hlk:=(kp.1 hs).af
 unfold gy at hlk
 simp only [Bool.and_eq_true] at hlk
 have e:eQ s ⟨8,l.owner,0,i,0⟩=jX s ⟨8,l.owner,0,i,0⟩:=by
  have:=BQ hs l.owner i
  rw [if_pos (by have:=this.2.1;omega)] at this
  exact this.1.symm
 have hlen:(eQ s ⟨8,l.owner,0,i,0⟩).af.length=s.af.length:=by
  rw [e]
  show (dV s.af i l.owner _).length=_
  unfold dV
  rw [hlk.2.1]
  simp only [Bool.not_true,Bool.false_eq_true,if_false]
  split
  ·simp
  ·rfl
 obtain ⟨l2,h2⟩:=bW (xs:=(eQ s ⟨8,l.owner,0,i,0⟩).af) (k:=i) (by rw [hlen];exact da hl)
 rw [gO h2] at hu
 exact ⟨l2,h2,hu⟩
set_option linter.unusedSimpArgs false in
set_option maxHeartbeats 8000000 in
theorem L9 (HX:uW) (BR:tI) (HF:rr) (a:Option Addr) (n cap:Nat) (w:World) (hm:n <= maxLen) (hb:∀ g,w.heap.size <= g->Bytes g w a n) (hg:dF w) {er:Nat->Addr} (E:dZ w er) :
  Calls Tryz.prog 3 #[.slice a n cap] w fun e w'=>e = .returned (.bool true) /\ aa w w':=by
 by_cases hn:n <= 1048576
 case neg =>
  have hd:decide (1048576 < (n:Int))=true:=by simp;omega
  go_enter Tryz.func3,Tryz.ntmps3
  go_wp2_with (go_at_call 6;refine (zR _ _ _ _ hm).mono ?_;rintro e w1 ⟨rfl,rfl⟩)
  go_ret
  exact ⟨rfl,aa.refl _⟩
 have hd:decide (1048576 < (n:Int))=false:=by simp;omega
 have HB:Hid (∀ g,w.heap.size <= g->Bytes g w a n):=hb
 have HG:Hid (dF w):=hg
 have HE:Hid (dZ w er):=E
 have Mj:Hid uW:=HX
 have ru:Hid tI:=BR
 have tJ:Hid rr:=HF
 clear hb hg E HX BR HF
 go_enter Tryz.func3,Tryz.ntmps3
 go_wp2_with fail
 refine (zR _ _ _ _ hm).mono ?_
 rintro e w0 ⟨rfl,rfl⟩
 rw [hd]
 go_upto_region 4 with (go_at_call 7;refine (Mg a n cap _ hn HB.out).mono ?_;rintro e w1 ⟨s,v,vs,c,rfl,o1,sz,k1⟩;obtain ⟨⟨yA,yB,yC⟩,⟨yD,yE,yF⟩,⟨yG,yH,yI⟩,⟨yJ,yK,yL⟩,⟨yM,yN,yO⟩⟩:=v)
 have kX:aa w0 ((w1.alloc (.cells (ae s ⟨⟨yA,yB,yC⟩,⟨yD,yE,yF⟩,⟨yG,yH,yI⟩,⟨yJ,yK,yL⟩,⟨yM,yN,yO⟩⟩) 30)).alloc (.cells (cc c) 32)):=(k1.alloc _).alloc _
 have BX:Hid (ai ((w1.alloc (.cells (ae s ⟨⟨yA,yB,yC⟩,⟨yD,yE,yF⟩,⟨yG,yH,yI⟩,⟨yJ,yK,yL⟩,⟨yM,yN,yO⟩⟩) 30)).alloc (.cells (cc c) 32)) w1.heap.size (ae s ⟨⟨yA,yB,yC⟩,⟨yD,yE,yF⟩,⟨yG,yH,yI⟩,⟨yJ,yK,yL⟩,⟨yM,yN,yO⟩⟩)):=(ai.new _ _ _).alloc _
 have SX:Hid (aA ((w1.alloc (.cells (ae s ⟨⟨yA,yB,yC⟩,⟨yD,yE,yF⟩,⟨yG,yH,yI⟩,⟨yJ,yK,yL⟩,⟨yM,yN,yO⟩⟩) 30)).alloc (.cells (cc c) 32)) ⟨⟨yA,yB,yC⟩,⟨yD,yE,yF⟩,⟨yG,yH,yI⟩,⟨yJ,yK,yL⟩,⟨yM,yN,yO⟩⟩ s):=(o1.keeps (((aa.refl w1).alloc _).alloc _)).on (by have:=sz.2.2;omega)
 change Code.wp _ _ _ _ ((w1.alloc (.cells (ae s ⟨⟨yA,yB,yC⟩,⟨yD,yE,yF⟩,⟨yG,yH,yI⟩,⟨yJ,yK,yL⟩,⟨yM,yN,yO⟩⟩) 30)).alloc (.cells (cc c) 32))
 clear k1 o1 hd
 generalize ((w1.alloc (.cells (ae s ⟨⟨yA,yB,yC⟩,⟨yD,yE,yF⟩,⟨yG,yH,yI⟩,⟨yJ,yK,yL⟩,⟨yM,yN,yO⟩⟩) 30)).alloc (.cells (cc c) 32))=X at *
 generalize w1.heap.size=sb at *
 have e0:∀ w',aa X w'->∀ q,w'.cell? ⟨sb,q,none⟩=(ae s ⟨⟨yA,yB,yC⟩,⟨yD,yE,yF⟩,⟨yG,yH,yI⟩,⟨yJ,yK,yL⟩,⟨yM,yN,yO⟩⟩)[q]?:=fun w' k=>(BX.out.keeps k).cells
 dsimp only [ae] at e0
 obtain ⟨z,Hz⟩:∃ z,Hid (bf s=z):=⟨_,rfl⟩
 have hzz:(z != z)=false:=by simp
 have cI:Hid (∀ w',aa X w'->Calls Tryz.prog 8 #[.agg (ae s ⟨⟨yA,yB,yC⟩,⟨yD,yE,yF⟩,⟨yG,yH,yI⟩,⟨yJ,yK,yL⟩,⟨yM,yN,yO⟩⟩)] w' fun e w''=>e = .returned (.bool z) /\ aa w' w''):=fun w' k=>by
  have:=A2 w' ⟨⟨yA,yB,yC⟩,⟨yD,yE,yF⟩,⟨yG,yH,yI⟩,⟨yJ,yK,yL⟩,⟨yM,yN,yO⟩⟩ s (HG.out.keeps (kX.trans k)) (SX.out.keeps k)
  rw [Hz.out] at this
  exact this
 have cS:Hid (∀ w',aa X w'->Calls Tryz.prog 9 #[.agg (ae s ⟨⟨yA,yB,yC⟩,⟨yD,yE,yF⟩,⟨yG,yH,yI⟩,⟨yJ,yK,yL⟩,⟨yM,yN,yO⟩⟩)] w' fun e w''=>e = .returned (.bool z) /\ aa w' w''):=fun w' k=>by
  have:=tj (SX.out.keeps k)
  rw [Hz.out] at this
  exact this
 refine wp_region_held_drew (S:=(fun w'=>aa X w')) (by kernel_rfl) ?_ (fun hHeld => ?_)
 ·exact (aa.refl X).drew
 refine ad.go [0,2] ?_
 iterate 2 (refine aJ (h := ?_);try simp only [ar])
 refine ad.nil ?_
 refine aO 1 (h:=fun K hK => ?_)
 go_simp
 first
  | (go_at_call 8;refine (cI.out _ (by assumption)).mono ?_;rintro e w2 ⟨rfl,k2⟩)
  | (go_at_call 9;refine (cS.out _ (by assumption)).mono ?_;rintro e w3 ⟨rfl,k3⟩)
 try go_wp2_with fail
 refine hK.out _ _ ?_ fun hHeld => ?_
 ·exact aa.trans (by assumption) (by assumption)
 clear hK K
 try simp only [ar]
 refine aO 3 (h:=fun K hK => ?_)
 go_simp
 first
  | (go_at_call 8;refine (cI.out _ (by assumption)).mono ?_;rintro e w2 ⟨rfl,k2⟩)
  | (go_at_call 9;refine (cS.out _ (by assumption)).mono ?_;rintro e w3 ⟨rfl,k3⟩)
 try go_wp2_with fail
 refine hK.out _ _ ?_ fun hHeld => ?_
 ·exact aa.trans (by assumption) (by assumption)
 clear hK K
 try simp only [ar]
 refine cU 4 (h := ?_)
 try simp only [ar]
 refine wpAnyH_done (by kernel_rfl) ?_ _
 have K3:aa X w3:=by assumption
 have f0:∀ w',aa X w'->∀ q,w'.cell? ⟨sb,q,none⟩=(ae s ⟨⟨yA,yB,yC⟩,⟨yD,yE,yF⟩,⟨yG,yH,yI⟩,⟨yJ,yK,yL⟩,⟨yM,yN,yO⟩⟩)[q]?:=fun w' k=>(BX.out.keeps k).cells
 have f3:∀ q,w3.cell? ⟨sb,q,none⟩=(ae s ⟨⟨yA,yB,yC⟩,⟨yD,yE,yF⟩,⟨yG,yH,yI⟩,⟨yJ,yK,yL⟩,⟨yM,yN,yO⟩⟩)[q]?:=f0 w3 K3
 dsimp only [ae] at f0 f3
 have mG:Hid (s.tasks.length=yB):=SX.out.lay.tl
 have l7:Hid (s.af.length=yE):=SX.out.lay.ll
 clear e0 k2 k3 hHeld hzz cI
 cases z
 ·go_wp2_with (go_at_call 9;refine (cS.out _ K3).mono ?_;rintro e w4 ⟨rfl,k4⟩)
  go_ret
  exact ⟨rfl,(kX.trans K3).trans k4⟩
 have hs:Hid (bf s=true):=Hz.out
 have R:Hid (cV s):=kp.1 hs.out
 have hln:Hid (yE=5):=by show yE=5;rw [<- l7.out];exact R.out.five
 have hl5:yE <= 1048576:=by rw [hln.out];omega
 go_upto_region 8 with (go_at_call 9;refine (cS.out _ K3).mono ?_;rintro e w4 ⟨rfl,k4⟩)
 have K4:Hid (aa X w4):=K3.trans k4
 clear f3 k4 K3 cS
 go_wp2_with fail
 go_loopw [5] (fun i wr=>∃ k:Nat,k <= yE /\ i = .int .i64 k /\ aa X wr) (fun i _=>yE - (intOf i).toNat)
 case atStart=>exact ⟨0,Nat.zero_le _,rfl,K4.out⟩
 case round =>
  obtain ⟨k,hk,rfl,hK⟩:=hrel
  by_cases hlt:k < yE
  rotate_left
  ·have hlt':decide ((k:Int) < (yE:Int))=false:=by simp;omega
   go_wp2
   go_ret
   exact ⟨rfl,kX.trans hK⟩
  have hlt':(k:Int) < (yE:Int):=by omega
  obtain ⟨l,g9⟩:=bW (xs:=s.af) (k:=k) (by rw [l7.out];exact hlt)
  have BS:Hid (s.af[k]?=some l):=g9
  obtain ⟨lb,cd,a',cap',ha,l0,l1,hwl,hws,hpl⟩:=SX.out.lay.l.tK g9
  dsimp only at ha
  subst ha
  obtain ⟨wn,pR⟩:∃ m,Hid (l.waits.length=m):=⟨_,rfl⟩
  rw [pR.out] at l1 hwl
  have BU:Hid (Ns X a' l.waits):=hws
  have Mk:Hid (Plain X a' l.waits.length cap'):=hpl rfl
  clear hws hpl g9
  unfold maxLen at hwl
  go_upto_region 12 with fail
  have kY:aa X (wr.alloc (.cells #[.int .i64 l.owner,.slice a' wn cap'] 37)):=hK.alloc _
  have BL:Hid (ai (wr.alloc (.cells #[.int .i64 l.owner,.slice a' wn cap'] 37)) wr.heap.size #[.int .i64 l.owner,.slice a' wn cap']):=ai.new _ _ _
  change Code.wp _ _ _ _ (wr.alloc (.cells #[.int .i64 l.owner,.slice a' wn cap'] 37))
  clear l0 l1 hK
  generalize (wr.alloc (.cells #[.int .i64 l.owner,.slice a' wn cap'] 37))=Y at *
  generalize wr.heap.size=BV at *
  have rL:∀ w',aa Y w'->∀ q,w'.cell? ⟨BV,q,none⟩=(#[.int .i64 l.owner,.slice a' wn cap']:Array Value)[q]?:=fun w' k=>(BL.out.keeps k).cells
  have rB:∀ w',aa Y w'->∀ q,w'.cell? ⟨sb,q,none⟩=(ae s ⟨⟨yA,yB,yC⟩,⟨some ⟨lb,cd,none⟩,yE,yF⟩,⟨yG,yH,yI⟩,⟨yJ,yK,yL⟩,⟨yM,yN,yO⟩⟩)[q]?:=fun w' kk=>f0 w' (kY.trans kk)
  dsimp only [ae] at rB
  have B9:Hid (∀ (x z:Int),gx s.tasks s.af x=z->∀ w',aa Y w'->Calls Tryz.prog 10 #[.slice yA yB yC,.slice (some ⟨lb,cd,none⟩) yE yF,.int .i64 x] w' fun e w''=>e = .returned (.int .i64 z) /\ aa w' w''):=fun x z hz w' kk=>by
   have:=Mj.out w' yA yB yC s.tasks (some ⟨lb,cd,none⟩) yE yF s.af x (Plain.le SX.out.tc) ⟨(SX.out.keeps (kY.trans kk)).gM,(SX.out.keeps (kY.trans kk)).gL⟩
   have hb:sa s.tasks s.af=true:=by
    have hlk:=R.out.af
    unfold gy at hlk
    simp only [Bool.and_eq_true] at hlk
    unfold sa
    rw [R.out.tasks,hlk.2.1]
    rfl
   unfold qc4 at this
   rw [hb,if_pos rfl,hz] at this
   exact this
  go_wp2_with fail
  go_loopw [7] (fun i wy=>∃ q:Nat,q <= wn /\ i = .int .i64 q /\ aa Y wy) (fun i _=>wn - (intOf i).toNat)
  case atStart=>exact ⟨0,Nat.zero_le _,rfl,aa.refl _⟩
  case round =>
   obtain ⟨q,hq,rfl,hQ⟩:=hrel
   by_cases Ml:q < wn
   ·obtain ⟨x,hx⟩:=bW (xs:=l.waits) (k:=q) (by rw [pR.out];exact Ml)
    obtain ⟨b3,wu,Mm,r5⟩:=BU.out.at hx
    subst Mm
    have hq':(q:Int) < (wn:Int):=by omega
    have s5:∀ w',aa Y w'->w'.cell? ⟨b3,wu+q,none⟩=some (.int .i64 x):=fun w' h=>r5 w' (kY.trans h)
    have LE:=I7 R.out BS.out (il.2 (List.mem_of_getElem? hx))
    obtain ⟨ex,Hex⟩:∃ z,Hid (gx s.tasks s.af x=z):=⟨_,rfl⟩
    rw [Hex.out] at LE
    have hne:(ex==x)=false:=by simpa using LE.2
    have Jn:(ex != ex)=false:=by simp
    have Mn:Hid _:=B9.out x ex Hex.out
    have Mo:Hid _:=B9.out l.owner ex LE.1.symm
    clear LE r5 hx
    go_upto_region 15 with fail
    refine wp_region_held_drew (S:=(fun w'=>aa Y w')) (by kernel_rfl) ?_ (fun hHeld => ?_)
    ·exact aa.drew (by assumption)
    refine ad.go [0,1,2,3,4,5,6,7,8] ?_
    iterate 9 (refine aJ (h := ?_);try simp only [ar])
    refine ad.nil ?_
    refine aO 9 (h:=fun K hK => ?_)
    go_simp
    (go_at_call 10;refine (Mn.out _ (by assumption)).mono ?_;rintro e w5 ⟨rfl,k5⟩)
    try go_wp2_with fail
    refine hK.out _ _ ?_ fun hHeld => ?_
    ·exact aa.trans (by assumption) (by assumption)
    clear hK K
    try simp only [ar]
    refine cU 10 (h := ?_)
    try simp only [ar]
    refine wpAnyH_done (by kernel_rfl) ?_ _
    have K5:aa Y w5:=by assumption
    clear k5 hHeld hQ
    go_wp2_with (go_at_call 10;refine (Mo.out _ K5).mono ?_;rintro e w6 ⟨rfl,k6⟩)
    exact ⟨⟨q+1,by omega,by go_num,K5.trans k6⟩,by simp only [intOf];omega⟩
   ·have hq':decide ((q:Int) < (wn:Int))=false:=by simp;omega
    by_cases ho:l.owner=0
    ·have ho':(l.owner==0)=true:=by simp [ho]
     go_wp2
     exact ⟨⟨k+1,by omega,by go_num,kY.trans hQ⟩,by simp only [intOf];omega⟩
    have ho':(l.owner==0)=false:=by simp [ho]
    have CALL:Hid (∀ w',aa Y w'->Calls Tryz.prog 11 #[.agg (ae s ⟨⟨yA,yB,yC⟩,⟨some ⟨lb,cd,none⟩,yE,yF⟩,⟨yG,yH,yI⟩,⟨yJ,yK,yL⟩,⟨yM,yN,yO⟩⟩),ck ⟨8,l.owner,0,k,0⟩] w' (A1 (eQ s ⟨8,l.owner,0,k,0⟩) (fK s ⟨8,l.owner,0,k,0⟩) w')):=fun w' kk=>by
     have T8:=BQ hs.out l.owner k
     have hsz:bV s <= 1048576:=by have:=R.out.small;omega
     have:=JP ⟨⟨yA,yB,yC⟩,⟨some ⟨lb,cd,none⟩,yE,yF⟩,⟨yG,yH,yI⟩,⟨yJ,yK,yL⟩,⟨yM,yN,yO⟩⟩ s (jX s ⟨8,l.owner,0,k,0⟩) w' (SX.out.keeps (kY.trans kk)) hs.out (HG.out.keeps (kX.trans (kY.trans kk))) l.owner 0 k 0 (by simp [ey,eh,fF,aF]) (HE.out.keeps (kX.trans (kY.trans kk))) (jq s ⟨8,l.owner,0,k,0⟩) T8.2.2 (fun W EW SW=>Jt _ s _ W SW hsz l.owner 0 k 0 EW _ (fun W2 lo ob v1 vs1 hV hlo hE2 _ _=>JF ru.out tJ.out hV hlo hE2 hsz _))
     rw [T8.1,T8.2.1] at this
     exact this
    have oR:Hid (∀ w',aa Y w'->Calls Tryz.prog 12 #[.agg (ae s ⟨⟨yA,yB,yC⟩,⟨some ⟨lb,cd,none⟩,yE,yF⟩,⟨yG,yH,yI⟩,⟨yJ,yK,yL⟩,⟨yM,yN,yO⟩⟩),ck ⟨8,l.owner,0,k,0⟩] w' (Told w' (eQ s ⟨8,l.owner,0,k,0⟩) (fK s ⟨8,l.owner,0,k,0⟩))):=fun w' kk=>yW (SX.out.keeps (kY.trans kk)) _
    obtain ⟨nn,Ca⟩:∃ z,Hid (fK s ⟨8,l.owner,0,k,0⟩=z):=⟨_,rfl⟩
    obtain ⟨s2,rA⟩:∃ z,Hid (eQ s ⟨8,l.owner,0,k,0⟩=z):=⟨_,rfl⟩
    rw [Ca.out,rA.out] at CALL oR
    have hnn:(nn != nn)=false:=by simp
    go_upto_region 20 with (go_at_call 11;refine (CALL.out _ (by assumption)).mono ?_;rintro e w7 ⟨v6,fh,rfl,o7,k7⟩;obtain ⟨⟨bM,bN,cq⟩,⟨bG,bE,cr⟩,⟨bO,bP,ct⟩,⟨fa6,bQ,cw⟩,⟨bR,bS,cx⟩⟩:=v6)
    have kZ:aa Y (w7.alloc (.cells (ae s2 ⟨⟨bM,bN,cq⟩,⟨bG,bE,cr⟩,⟨bO,bP,ct⟩,⟨fa6,bQ,cw⟩,⟨bR,bS,cx⟩⟩) 30)):=(hQ.trans k7).alloc _
    have BT:Hid (ai (w7.alloc (.cells (ae s2 ⟨⟨bM,bN,cq⟩,⟨bG,bE,cr⟩,⟨bO,bP,ct⟩,⟨fa6,bQ,cw⟩,⟨bR,bS,cx⟩⟩) 30)) w7.heap.size (ae s2 ⟨⟨bM,bN,cq⟩,⟨bG,bE,cr⟩,⟨bO,bP,ct⟩,⟨fa6,bQ,cw⟩,⟨bR,bS,cx⟩⟩)):=ai.new _ _ _
    have OT:Hid (∃ lo,ay (w7.alloc (.cells (ae s2 ⟨⟨bM,bN,cq⟩,⟨bG,bE,cr⟩,⟨bO,bP,ct⟩,⟨fa6,bQ,cw⟩,⟨bR,bS,cx⟩⟩) 30)) lo ⟨⟨bM,bN,cq⟩,⟨bG,bE,cr⟩,⟨bO,bP,ct⟩,⟨fa6,bQ,cw⟩,⟨bR,bS,cx⟩⟩ fh s2):=⟨_,o7.keeps ((aa.refl w7).alloc _)⟩
    change Code.wp _ _ _ _ (w7.alloc (.cells (ae s2 ⟨⟨bM,bN,cq⟩,⟨bG,bE,cr⟩,⟨bO,bP,ct⟩,⟨fa6,bQ,cw⟩,⟨bR,bS,cx⟩⟩) 30))
    clear o7 k7 CALL hQ
    generalize (w7.alloc (.cells (ae s2 ⟨⟨bM,bN,cq⟩,⟨bG,bE,cr⟩,⟨bO,bP,ct⟩,⟨fa6,bQ,cw⟩,⟨bR,bS,cx⟩⟩) 30))=Z at *
    generalize w7.heap.size=Mp at *
    have Mq:=rL Z kZ
    have Mr:=rB Z kZ
    go_upto_region 21 with (go_at_call 12;refine (oR.out _ kZ).mono ?_;rintro e w8 ⟨v8,pz,rfl,-,k8⟩;obtain ⟨⟨zA,zB,zC⟩,⟨zD,zE,zF⟩,⟨zG,zH,zI⟩,⟨zJ,zK,zL⟩,⟨zM,zN,zO⟩⟩:=v8)
    have kU:aa Z (w8.alloc (.cells (ae s2 ⟨⟨zA,zB,zC⟩,⟨zD,zE,zF⟩,⟨zG,zH,zI⟩,⟨zJ,zK,zL⟩,⟨zM,zN,zO⟩⟩) 30)):=k8.alloc _
    change Code.wp _ _ _ _ (w8.alloc (.cells (ae s2 ⟨⟨zA,zB,zC⟩,⟨zD,zE,zF⟩,⟨zG,zH,zI⟩,⟨zJ,zK,zL⟩,⟨zM,zN,zO⟩⟩) 30))
    clear k8 oR Mq Mr
    generalize (w8.alloc (.cells (ae s2 ⟨⟨zA,zB,zC⟩,⟨zD,zE,zF⟩,⟨zG,zH,zI⟩,⟨zJ,zK,zL⟩,⟨zM,zN,zO⟩⟩) 30))=U at *
    have PF:∀ w',aa U w'->∀ q,w'.cell? ⟨BV,q,none⟩=(#[.int .i64 l.owner,.slice a' wn cap']:Array Value)[q]?:=fun w' kk=>rL w' ((kZ.trans kU).trans kk)
    have Ms:∀ w',aa U w'->∀ q,w'.cell? ⟨sb,q,none⟩=(ae s ⟨⟨yA,yB,yC⟩,⟨some ⟨lb,cd,none⟩,yE,yF⟩,⟨yG,yH,yI⟩,⟨yJ,yK,yL⟩,⟨yM,yN,yO⟩⟩)[q]?:=fun w' kk=>rB w' ((kZ.trans kU).trans kk)
    have Mt:∀ w',aa U w'->∀ q,w'.cell? ⟨Mp,q,none⟩=(ae s2 ⟨⟨bM,bN,cq⟩,⟨bG,bE,cr⟩,⟨bO,bP,ct⟩,⟨fa6,bQ,cw⟩,⟨bR,bS,cx⟩⟩)[q]?:=fun w' kk=>(BT.out.keeps (kU.trans kk)).cells
    dsimp only [ae] at Ms Mt
    clear rL rB f0
    by_cases h0:nn=0
    rotate_left
    ·have h0':(nn==0)=false:=by simp [h0]
     refine wp_region_held_drew (S:=(fun w'=>aa U w')) (by kernel_rfl) ?_ (fun hHeld => ?_)
     ·exact (aa.refl U).drew
     refine ad.go [0,1,2,3,4,5,6] ?_
     iterate 7 (refine aJ (h := ?_);try simp only [ar])
     refine ad.nil ?_
     refine ad.go [7,8,9,10,11,12,13,14,15,16,17,18] ?_
     iterate 12 (refine dB (h := ?_);try simp only [ar])
     refine ad.nil ?_
     refine ad.go [19,20] ?_
     iterate 2 (refine aJ (h := ?_);try simp only [ar])
     refine ad.nil ?_
     refine wpAnyH_done (by kernel_rfl) ?_ _
     go_wp2
     exact ⟨⟨k+1,by omega,by go_num,((kY.trans kZ).trans kU).drew⟩,by simp only [intOf];omega⟩
    subst h0
    obtain ⟨l2,h2,ho2⟩:=Mi hs.out BS.out Ca.out
    rw [rA.out] at h2
    obtain ⟨_,Cb⟩:=OT.out
    obtain ⟨a8,c8,e8,L8,-⟩:=Cb.l.gP
    have e9:bG=a8 /\ bE=s2.af.length:=by
     have:=e8
     simp [Rw.val] at this
     exact ⟨this.1,this.2.1⟩
    obtain ⟨rfl,Aj⟩:=e9
    obtain ⟨Mu,sc,a9,Mv,Mw,m0,-,-,-⟩:=L8.at h2
    subst Mw
    have PG:(k:Int) < (bE:Int):=by have:=da h2;omega
    have rO:∀ w',aa U w'->w'.cell? ⟨Mu,sc+k*2,none⟩=some (.int .i64 l2.owner):=fun w' kk=>m0 w' (kU.trans kk)
    obtain ⟨bi,mu⟩:∃ z,Hid (eO s.tasks l.waits=z):=⟨_,rfl⟩
    rw [mu.out] at ho2
    rw [ho2] at rO
    have hbb:(bi != bi)=false:=by simp
    have BO:Hid (∀ w',aa U w'->Calls Tryz.prog 13 #[.slice yA yB yC,.slice a' wn cap'] w' fun e w''=>e = .returned (.int .i64 bi) /\ aa w' w''):=fun w' kk=>by
     have KK:=kY.trans ((kZ.trans kU).trans kk)
     have:=ru.out w' yA yB yC s.tasks a' cap' l.waits (Plain.le SX.out.tc) (Plain.le Mk.out) (by rw [pR.out];unfold maxLen;omega) (SX.out.keeps KK).gM (BU.out.keeps KK)
     rw [mu.out,pR.out] at this
     exact this
    clear m0 h2 ho2 L8 e8 Aj Cb
    refine wp_region_held_drew (S:=(fun w'=>aa U w')) (by kernel_rfl) ?_ (fun hHeld => ?_)
    ·exact (aa.refl U).drew
    refine ad.go [0,1,2,3,4,5,6,7,8,9,10,11,12,13,14,15,16] ?_
    iterate 17 (refine aJ (h := ?_);try simp only [ar])
    refine ad.nil ?_
    refine aO 17 (h:=fun K hK => ?_)
    go_simp
    (go_at_call 13;refine (BO.out _ (by assumption)).mono ?_;rintro e w9 ⟨rfl,k9⟩)
    try go_wp2_with fail
    refine hK.out _ _ ?_ fun hHeld => ?_
    ·exact aa.trans (by assumption) (by assumption)
    clear hK K
    try simp only [ar]
    refine ad.go [18,19,20] ?_
    iterate 3 (refine aJ (h := ?_);try simp only [ar])
    refine ad.nil ?_
    refine wpAnyH_done (by kernel_rfl) ?_ _
    have K9:aa U w9:=by assumption
    go_wp2
    exact ⟨⟨k+1,by omega,by go_num,((kY.trans kZ).trans kU).trans K9⟩,by simp only [intOf];omega⟩
end
end Go.Proofs.YteagpjlgjfaclaaGreatDoor
