/-
  Drawn systems: with a call.
  The law FnGhosts: its walk.
-/
import Derived.Test.YteagpjlgjfaclaaGreatDoorCallDraw3
import Derived.Test.YteagpjlgjfaclaaGreatDoorImplSysOk
import Derived.Test.YteagpjlgjfaclaaGreatDoorImplTasksOk
import Derived.Test.YteagpjlgjfaclaaGreatDoorCallMove
import Derived.Test.YteagpjlgjfaclaaGreatDoorImplEnd
import Derived.Test.YteagpjlgjfaclaaGreatDoorImplCalled6
import Derived.Test.YteagpjlgjfaclaaGreatDoorSysLocks
import Derived.Test.YteagpjlgjfaclaaGreatDoorLaidErrs
import Derived.Deep.Cut
namespace Go.Proofs.YteagpjlgjfaclaaGreatDoor
set_option maxRecDepth 100000
open Go.RowKit
def Et (w:World) (e:Ending) (w':World):Prop:=∃ (s:Sy) (v:Sv) (vs:List Lv) (c:Cl),e = .returned (.tuple #[.agg (ae s v),ck c]) /\ ay w' w.heap.size v vs s /\ qO s /\ aa w w'
set_option linter.unusedSimpArgs false in
set_option maxHeartbeats 8000000 in
theorem Eu (a:Option Addr) (n cap:Nat) (w:World) (hn:n <= 1048576) (hb:∀ g,w.heap.size <= g->Bytes g w a n) :
  Calls Tryz.prog 7 #[.slice a n cap] w (Et w):=by
 have kW:aa w ((w.alloc (.cells zc 30)).alloc (.cells dG 32)):=((aa.refl w).alloc _).alloc _
 have B0:Hid (aq ((w.alloc (.cells zc 30)).alloc (.cells dG 32)) w.heap.size zc):=(aq.new _ _ _).alloc _
 have C0:Hid (aq ((w.alloc (.cells zc 30)).alloc (.cells dG 32)) (w.heap.size+1) dG):=by
  have:=aq.new (w.alloc (.cells zc 30)) dG 32
  show aq _ _ _
  simpa using this
 have HB:Hid (∀ g,w.heap.size+2 <= g->Bytes g ((w.alloc (.cells zc 30)).alloc (.cells dG 32)) a n):=fun g hg=>(hb g (by omega)).but (.of kW)
 have hws:((w.alloc (.cells zc 30)).alloc (.cells dG 32)).heap.size=w.heap.size+2:=by simp
 clear hb
 go_enter Tryz.func7,Tryz.ntmps7
 go_upto_region 1 with fail
 change Code.wp _ _ _ _ ((w.alloc (.cells zc 30)).alloc (.cells dG 32))
 generalize ((w.alloc (.cells zc 30)).alloc (.cells dG 32))=W at *
 go_upto_region 2 with (go_at_call 21;refine (Da a n cap _ hn (fun g hg=>HB.out g (by omega))).mono ?_;rintro e w1 ⟨g,rfl,hg,hc1,k1⟩)
 have K1:aa w w1:=kW.trans k1
 have B1:Hid (aq w1 w.heap.size zc):=B0.out.keeps k1
 have C1:Hid (aq w1 (w.heap.size+1) dG):=C0.out.keeps k1
 have hg1:=hc1.lt
 have hwg:w.heap.size+1 < g:=by omega
 have hs1:=K1.size
 clear kW k1 B0 C0 HB hg hws
 go_upto_region 3 with (go_at_call 22;refine (BV hc1 a n cap hn).mono ?_;rintro e w2 ⟨s,v,vs,rfl,o2,sz,hc2,k2⟩;obtain ⟨⟨yA,yB,yC⟩,⟨yD,yE,yF⟩,⟨yG,yH,yI⟩,⟨yJ,yK,yL⟩,⟨yM,yN,yO⟩⟩:=v)
 have kA:=dw w2 (.cells (ae s ⟨⟨yA,yB,yC⟩,⟨yD,yE,yF⟩,⟨yG,yH,yI⟩,⟨yJ,yK,yL⟩,⟨yM,yN,yO⟩⟩) 30)
 have X0:Hid (aq (w2.alloc (.cells (ae s ⟨⟨yA,yB,yC⟩,⟨yD,yE,yF⟩,⟨yG,yH,yI⟩,⟨yJ,yK,yL⟩,⟨yM,yN,yO⟩⟩) 30)) w2.heap.size (ae s ⟨⟨yA,yB,yC⟩,⟨yD,yE,yF⟩,⟨yG,yH,yI⟩,⟨yJ,yK,yL⟩,⟨yM,yN,yO⟩⟩)):=aq.new _ _ _
 have K2:Hid (ab g w1 (w2.alloc (.cells (ae s ⟨⟨yA,yB,yC⟩,⟨yD,yE,yF⟩,⟨yG,yH,yI⟩,⟨yJ,yK,yL⟩,⟨yM,yN,yO⟩⟩) 30))):=k2.trans (.of kA)
 have O2:Hid (ay (w2.alloc (.cells (ae s ⟨⟨yA,yB,yC⟩,⟨yD,yE,yF⟩,⟨yG,yH,yI⟩,⟨yJ,yK,yL⟩,⟨yM,yN,yO⟩⟩) 30)) w1.heap.size ⟨⟨yA,yB,yC⟩,⟨yD,yE,yF⟩,⟨yG,yH,yI⟩,⟨yJ,yK,yL⟩,⟨yM,yN,yO⟩⟩ vs s):=o2.keeps kA
 have C2:=hc2.keeps kA
 have hxb:w1.heap.size <= w2.heap.size:=k2.size
 change Code.wp _ _ _ _ (w2.alloc (.cells (ae s ⟨⟨yA,yB,yC⟩,⟨yD,yE,yF⟩,⟨yG,yH,yI⟩,⟨yJ,yK,yL⟩,⟨yM,yN,yO⟩⟩) 30))
 clear kA k2 o2 hc1 hc2
 generalize (w2.alloc (.cells (ae s ⟨⟨yA,yB,yC⟩,⟨yD,yE,yF⟩,⟨yG,yH,yI⟩,⟨yJ,yK,yL⟩,⟨yM,yN,yO⟩⟩) 30))=Y at *
 generalize w2.heap.size=xb at *
 have e0:∀ w',aq w' xb (ae s ⟨⟨yA,yB,yC⟩,⟨yD,yE,yF⟩,⟨yG,yH,yI⟩,⟨yJ,yK,yL⟩,⟨yM,yN,yO⟩⟩)->∀ q,w'.cell? ⟨xb,q,none⟩=(ae s ⟨⟨yA,yB,yC⟩,⟨yD,yE,yF⟩,⟨yG,yH,yI⟩,⟨yJ,yK,yL⟩,⟨yM,yN,yO⟩⟩)[q]?:=fun w' hh=>hh.cells
 dsimp only [ae] at e0
 refine wp_region_held_drew (S:=(fun w'=>aq w' xb (ae s ⟨⟨yA,yB,yC⟩,⟨yD,yE,yF⟩,⟨yG,yH,yI⟩,⟨yJ,yK,yL⟩,⟨yM,yN,yO⟩⟩))) (by kernel_rfl) ?_ (fun hHeld => ?_)
 ·exact X0.out.keeps (aa.refl _).drew
 refine ad.go [0,1,2,3] ?_
 iterate 4 (refine aM (h := ?_);try simp only [au])
 refine ad.nil ?_
 refine aR 4 (h:=fun K hK => ?_)
 go_simp
 first
  | (go_at_call 24;refine (sg (v:=⟨⟨yA,yB,yC⟩,⟨yD,yE,yF⟩,⟨yG,yH,yI⟩,⟨yJ,yK,yL⟩,⟨yM,yN,yO⟩⟩) (C2.keeps (aa.refl _).drew) (O2.out.keeps (aa.refl _).drew) hg1 (by have:=sz.1;omega) (by have:=sz.2.1;omega)).mono ?_;rintro e w5 ⟨c5,rfl,-,eP,k5⟩;have K5:ab g Y w5:=((ab.refl g Y).drew).trans k5;have X5:=X0.out.but K5 (by omega))
  | (go_at_call 23;refine (xx eP c5).mono ?_;rintro e w6 ⟨c6,rfl,hc6,k6⟩;have K6:ab g Y w6:=K5.trans k6;have X6:=X0.out.but K6 (by omega))
 try go_wp2_with fail
 refine hK.out _ _ ?_ fun hHeld => ?_
 ·assumption
 clear hK K
 try simp only [au]
 refine aR 5 (h:=fun K hK => ?_)
 go_simp
 first
  | (go_at_call 24;refine (sg (v:=⟨⟨yA,yB,yC⟩,⟨yD,yE,yF⟩,⟨yG,yH,yI⟩,⟨yJ,yK,yL⟩,⟨yM,yN,yO⟩⟩) (C2.keeps (aa.refl _).drew) (O2.out.keeps (aa.refl _).drew) hg1 (by have:=sz.1;omega) (by have:=sz.2.1;omega)).mono ?_;rintro e w5 ⟨c5,rfl,-,eP,k5⟩;have K5:ab g Y w5:=((ab.refl g Y).drew).trans k5;have X5:=X0.out.but K5 (by omega))
  | (go_at_call 23;refine (xx eP c5).mono ?_;rintro e w6 ⟨c6,rfl,hc6,k6⟩;have K6:ab g Y w6:=K5.trans k6;have X6:=X0.out.but K6 (by omega))
 try go_wp2_with fail
 refine hK.out _ _ ?_ fun hHeld => ?_
 ·assumption
 clear hK K
 try simp only [au]
 refine aR 6 (h:=fun K hK => ?_)
 have B6:Hid (aq w6 w.heap.size zc):=B1.out.but (K2.out.trans K6) (by omega);have C6:Hid (aq w6 (w.heap.size+1) dG):=C1.out.but (K2.out.trans K6) (by omega);obtain ⟨_,r1,r2⟩:=B6.out;obtain ⟨_,r3,r4⟩:=C6.out
 go_simp
 try go_wp2_with fail
 refine hK.out _ _ ?_ fun hHeld => ?_
 ·exact aq.aT (c:=w.heap.size) (by omega) (ae s ⟨⟨yA,yB,yC⟩,⟨yD,yE,yF⟩,⟨yG,yH,yI⟩,⟨yJ,yK,yL⟩,⟨yM,yN,yO⟩⟩).toList 0 X6
 clear hK K
 try simp only [au]
 refine aR 7 (h:=fun K hK => ?_)
 skip
 go_simp
 try go_wp2_with fail
 refine hK.out _ _ ?_ fun hHeld => ?_
 ·exact aq.aT (c:=w.heap.size+1) (by omega) (cc c6).toList 0 (aq.aT (c:=w.heap.size) (by omega) (ae s ⟨⟨yA,yB,yC⟩,⟨yD,yE,yF⟩,⟨yG,yH,yI⟩,⟨yJ,yK,yL⟩,⟨yM,yN,yO⟩⟩).toList 0 X6)
 clear hK K
 try simp only [au]
 refine wpAnyH_done (by kernel_rfl) ?_ _
 have O6:ay w6 w1.heap.size ⟨⟨yA,yB,yC⟩,⟨yD,yE,yF⟩,⟨yG,yH,yI⟩,⟨yJ,yK,yL⟩,⟨yM,yN,yO⟩⟩ vs s:=O2.out.cy K6 hg1
 have K9:aa w w6:=(K2.out.trans K6).keeps K1 (by omega)
 have E1:Hid (aq (putC (putC w6 w.heap.size 0 (ae s ⟨⟨yA,yB,yC⟩,⟨yD,yE,yF⟩,⟨yG,yH,yI⟩,⟨yJ,yK,yL⟩,⟨yM,yN,yO⟩⟩).toList) (w.heap.size+1) 0 (cc c6).toList) w.heap.size (ae s ⟨⟨yA,yB,yC⟩,⟨yD,yE,yF⟩,⟨yG,yH,yI⟩,⟨yJ,yK,yL⟩,⟨yM,yN,yO⟩⟩)):=aq.aT (c:=w.heap.size+1) (by omega) _ 0 (B6.out.putC (ae s ⟨⟨yA,yB,yC⟩,⟨yD,yE,yF⟩,⟨yG,yH,yI⟩,⟨yJ,yK,yL⟩,⟨yM,yN,yO⟩⟩).toList rfl)
 have E2:Hid (aq (putC (putC w6 w.heap.size 0 (ae s ⟨⟨yA,yB,yC⟩,⟨yD,yE,yF⟩,⟨yG,yH,yI⟩,⟨yJ,yK,yL⟩,⟨yM,yN,yO⟩⟩).toList) (w.heap.size+1) 0 (cc c6).toList) (w.heap.size+1) (cc c6)):=(aq.aT (c:=w.heap.size) (by omega) _ 0 C6.out).putC (cc c6).toList rfl
 have KQ:Hid (aa w (putC (putC w6 w.heap.size 0 (ae s ⟨⟨yA,yB,yC⟩,⟨yD,yE,yF⟩,⟨yG,yH,yI⟩,⟨yJ,yK,yL⟩,⟨yM,yN,yO⟩⟩).toList) (w.heap.size+1) 0 (cc c6).toList)):=aa.putC (b:=w.heap.size+1) (by omega) _ 0 (aa.putC (b:=w.heap.size) (Nat.le_refl _) _ 0 K9)
 have OQ:Hid (ay (putC (putC w6 w.heap.size 0 (ae s ⟨⟨yA,yB,yC⟩,⟨yD,yE,yF⟩,⟨yG,yH,yI⟩,⟨yJ,yK,yL⟩,⟨yM,yN,yO⟩⟩).toList) (w.heap.size+1) 0 (cc c6).toList) w.heap.size ⟨⟨yA,yB,yC⟩,⟨yD,yE,yF⟩,⟨yG,yH,yI⟩,⟨yJ,yK,yL⟩,⟨yM,yN,yO⟩⟩ vs s):=(ay.aT (c:=w.heap.size+1) (fun i hi=>by have:=(O6.aG hi).1;omega) _ _ (ay.aT (c:=w.heap.size) (fun i hi=>by have:=(O6.aG hi).1;omega) _ _ O6)).base (by omega)
 clear r1 r2 r3 r4 e0 hHeld O6 K9 X5 X6 k5 k6 B6 C6
 change Exit.then _ _ _ _ (putC (putC w6 w.heap.size 0 (ae s ⟨⟨yA,yB,yC⟩,⟨yD,yE,yF⟩,⟨yG,yH,yI⟩,⟨yJ,yK,yL⟩,⟨yM,yN,yO⟩⟩).toList) (w.heap.size+1) 0 (cc c6).toList)
 generalize putC (putC w6 w.heap.size 0 (ae s ⟨⟨yA,yB,yC⟩,⟨yD,yE,yF⟩,⟨yG,yH,yI⟩,⟨yJ,yK,yL⟩,⟨yM,yN,yO⟩⟩).toList) (w.heap.size+1) 0 (cc c6).toList=Q at *
 go_wp2
 have y1:=E1.out.cells
 have y2:=E2.out.cells
 exact bodyPost_ret (v := .tuple #[.agg (ae s ⟨⟨yA,yB,yC⟩,⟨yD,yE,yF⟩,⟨yG,yH,yI⟩,⟨yJ,yK,yL⟩,⟨yM,yN,yO⟩⟩),ck c6]) (by simp [results,Tryz.results7,go_sem,y1,y2]) rfl ⟨s,⟨⟨yA,yB,yC⟩,⟨yD,yE,yF⟩,⟨yG,yH,yI⟩,⟨yJ,yK,yL⟩,⟨yM,yN,yO⟩⟩,vs,c6,rfl,OQ.out,sz,KQ.out⟩
section
attribute [local go_sem] aa.refl aa.alloc aa.drew aa.drewN
theorem Ev (s:Sy) (cpu:Int):(dH s cpu).length <= bE s:=by
 unfold dH bE
 have h1:=List.length_filter_le (eE cpu) s.tasks
 have h2:=List.length_filter_le (df cpu) s.af
 simp only [List.length_append,List.length_map]
 omega
theorem tJ (s:Sy) (t:ar):0 <= eH s t /\ (eH s t).toNat <= 6:=by
 unfold eH
 repeat' split
 all_goals decide
set_option linter.unusedSimpArgs false in
set_option maxHeartbeats 8000000 in
theorem Ew (a:Option Addr) (n cap:Nat) (w:World) (hm:n <= maxLen) (hb:∀ g,w.heap.size <= g->Bytes g w a n) (hg:dm w) {er:Nat->Addr} (E:cQ w er) :
  Calls Tryz.prog 4 #[.slice a n cap] w fun e w'=>e = .returned (.bool true) /\ aa w w':=by
 by_cases hn:n <= 1048576
 case neg =>
  have hd:decide (1048576 < (n:Int))=true:=by simp;omega
  go_enter Tryz.func4,Tryz.ntmps4
  go_wp2_with (go_at_call 6;refine (wv _ _ _ _ hm).mono ?_;rintro e w1 ⟨rfl,rfl⟩)
  go_ret
  exact ⟨rfl,aa.refl _⟩
 have hd:decide (1048576 < (n:Int))=false:=by simp;omega
 have HB:Hid (∀ g,w.heap.size <= g->Bytes g w a n):=hb
 have HG:Hid (dm w):=hg
 have HE:Hid (cQ w er):=E
 clear hb hg E
 go_enter Tryz.func4,Tryz.ntmps4
 go_wp2_with fail
 refine (wv _ _ _ _ hm).mono ?_
 rintro e w0 ⟨rfl,rfl⟩
 rw [hd]
 go_upto_region 4 with (go_at_call 7;refine (Eu a n cap _ hn HB.out).mono ?_;rintro e w1 ⟨s,v,vs,c,rfl,o1,sz,k1⟩;obtain ⟨⟨yA,yB,yC⟩,⟨yD,yE,yF⟩,⟨yG,yH,yI⟩,⟨yJ,yK,yL⟩,⟨yM,yN,yO⟩⟩:=v)
 have kX:aa w0 ((w1.alloc (.cells (ae s ⟨⟨yA,yB,yC⟩,⟨yD,yE,yF⟩,⟨yG,yH,yI⟩,⟨yJ,yK,yL⟩,⟨yM,yN,yO⟩⟩) 30)).alloc (.cells (cc c) 32)):=(k1.alloc _).alloc _
 have BX:Hid (aq ((w1.alloc (.cells (ae s ⟨⟨yA,yB,yC⟩,⟨yD,yE,yF⟩,⟨yG,yH,yI⟩,⟨yJ,yK,yL⟩,⟨yM,yN,yO⟩⟩) 30)).alloc (.cells (cc c) 32)) w1.heap.size (ae s ⟨⟨yA,yB,yC⟩,⟨yD,yE,yF⟩,⟨yG,yH,yI⟩,⟨yJ,yK,yL⟩,⟨yM,yN,yO⟩⟩)):=(aq.new _ _ _).alloc _
 have SX:Hid (aA ((w1.alloc (.cells (ae s ⟨⟨yA,yB,yC⟩,⟨yD,yE,yF⟩,⟨yG,yH,yI⟩,⟨yJ,yK,yL⟩,⟨yM,yN,yO⟩⟩) 30)).alloc (.cells (cc c) 32)) ⟨⟨yA,yB,yC⟩,⟨yD,yE,yF⟩,⟨yG,yH,yI⟩,⟨yJ,yK,yL⟩,⟨yM,yN,yO⟩⟩ s):=(o1.keeps (((aa.refl w1).alloc _).alloc _)).on (by have:=sz.2.2;omega)
 have OX:Hid (ay ((w1.alloc (.cells (ae s ⟨⟨yA,yB,yC⟩,⟨yD,yE,yF⟩,⟨yG,yH,yI⟩,⟨yJ,yK,yL⟩,⟨yM,yN,yO⟩⟩) 30)).alloc (.cells (cc c) 32)) w0.heap.size ⟨⟨yA,yB,yC⟩,⟨yD,yE,yF⟩,⟨yG,yH,yI⟩,⟨yJ,yK,yL⟩,⟨yM,yN,yO⟩⟩ vs s):=o1.keeps (((aa.refl w1).alloc _).alloc _)
 change Code.wp _ _ _ _ ((w1.alloc (.cells (ae s ⟨⟨yA,yB,yC⟩,⟨yD,yE,yF⟩,⟨yG,yH,yI⟩,⟨yJ,yK,yL⟩,⟨yM,yN,yO⟩⟩) 30)).alloc (.cells (cc c) 32))
 clear k1 o1 hd
 generalize ((w1.alloc (.cells (ae s ⟨⟨yA,yB,yC⟩,⟨yD,yE,yF⟩,⟨yG,yH,yI⟩,⟨yJ,yK,yL⟩,⟨yM,yN,yO⟩⟩) 30)).alloc (.cells (cc c) 32))=X at *
 generalize w1.heap.size=sb at *
 have e0:∀ w',aa X w'->∀ q,w'.cell? ⟨sb,q,none⟩=(ae s ⟨⟨yA,yB,yC⟩,⟨yD,yE,yF⟩,⟨yG,yH,yI⟩,⟨yJ,yK,yL⟩,⟨yM,yN,yO⟩⟩)[q]?:=fun w' k=>(BX.out.keeps k).cells
 dsimp only [ae] at e0
 obtain ⟨z,Hz⟩:∃ z,Hid (aY s=z):=⟨_,rfl⟩
 have hzz:(z != z)=false:=by simp
 have cI:Hid (∀ w',aa X w'->Calls Tryz.prog 8 #[.agg (ae s ⟨⟨yA,yB,yC⟩,⟨yD,yE,yF⟩,⟨yG,yH,yI⟩,⟨yJ,yK,yL⟩,⟨yM,yN,yO⟩⟩)] w' fun e w''=>e = .returned (.bool z) /\ aa w' w''):=fun w' k=>by
  have:=xy w' ⟨⟨yA,yB,yC⟩,⟨yD,yE,yF⟩,⟨yG,yH,yI⟩,⟨yJ,yK,yL⟩,⟨yM,yN,yO⟩⟩ s (HG.out.keeps (kX.trans k)) (SX.out.keeps k)
  rw [Hz.out] at this
  exact this
 have cS:Hid (∀ w',aa X w'->Calls Tryz.prog 9 #[.agg (ae s ⟨⟨yA,yB,yC⟩,⟨yD,yE,yF⟩,⟨yG,yH,yI⟩,⟨yJ,yK,yL⟩,⟨yM,yN,yO⟩⟩)] w' fun e w''=>e = .returned (.bool z) /\ aa w' w''):=fun w' k=>by
  have:=qV (SX.out.keeps k)
  rw [Hz.out] at this
  exact this
 refine wp_region_held_drew (S:=(fun w'=>aa X w')) (by kernel_rfl) ?_ (fun hHeld => ?_)
 ·exact (aa.refl X).drew
 refine ad.go [0,2] ?_
 iterate 2 (refine aM (h := ?_);try simp only [au])
 refine ad.nil ?_
 refine aR 1 (h:=fun K hK => ?_)
 go_simp
 first
  | (go_at_call 8;refine (cI.out _ (by assumption)).mono ?_;rintro e w2 ⟨rfl,k2⟩)
  | (go_at_call 9;refine (cS.out _ (by assumption)).mono ?_;rintro e w3 ⟨rfl,k3⟩)
 try go_wp2_with fail
 refine hK.out _ _ ?_ fun hHeld => ?_
 ·exact aa.trans (by assumption) (by assumption)
 clear hK K
 try simp only [au]
 refine aR 3 (h:=fun K hK => ?_)
 go_simp
 first
  | (go_at_call 8;refine (cI.out _ (by assumption)).mono ?_;rintro e w2 ⟨rfl,k2⟩)
  | (go_at_call 9;refine (cS.out _ (by assumption)).mono ?_;rintro e w3 ⟨rfl,k3⟩)
 try go_wp2_with fail
 refine hK.out _ _ ?_ fun hHeld => ?_
 ·exact aa.trans (by assumption) (by assumption)
 clear hK K
 try simp only [au]
 refine di 4 (h := ?_)
 try simp only [au]
 refine wpAnyH_done (by kernel_rfl) ?_ _
 have K3:aa X w3:=by assumption
 have f0:∀ w',aa X w'->∀ q,w'.cell? ⟨sb,q,none⟩=(ae s ⟨⟨yA,yB,yC⟩,⟨yD,yE,yF⟩,⟨yG,yH,yI⟩,⟨yJ,yK,yL⟩,⟨yM,yN,yO⟩⟩)[q]?:=fun w' k=>(BX.out.keeps k).cells
 have f3:∀ q,w3.cell? ⟨sb,q,none⟩=(ae s ⟨⟨yA,yB,yC⟩,⟨yD,yE,yF⟩,⟨yG,yH,yI⟩,⟨yJ,yK,yL⟩,⟨yM,yN,yO⟩⟩)[q]?:=f0 w3 K3
 dsimp only [ae] at f0 f3
 have kn:Hid (s.tasks.length=yB):=SX.out.lay.tl
 have Kh:Hid (s.ak.length=yE):=SX.out.lay.ll
 clear e0 k2 k3 hHeld hzz cI
 have Ki:yB <= 2000000:=by have h1:=SX.out.size;unfold bE at h1;rw [<- kn.out];omega
 have mY:Hid (s.af.length=yH):=SX.out.lay.gl
 clear f3
 go_wp2_with fail
 go_loopw [5] (fun i wr=>∃ k:Nat,k <= yB /\ i = .int .i64 k /\ aa X wr) (fun i _=>yB - (intOf i).toNat)
 case atStart=>exact ⟨0,Nat.zero_le _,rfl,K3⟩
 case round =>
  obtain ⟨k,hk,rfl,hK⟩:=hrel
  have rW:=f0 wr hK
  by_cases hlt:k < yB
  rotate_left
  ·have hlt':decide ((k:Int) < (yB:Int))=false:=by simp;omega
   go_wp2
   go_ret
   exact ⟨rfl,kX.trans hK⟩
  have hlt':(k:Int) < (yB:Int):=by omega
  cases z
  ·go_wp2_with (go_at_call 9;refine (cS.out _ hK).mono ?_;rintro e w4 ⟨rfl,k4⟩)
   go_ret
   exact ⟨rfl,kX.trans (hK.trans k4)⟩
  have hs:Hid (aY s=true):=Hz.out
  have R:Hid (cx s):=kQ.1 hs.out
  obtain ⟨t,ht⟩:=cd (xs:=s.tasks) (k:=k) (by rw [kn.out];exact hlt)
  have Ht:Hid (s.tasks[k]?=some t):=ht
  obtain ⟨tb,htb⟩:=OX.out.aW (cZ ht)
  dsimp only at htb
  subst htb
  have T0:∀ w',aa X w'->∀ i,i < 14->w'.cell? ⟨tb,k*14+i,none⟩=(tc t)[i]?:=fun w' kk i hi=>(kk.cells tb _ (OX.out.aG (i:=0) (b:=tb) rfl).2).trans ((OX.out.aJ (rb:=tb) rfl ht).1 i hi)
  have lf:∀ w',aa X w'->w'.cell? ⟨tb,k*14,none⟩=some (.int .i64 t.no):=fun w' kk=>T0 w' kk 0 (by omega)
  clear ht
  go_upto_region 10 with (go_at_call 9;refine (cS.out _ hK).mono ?_;rintro e w4 ⟨rfl,k4⟩;have Ex:=f0 w4 (hK.trans k4);have T4:=T0 w4 (hK.trans k4);have Ey:=lf w4 (hK.trans k4))
  have kY:aa X (w4.alloc (.cells (tc t) 43)):=(hK.trans k4).alloc _
  have BA:Hid (aq (w4.alloc (.cells (tc t) 43)) w4.heap.size (tc t)):=aq.new _ _ _
  change Code.wp _ _ _ _ (w4.alloc (.cells (tc t) 43))
  clear Ex T4 Ey T0 lf k4 hK rW
  generalize (w4.alloc (.cells (tc t) 43))=Y at *
  generalize w4.heap.size=Ez at *
  have rA:∀ w',aa Y w'->∀ q,w'.cell? ⟨Ez,q,none⟩=(tc t)[q]?:=fun w' kk=>(BA.out.keeps kk).cells
  have rB:∀ w',aa Y w'->∀ q,w'.cell? ⟨sb,q,none⟩=(ae s ⟨⟨some ⟨tb,0,none⟩,yB,yC⟩,⟨yD,yE,yF⟩,⟨yG,yH,yI⟩,⟨yJ,yK,yL⟩,⟨yM,yN,yO⟩⟩)[q]?:=fun w' kk=>f0 w' (kY.trans kk)
  dsimp only [ae] at rB
  have xz:=rA Y (aa.refl Y)
  have rp:=rB Y (aa.refl Y)
  by_cases hc:t.cls=1
  rotate_left
  ·have hc':(t.cls != 1)=true:=by simp [hc]
   go_wp2
   exact ⟨⟨k+1,by omega,by go_num,kY⟩,by simp only [intOf];omega⟩
  have hc':(t.cls != 1)=false:=by simp [hc]
  have Hc:Hid (t.cls=1):=hc
  clear hc
  have CALL:Hid (∀ w',aa Y w'->Calls Tryz.prog 11 #[.agg (ae s ⟨⟨some ⟨tb,0,none⟩,yB,yC⟩,⟨yD,yE,yF⟩,⟨yG,yH,yI⟩,⟨yJ,yK,yL⟩,⟨yM,yN,yO⟩⟩),ck ⟨6,t.no,0,0,0⟩] w' (rq (if (eH s t).toNat=0 then fk s k t else s) ((eH s t).toNat:Int) w')):=fun w' kk=>by
   have hsz:bE s <= 1048576:=by have:=R.out.small;omega
   have EA:cq t=true:=by
    unfold cq
    rw [tC R.out.tasks Ht.out,Hc.out]
    rfl
   exact EC ⟨⟨some ⟨tb,0,none⟩,yB,yC⟩,⟨yD,yE,yF⟩,⟨yG,yH,yI⟩,⟨yJ,yK,yL⟩,⟨yM,yN,yO⟩⟩ s (fk s k t) w' (SX.out.keeps (kY.trans kk)) hs.out (HG.out.keeps (kX.trans (kY.trans kk))) t.no 0 0 0 (by simp [ef,dU,fh,aH]) (HE.out.keeps (kX.trans (kY.trans kk))) (eH s t).toNat (tJ s t).2 (fun W EW SW=>EE _ s _ W SW hsz t.no 0 0 0 EW _ (fun W2 lo ob v1 vs1 hV _ hE2 EF _=>EG hV hE2 EF R.out Ht.out (Ed R.out.tasks Ht.out) EA))
  by_cases h0:eH s t=0
  rotate_left
  ·obtain ⟨x,Hx⟩:∃ x:Nat,Hid ((eH s t).toNat=x):=⟨_,rfl⟩
   have hx:((x:Int) != 0)=true:=by
    have h1:=(tJ s t).1
    have h2:=Hx.out
    simp
    omega
   have om:Hid (∀ w',aa Y w'->Calls Tryz.prog 11 #[.agg (ae s ⟨⟨some ⟨tb,0,none⟩,yB,yC⟩,⟨yD,yE,yF⟩,⟨yG,yH,yI⟩,⟨yJ,yK,yL⟩,⟨yM,yN,yO⟩⟩),ck ⟨6,t.no,0,0,0⟩] w' (rq s (x:Int) w')):=fun w' kk=>by
    have:=CALL.out w' kk
    rw [Hx.out,if_neg (by have h1:=(tJ s t).1;have h2:=Hx.out;omega)] at this
    exact this
   clear CALL
   have HR:=Cq h0
   obtain ⟨oa,kv⟩:∃ z,Hid (gO s.ak t.no=z):=⟨_,rfl⟩
   obtain ⟨wa,rr⟩:∃ z,Hid (dS s.ak t.no=z):=⟨_,rfl⟩
   rw [kv.out,rr.out,mY.out] at HR
   have OA:Hid (∀ w',aa Y w'->Calls Tryz.prog 14 #[.slice yD yE yF,.int .i64 t.no] w' fun e w''=>e = .returned (.bool oa) /\ aa w' w''):=fun w' kk=>by
    have:=xP yD yF s.ak t.no w' (by have:=R.out.five;unfold maxLen;omega) (SX.out.keeps (kY.trans kk)).lay.l
    rw [show s.ak.length=yE from SX.out.lay.ll,kv.out] at this
    exact this
   have WA:Hid (∀ w',aa Y w'->Calls Tryz.prog 15 #[.slice yD yE yF,.int .i64 t.no] w' fun e w''=>e = .returned (.int .i64 wa) /\ aa w' w''):=fun w' kk=>by
    have:=xQ yD yF s.ak t.no w' (by have:=R.out.small;unfold bE at this;omega) (SX.out.keeps (kY.trans kk)).lay.l
    rw [show s.ak.length=yE from SX.out.lay.ll,rr.out] at this
    exact this
   go_upto_region 13 with (go_at_call 11;refine (om.out _ (aa.refl Y)).mono ?_;rintro e w7 ⟨v6,eD,rfl,o7,k7⟩;obtain ⟨⟨aZ,bd,bS⟩,⟨bg,bh,bT⟩,⟨bj,bk,bU⟩,⟨fa6,bm,bV⟩,⟨bn,bp,bW⟩⟩:=v6)
   have kZ:aa Y (w7.alloc (.cells (ae s ⟨⟨aZ,bd,bS⟩,⟨bg,bh,bT⟩,⟨bj,bk,bU⟩,⟨fa6,bm,bV⟩,⟨bn,bp,bW⟩⟩) 30)):=k7.alloc _
   change Code.wp _ _ _ _ (w7.alloc (.cells (ae s ⟨⟨aZ,bd,bS⟩,⟨bg,bh,bT⟩,⟨bj,bk,bU⟩,⟨fa6,bm,bV⟩,⟨bn,bp,bW⟩⟩) 30))
   clear o7 k7 om xz rp
   generalize (w7.alloc (.cells (ae s ⟨⟨aZ,bd,bS⟩,⟨bg,bh,bT⟩,⟨bj,bk,bU⟩,⟨fa6,bm,bV⟩,⟨bn,bp,bW⟩⟩) 30))=Z at *
   have xR:=rA Z kZ
   have xS:=rB Z kZ
   cases oa
   rotate_left
   ·go_wp2_with (go_at_call 14;refine (OA.out _ kZ).mono ?_;rintro e w8 ⟨rfl,k8⟩;have ru:=rA w8 (kZ.trans k8);have rv:=rB w8 (kZ.trans k8))
    exact ⟨⟨k+1,by omega,by go_num,kY.trans (kZ.trans k8)⟩,by simp only [intOf];omega⟩
   by_cases hw:wa < 0
   ·have hw':decide (wa < 0)=true:=by simp [hw]
    have hg':decide ((yH:Int) < 12)=false:=by
     rcases HR with h | h | h
     ·cases h
     ·omega
     ·simp;omega
    go_wp2_with (first
     | (go_at_call 14;refine (OA.out _ kZ).mono ?_;rintro e w8 ⟨rfl,k8⟩;have ru:=rA w8 (kZ.trans k8);have rv:=rB w8 (kZ.trans k8))
     | (go_at_call 15;refine (WA.out _ (kZ.trans k8)).mono ?_;rintro e w9 ⟨rfl,k9⟩;have xU:=rA w9 ((kZ.trans k8).trans k9);have xV:=rB w9 ((kZ.trans k8).trans k9)))
    exact ⟨⟨k+1,by omega,by go_num,kY.trans ((kZ.trans k8).trans k9)⟩,by simp only [intOf];omega⟩
   ·have hw':decide (wa < 0)=false:=by simp;omega
    go_wp2_with (first
     | (go_at_call 14;refine (OA.out _ kZ).mono ?_;rintro e w8 ⟨rfl,k8⟩;have ru:=rA w8 (kZ.trans k8);have rv:=rB w8 (kZ.trans k8))
     | (go_at_call 15;refine (WA.out _ (kZ.trans k8)).mono ?_;rintro e w9 ⟨rfl,k9⟩;have xU:=rA w9 ((kZ.trans k8).trans k9);have xV:=rB w9 ((kZ.trans k8).trans k9)))
    exact ⟨⟨k+1,by omega,by go_num,kY.trans ((kZ.trans k8).trans k9)⟩,by simp only [intOf];omega⟩
  have om:Hid (∀ w',aa Y w'->Calls Tryz.prog 11 #[.agg (ae s ⟨⟨some ⟨tb,0,none⟩,yB,yC⟩,⟨yD,yE,yF⟩,⟨yG,yH,yI⟩,⟨yJ,yK,yL⟩,⟨yM,yN,yO⟩⟩),ck ⟨6,t.no,0,0,0⟩] w' (rq (fk s k t) 0 w')):=fun w' kk=>by
   have:=CALL.out w' kk
   rw [h0] at this
   exact this
  clear CALL
  have oo:=Cr Ht.out Hc.out
  have xW:Hid (dc (fk s k t).tasks t.no = -1):=Ct R.out Ht.out
  have l6:Hid (bE (fk s k t) <= 2000):=by
   have h1:=R.out.small
   show _ <= _
   unfold fk
   unfold bE at h1 ⊢
   dsimp only
   have h2:(s.tasks.eraseIdx k).length <= s.tasks.length:=List.length_eraseIdx_le ..
   have h3:(if je s t then s.af++[f8 t] else s.af).length <= s.af.length+1:=by split <;> simp
   omega
  obtain ⟨s2,ry⟩:∃ z,Hid (fk s k t=z):=⟨_,rfl⟩
  rw [ry.out] at om oo xW l6
  go_upto_region 15 with (go_at_call 11;refine (om.out _ (aa.refl Y)).mono ?_;rintro e w7 ⟨v6,eD,rfl,o7,k7⟩;obtain ⟨⟨aZ,bd,bS⟩,⟨bg,bh,bT⟩,⟨bj,bk,bU⟩,⟨fa6,bm,bV⟩,⟨bn,bp,bW⟩⟩:=v6)
  have kZ:aa Y (w7.alloc (.cells (ae s2 ⟨⟨aZ,bd,bS⟩,⟨bg,bh,bT⟩,⟨bj,bk,bU⟩,⟨fa6,bm,bV⟩,⟨bn,bp,bW⟩⟩) 30)):=k7.alloc _
  have BT:Hid (aq (w7.alloc (.cells (ae s2 ⟨⟨aZ,bd,bS⟩,⟨bg,bh,bT⟩,⟨bj,bk,bU⟩,⟨fa6,bm,bV⟩,⟨bn,bp,bW⟩⟩) 30)) w7.heap.size (ae s2 ⟨⟨aZ,bd,bS⟩,⟨bg,bh,bT⟩,⟨bj,bk,bU⟩,⟨fa6,bm,bV⟩,⟨bn,bp,bW⟩⟩)):=aq.new _ _ _
  have ST:Hid (aA (w7.alloc (.cells (ae s2 ⟨⟨aZ,bd,bS⟩,⟨bg,bh,bT⟩,⟨bj,bk,bU⟩,⟨fa6,bm,bV⟩,⟨bn,bp,bW⟩⟩) 30)) ⟨⟨aZ,bd,bS⟩,⟨bg,bh,bT⟩,⟨bj,bk,bU⟩,⟨fa6,bm,bV⟩,⟨bn,bp,bW⟩⟩ s2):=(o7.keeps ((aa.refl w7).alloc _)).on (by have:=l6.out;omega)
  change Code.wp _ _ _ _ (w7.alloc (.cells (ae s2 ⟨⟨aZ,bd,bS⟩,⟨bg,bh,bT⟩,⟨bj,bk,bU⟩,⟨fa6,bm,bV⟩,⟨bn,bp,bW⟩⟩) 30))
  clear o7 k7 om xz rp
  generalize (w7.alloc (.cells (ae s2 ⟨⟨aZ,bd,bS⟩,⟨bg,bh,bT⟩,⟨bj,bk,bU⟩,⟨fa6,bm,bV⟩,⟨bn,bp,bW⟩⟩) 30))=Z at *
  generalize w7.heap.size=EH at *
  have rT:∀ w',aa Z w'->∀ q,w'.cell? ⟨EH,q,none⟩=(ae s2 ⟨⟨aZ,bd,bS⟩,⟨bg,bh,bT⟩,⟨bj,bk,bU⟩,⟨fa6,bm,bV⟩,⟨bn,bp,bW⟩⟩)[q]?:=fun w' kk=>(BT.out.keeps kk).cells
  dsimp only [ae] at rT
  have xR:=rA Z kZ
  have xS:=rB Z kZ
  obtain ⟨n1,tK⟩:∃ z,Hid ((dH s t.cpu).length=z):=⟨_,rfl⟩
  obtain ⟨m1,xX⟩:∃ z,Hid ((dH s2 t.cpu).length=z):=⟨_,rfl⟩
  rw [tK.out,xX.out] at oo
  have EI:Hid (∀ w',aa Z w'->Calls Tryz.prog 16 #[.agg (ae s ⟨⟨some ⟨tb,0,none⟩,yB,yC⟩,⟨yD,yE,yF⟩,⟨yG,yH,yI⟩,⟨yJ,yK,yL⟩,⟨yM,yN,yO⟩⟩),.int .i64 t.cpu] w' fun e w''=>∃ a c,e = .returned (.slice a n1 c) /\ aa w' w''):=fun w' kk=>by
   refine (tL w' ⟨⟨some ⟨tb,0,none⟩,yB,yC⟩,⟨yD,yE,yF⟩,⟨yG,yH,yI⟩,⟨yJ,yK,yL⟩,⟨yM,yN,yO⟩⟩ s t.cpu (SX.out.keeps (kY.trans (kZ.trans kk)))).mono ?_
   rintro e w'' ⟨u,rfl,o,k2⟩
   obtain ⟨a,c,rfl⟩:=o.form iR
   exact ⟨a,c,by rw [tK.out],k2⟩
  have EJ:Hid (∀ w',aa Z w'->Calls Tryz.prog 16 #[.agg (ae s2 ⟨⟨aZ,bd,bS⟩,⟨bg,bh,bT⟩,⟨bj,bk,bU⟩,⟨fa6,bm,bV⟩,⟨bn,bp,bW⟩⟩),.int .i64 t.cpu] w' fun e w''=>∃ a c,e = .returned (.slice a m1 c) /\ aa w' w''):=fun w' kk=>by
   refine (tL w' ⟨⟨aZ,bd,bS⟩,⟨bg,bh,bT⟩,⟨bj,bk,bU⟩,⟨fa6,bm,bV⟩,⟨bn,bp,bW⟩⟩ s2 t.cpu (ST.out.keeps kk)).mono ?_
   rintro e w'' ⟨u,rfl,o,k2⟩
   obtain ⟨a,c,rfl⟩:=o.form iR
   exact ⟨a,c,by rw [xX.out],k2⟩
  have xY:Hid (∀ w',aa Z w'->Calls Tryz.prog 17 #[.slice aZ bd bS,.int .i64 t.no] w' fun e w''=>e = .returned (.int .i64 (-1)) /\ aa w' w''):=fun w' kk=>by
   have:=tM aZ bS s2.tasks t.no w' (by have h1:=l6.out;unfold bE at h1;unfold maxLen;omega) (ST.out.keeps kk).lay.t
   rw [show s2.tasks.length=bd from ST.out.lay.tl,xW.out] at this
   exact this
  have Kj:decide ((0:Int) <= -1)=false:=by decide
  go_upto_region 16 with (go_at_call 16;refine (EI.out _ (aa.refl Z)).mono ?_;rintro e w8 ⟨a8,c8,rfl,k8⟩)
  have ru:=rA w8 (kZ.trans k8)
  have rv:=rB w8 (kZ.trans k8)
  have EK:=rT w8 k8
  clear xR xS
  go_upto_region 17 with (go_at_call 16;refine (EJ.out _ k8).mono ?_;rintro e w9 ⟨a9,c9,rfl,k9⟩)
  have xU:=rA w9 (kZ.trans (k8.trans k9))
  have xV:=rB w9 (kZ.trans (k8.trans k9))
  have Kk:=rT w9 (k8.trans k9)
  clear ru rv EK
  by_cases hd2:s.now < t.due
  ·have e1:=oo.1 hd2
   have EL:decide (s.now < t.due)=true:=by simp [hd2]
   have EM:decide (t.due <= s.now)=false:=by simp;omega
   have EO:((m1:Int) != (n1:Int))=false:=by simp;omega
   clear oo e1
   go_wp2_with (go_at_call 17;refine (xY.out _ (k8.trans k9)).mono ?_;rintro e EP ⟨rfl,k10⟩)
   exact ⟨⟨k+1,by omega,by go_num,kY.trans (kZ.trans ((k8.trans k9).trans k10))⟩,by simp only [intOf];omega⟩
  ·have e1:=oo.2 (by omega)
   have EL:decide (s.now < t.due)=false:=by simp;omega
   have EM:decide (t.due <= s.now)=true:=by simp;omega
   have hnb:n1 <= 1048576:=by
    have h1:=R.out.small
    have h2:=Ev s t.cpu
    rw [tK.out] at h2
    omega
   have Hw:IntKind.i64.wrap ((n1:Int) - 1)=(n1:Int) - 1:=Go.IntWalk.i64_in _ (by omega)
   have EO:((m1:Int) != (n1:Int) - 1)=false:=by simp;omega
   clear oo e1
   go_wp2_with (go_at_call 17;refine (xY.out _ (k8.trans k9)).mono ?_;rintro e EP ⟨rfl,k10⟩)
   exact ⟨⟨k+1,by omega,by go_num,kY.trans (kZ.trans ((k8.trans k9).trans k10))⟩,by simp only [intOf];omega⟩
end
end Go.Proofs.YteagpjlgjfaclaaGreatDoor
