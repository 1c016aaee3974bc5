/-
  The program's task of each class, made whole again.
-/
import Derived.Test.YteagpjlgjfaclaaGreatDoorImplHead
namespace Go.Proofs.YteagpjlgjfaclaaGreatDoor
set_option maxRecDepth 100000
open Go.RowKit
set_option maxHeartbeats 2000000 in
theorem mJ (t:ag) (w:World) :
  Calls Tryz.prog 115 #[.agg (bg t)] w fun e w'=>e = .returned (tk t.cm) /\ aa w w':=by
 go_enter Tryz.func115,Tryz.ntmps115
 go_wp2_with fail
 refine (vO t _).mono ?_
 rintro e w1 ⟨rfl,k1⟩
 have B1:=((ai.new w (bg t) 84).alloc (.cells (tc ag.zero) 43)).keeps k1
 have B2:=(ai.new (w.alloc (.cells (bg t) 84)) (tc ag.zero) 43).keeps k1
 have K1:aa w w1:=(((aa.refl w).alloc _).alloc _).trans k1
 simp only [World.size_alloc] at B2
 have l1:=B1.lt
 have l2:=B2.lt
 clear k1
 go_wp2_with fail
 have H0:∀ X:Array Value,Has w w.heap.size (bg t) (w1.alloc (.cells X 43)).drew:=fun X=>⟨(K1.alloc _).drew,(B1.alloc _).keeps (aa.refl _).drew⟩
 have r1:∀ w',Has w w.heap.size (bg t) w'->∀ k,w'.cell? ⟨w.heap.size,k,none⟩=(bg t)[k]?:=fun w' h=>h.box.cells
 have vk:w.heap.size+1≠w1.heap.size:=by omega
 have rJ:w1.heap.size≠w.heap.size+1:=by omega
 have HR:Hid (ai w1 (w.heap.size+1) (tc ag.zero)):=B2
 have HK:Hid (aa w w1):=K1
 clear B1 B2 K1
 refine wp_region_held_drew (S:=(fun w'=>Has w w.heap.size (bg t) w')) (by kernel_rfl) ?_ (fun hHeld => ?_)
 ·exact H0 _
 refine ad.go [0,1,2,3,4,5,6,7,8,9,10,11,12,13,14] ?_
 iterate 15 (refine aJ (h := ?_);try simp only [ar])
 refine ad.nil ?_
 refine aO 15 (h:=fun K hK => ?_)
 skip
 go_simp
 try go_wp2_with fail
 refine hK.out _ _ ?_ fun hHeld => ?_
 ·exact H0 _
 clear hK K
 try simp only [ar]
 refine cU 16 (h := ?_)
 try simp only [ar]
 refine aO 17 (h:=fun K hK => ?_)
 skip
 go_simp
 try go_wp2_with fail
 refine hK.out _ _ ?_ fun hHeld => ?_
 ·exact H0 _
 clear hK K
 try simp only [ar]
 refine cU 18 (h := ?_)
 try simp only [ar]
 refine aO 19 (h:=fun K hK => ?_)
 skip
 go_simp
 try go_wp2_with fail
 refine hK.out _ _ ?_ fun hHeld => ?_
 ·exact H0 _
 clear hK K
 try simp only [ar]
 refine cU 20 (h := ?_)
 try simp only [ar]
 refine aO 21 (h:=fun K hK => ?_)
 skip
 go_simp
 try go_wp2_with fail
 refine hK.out _ _ ?_ fun hHeld => ?_
 ·exact H0 _
 clear hK K
 try simp only [ar]
 refine wpAnyH_done (by kernel_rfl) ?_ _
 clear H0 r1 hHeld
 obtain ⟨_,q1,q2⟩:=HR.out
 go_wp2
 have D:=((HR.out.putC (tc t.cm).toList rfl).alloc (.cells (tc t.cm) 43)).keeps (aa.refl _).drew
 have K:=((aa.putC (b:=w.heap.size+1) (by omega) (tc t.cm).toList 0 HK.out).alloc (.cells (tc t.cm) 43)).drew
 change bodyPost _ _ _ _ _ ((putC w1 (w.heap.size+1) 0 (tc t.cm).toList).alloc (.cells (tc t.cm) 43)).drew
 generalize ((putC w1 (w.heap.size+1) 0 (tc t.cm).toList).alloc (.cells (tc t.cm) 43)).drew=Y at D K ⊢
 exact bodyPost_ret (v:=tk t.cm) (by simp [results,Tryz.results115,go_sem,D.cells]) rfl ⟨rfl,K⟩
set_option maxHeartbeats 2000000 in
theorem mL (t:ag) (w:World) :
  Calls Tryz.prog 118 #[.agg (aT t)] w fun e w'=>e = .returned (tk t.cj) /\ aa w w':=by
 go_enter Tryz.func118,Tryz.ntmps118
 go_wp2_with fail
 refine (vO t _).mono ?_
 rintro e w1 ⟨rfl,k1⟩
 have B1:=((ai.new w (aT t) 171).alloc (.cells (tc ag.zero) 43)).keeps k1
 have B2:=(ai.new (w.alloc (.cells (aT t) 171)) (tc ag.zero) 43).keeps k1
 have K1:aa w w1:=(((aa.refl w).alloc _).alloc _).trans k1
 simp only [World.size_alloc] at B2
 have l1:=B1.lt
 have l2:=B2.lt
 clear k1
 go_wp2_with fail
 have H0:∀ X:Array Value,Has w w.heap.size (aT t) (w1.alloc (.cells X 43)).drew:=fun X=>⟨(K1.alloc _).drew,(B1.alloc _).keeps (aa.refl _).drew⟩
 have r1:∀ w',Has w w.heap.size (aT t) w'->∀ k,w'.cell? ⟨w.heap.size,k,none⟩=(aT t)[k]?:=fun w' h=>h.box.cells
 have vk:w.heap.size+1≠w1.heap.size:=by omega
 have rJ:w1.heap.size≠w.heap.size+1:=by omega
 have HR:Hid (ai w1 (w.heap.size+1) (tc ag.zero)):=B2
 have HK:Hid (aa w w1):=K1
 clear B1 B2 K1
 refine wp_region_held_drew (S:=(fun w'=>Has w w.heap.size (aT t) w')) (by kernel_rfl) ?_ (fun hHeld => ?_)
 ·exact H0 _
 refine ad.go [0,1,2,3,4,5,6,7,8,9,10,11,12] ?_
 iterate 13 (refine aJ (h := ?_);try simp only [ar])
 refine ad.nil ?_
 refine aO 13 (h:=fun K hK => ?_)
 skip
 go_simp
 try go_wp2_with fail
 refine hK.out _ _ ?_ fun hHeld => ?_
 ·exact H0 _
 clear hK K
 try simp only [ar]
 refine cU 14 (h := ?_)
 try simp only [ar]
 refine aO 15 (h:=fun K hK => ?_)
 skip
 go_simp
 try go_wp2_with fail
 refine hK.out _ _ ?_ fun hHeld => ?_
 ·exact H0 _
 clear hK K
 try simp only [ar]
 refine cU 16 (h := ?_)
 try simp only [ar]
 refine aO 17 (h:=fun K hK => ?_)
 skip
 go_simp
 try go_wp2_with fail
 refine hK.out _ _ ?_ fun hHeld => ?_
 ·exact H0 _
 clear hK K
 try simp only [ar]
 refine cU 18 (h := ?_)
 try simp only [ar]
 refine aO 19 (h:=fun K hK => ?_)
 skip
 go_simp
 try go_wp2_with fail
 refine hK.out _ _ ?_ fun hHeld => ?_
 ·exact H0 _
 clear hK K
 try simp only [ar]
 refine wpAnyH_done (by kernel_rfl) ?_ _
 clear H0 r1 hHeld
 obtain ⟨_,q1,q2⟩:=HR.out
 go_wp2
 have D:=((HR.out.putC (tc t.cj).toList rfl).alloc (.cells (tc t.cj) 43)).keeps (aa.refl _).drew
 have K:=((aa.putC (b:=w.heap.size+1) (by omega) (tc t.cj).toList 0 HK.out).alloc (.cells (tc t.cj) 43)).drew
 change bodyPost _ _ _ _ _ ((putC w1 (w.heap.size+1) 0 (tc t.cj).toList).alloc (.cells (tc t.cj) 43)).drew
 generalize ((putC w1 (w.heap.size+1) 0 (tc t.cj).toList).alloc (.cells (tc t.cj) 43)).drew=Y at D K ⊢
 exact bodyPost_ret (v:=tk t.cj) (by simp [results,Tryz.results118,go_sem,D.cells]) rfl ⟨rfl,K⟩
set_option maxHeartbeats 2000000 in
theorem mM (t:ag) (w:World) :
  Calls Tryz.prog 121 #[.agg (aV t)] w fun e w'=>e = .returned (tk t.bk) /\ aa w w':=by
 go_enter Tryz.func121,Tryz.ntmps121
 go_wp2_with fail
 refine (vO t _).mono ?_
 rintro e w1 ⟨rfl,k1⟩
 have B1:=((ai.new w (aV t) 176).alloc (.cells (tc ag.zero) 43)).keeps k1
 have B2:=(ai.new (w.alloc (.cells (aV t) 176)) (tc ag.zero) 43).keeps k1
 have K1:aa w w1:=(((aa.refl w).alloc _).alloc _).trans k1
 simp only [World.size_alloc] at B2
 have l1:=B1.lt
 have l2:=B2.lt
 clear k1
 go_wp2_with fail
 have H0:∀ X:Array Value,Has w w.heap.size (aV t) (w1.alloc (.cells X 43)).drew:=fun X=>⟨(K1.alloc _).drew,(B1.alloc _).keeps (aa.refl _).drew⟩
 have r1:∀ w',Has w w.heap.size (aV t) w'->∀ k,w'.cell? ⟨w.heap.size,k,none⟩=(aV t)[k]?:=fun w' h=>h.box.cells
 have vk:w.heap.size+1≠w1.heap.size:=by omega
 have rJ:w1.heap.size≠w.heap.size+1:=by omega
 have HR:Hid (ai w1 (w.heap.size+1) (tc ag.zero)):=B2
 have HK:Hid (aa w w1):=K1
 clear B1 B2 K1
 refine wp_region_held_drew (S:=(fun w'=>Has w w.heap.size (aV t) w')) (by kernel_rfl) ?_ (fun hHeld => ?_)
 ·exact H0 _
 refine ad.go [0,1,2,3,4,5,6] ?_
 iterate 7 (refine aJ (h := ?_);try simp only [ar])
 refine ad.nil ?_
 refine aO 7 (h:=fun K hK => ?_)
 skip
 go_simp
 try go_wp2_with fail
 refine hK.out _ _ ?_ fun hHeld => ?_
 ·exact H0 _
 clear hK K
 try simp only [ar]
 refine cU 8 (h := ?_)
 try simp only [ar]
 refine aO 9 (h:=fun K hK => ?_)
 skip
 go_simp
 try go_wp2_with fail
 refine hK.out _ _ ?_ fun hHeld => ?_
 ·exact H0 _
 clear hK K
 try simp only [ar]
 refine wpAnyH_done (by kernel_rfl) ?_ _
 clear H0 r1 hHeld
 obtain ⟨_,q1,q2⟩:=HR.out
 go_wp2
 have D:=((HR.out.putC (tc t.bk).toList rfl).alloc (.cells (tc t.bk) 43)).keeps (aa.refl _).drew
 have K:=((aa.putC (b:=w.heap.size+1) (by omega) (tc t.bk).toList 0 HK.out).alloc (.cells (tc t.bk) 43)).drew
 change bodyPost _ _ _ _ _ ((putC w1 (w.heap.size+1) 0 (tc t.bk).toList).alloc (.cells (tc t.bk) 43)).drew
 generalize ((putC w1 (w.heap.size+1) 0 (tc t.bk).toList).alloc (.cells (tc t.bk) 43)).drew=Y at D K ⊢
 exact bodyPost_ret (v:=tk t.bk) (by simp [results,Tryz.results121,go_sem,D.cells]) rfl ⟨rfl,K⟩
end Go.Proofs.YteagpjlgjfaclaaGreatDoor
