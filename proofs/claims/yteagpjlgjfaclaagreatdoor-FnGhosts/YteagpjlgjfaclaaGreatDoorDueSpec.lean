/-
  Deadlines: contracts of the model's functions.
-/
import Derived.Test.YteagpjlgjfaclaaGreatDoorFixPure
import Derived.Test.YteagpjlgjfaclaaGreatDoorPlain1
namespace Go.Proofs.YteagpjlgjfaclaaGreatDoor
open Go.RowKit
attribute [local go_sem] aa.refl aa.alloc aa.drew aa.drewN
theorem pK (t:ar) (w:World) :
  Calls Tryz.prog 198 #[tk t] w fun e w'=>e = .returned (.bool (cq t)) /\ aa w w':=by
 go_enter Tryz.func198,Tryz.ntmps198
 go_wp2_with fail
 refine (kH t _).mono ?_
 rintro e w1 ⟨rfl,k1⟩
 have B1:=(aq.new w (tc t) 43).keeps k1
 have K1:aa w w1:=((aa.refl w).alloc _).trans k1
 obtain ⟨_,b1,b2⟩:=B1
 clear k1
 cases hb:bN t
 ·have Hr:Hid (cq t=false):=by show _=_;simp [cq,hb]
  go_wp2
  go_ret
  exact ⟨by rw [Hr.out];rfl,K1⟩
 ·have Hr:Hid (cq t=(t.cls==1)):=by show _=_;simp [cq,hb]
  go_wp2
  go_ret
  exact ⟨by rw [Hr.out];rfl,K1⟩
set_option maxHeartbeats 2000000 in
theorem wO (t:ar) (w:World) :
  Calls Tryz.prog 206 #[tk t] w fun e w'=>e = .returned (tk (kI t)) /\ aa w w':=by
 go_enter Tryz.func206,Tryz.ntmps206
 go_wp2_with fail
 refine (pK t _).mono ?_
 rintro e w1 ⟨rfl,k1⟩
 have B1:=((aq.new w (tc t) 43).alloc (.cells (tc ar.zero) 43)).keeps k1
 have B2:=(aq.new (w.alloc (.cells (tc t) 43)) (tc ar.zero) 43).keeps k1
 have K1:Hid (aa w w1):=(((aa.refl w).alloc _).alloc _).trans k1
 simp only [World.size_alloc] at B2
 have R:Hid (aq w1 (w.heap.size+1) (tc ar.zero)):=B2
 obtain ⟨_,b1,b2⟩:=B1
 obtain ⟨_,c1,c2⟩:=B2
 clear k1
 cases hd:cq t
 ·have Hn:Hid (kI t=t):=by show _=_;simp [kI,qY,hd]
  go_wp2
  have D:=R.out.putC (tc (t)).toList rfl
  have K:=aa.putC (b:=w.heap.size+1) (by omega) (tc (t)).toList 0 K1.out
  change bodyPost _ _ _ _ _ (putC w1 (w.heap.size+1) 0 (tc (t)).toList)
  generalize putC w1 (w.heap.size+1) 0 (tc (t)).toList=X at D K ⊢
  exact bodyPost_ret (v:=tk (t)) (by simp [results,Tryz.results206,go_sem,D.cells]) rfl ⟨by rw [Hn.out],K⟩
 ·have H:=(tq t).1 hd
  obtain ⟨p0,p1⟩:=H.p
  obtain ⟨q0,q1⟩:=H.q
  obtain ⟨l0,l1⟩:=H.left
  clear H
  cases hl:decide (0 < t.left)
  ·have Hn:Hid (kI t=t):=by show _=_;simp only [kI,qY,hl,Bool.and_false,Bool.false_eq_true,if_false]
   go_wp2
   have D:=R.out.putC (tc (t)).toList rfl
   have K:=aa.putC (b:=w.heap.size+1) (by omega) (tc (t)).toList 0 K1.out
   change bodyPost _ _ _ _ _ (putC w1 (w.heap.size+1) 0 (tc (t)).toList)
   generalize putC w1 (w.heap.size+1) 0 (tc (t)).toList=X at D K ⊢
   exact bodyPost_ret (v:=tk (t)) (by simp [results,Tryz.results206,go_sem,D.cells]) rfl ⟨by rw [Hn.out],K⟩
  ·have Hn:Hid (kI t={ t with left:=t.left - 1 }):=by show _=_;simp only [kI,qY,hl,hd,Bool.and_true,if_true]
   go_wp2
   have D:=(R.out.far (c:=w.heap.size) (o:=7) (by omega) (.int .i64 (t.left - 1))).putC (tc ({ t with left:=t.left - 1 })).toList rfl
   have K:=aa.putC (b:=w.heap.size+1) (by omega) (tc ({ t with left:=t.left - 1 })).toList 0 (K1.out.setCell (p:=⟨w.heap.size,7,none⟩) (Nat.le_refl _) (.int .i64 (t.left - 1)))
   change bodyPost _ _ _ _ _ (putC (w1.setCell ⟨w.heap.size,7,none⟩ (.int .i64 (t.left - 1))) (w.heap.size+1) 0 (tc ({ t with left:=t.left - 1 })).toList)
   generalize putC (w1.setCell ⟨w.heap.size,7,none⟩ (.int .i64 (t.left - 1))) (w.heap.size+1) 0 (tc ({ t with left:=t.left - 1 })).toList=X at D K ⊢
   exact bodyPost_ret (v:=tk ({ t with left:=t.left - 1 })) (by simp [results,Tryz.results206,go_sem,D.cells]) rfl ⟨by rw [Hn.out],K⟩
set_option maxHeartbeats 2000000 in
theorem Dk (a b:ar) (w:World) :
  Calls Tryz.prog 207 #[tk a,tk b] w fun e w'=>e = .returned (.bool (iB a b)) /\ aa w w':=by
 go_enter Tryz.func207,Tryz.ntmps207
 go_wp2_with fail
 have kW:aa w ((w.alloc (.cells (tc a) 43)).alloc (.cells (tc b) 43)):=((aa.refl w).alloc _).alloc _
 have r1:∀ w',aa ((w.alloc (.cells (tc a) 43)).alloc (.cells (tc b) 43)) w'->∀ k,w'.cell? ⟨w.heap.size,k,none⟩=(tc a)[k]?:=fun w' h=>(((aq.new w (tc a) 43).alloc _).keeps h).cells
 have r2:∀ w',aa ((w.alloc (.cells (tc a) 43)).alloc (.cells (tc b) 43)) w'->∀ k,w'.cell? ⟨w.heap.size+1,k,none⟩=(tc b)[k]?:=fun w' h=>by
  have:=(aq.new (w.alloc (.cells (tc a) 43)) (tc b) 43).keeps h
  simp only [World.size_alloc] at this
  exact this.cells
 generalize (w.alloc (.cells (tc a) 43)).alloc (.cells (tc b) 43)=W at *
 refine (pK a _).mono ?_
 rintro e w1 ⟨rfl,k1⟩
 cases ha:cq a
 ·have Hr:Hid (iB a b=false):=by show _=_;simp [iB,ha]
  go_wp2
  go_ret
  exact ⟨by rw [Hr.out];rfl,kW.trans k1⟩
 ·go_wp2_with fail
  refine (pK b _).mono ?_
  rintro e w2 ⟨rfl,k2⟩
  have K2:=k1.trans k2
  cases hb:cq b
  ·have Hr:Hid (iB a b=false):=by show _=_;simp [iB,hb]
   go_wp2
   go_ret
   exact ⟨by rw [Hr.out];rfl,kW.trans K2⟩
  ·cases h1:decide (a.due < b.due)
   ·cases h2:(a.due==b.due)
    ·have Hr:Hid (iB a b=false):=by show _=_;simp only [iB,h1,h2,Bool.false_and,Bool.or_false,Bool.and_false]
     go_wp2
     go_ret
     exact ⟨by rw [Hr.out];rfl,kW.trans K2⟩
    ·have Hr:Hid (iB a b=decide (a.no < b.no)):=by show _=_;simp only [iB,ha,hb,h1,h2,Bool.true_and,Bool.false_or]
     go_wp2
     go_ret
     exact ⟨by rw [Hr.out];rfl,kW.trans K2⟩
   ·have Hr:Hid (iB a b=true):=by show _=_;simp only [iB,ha,hb,h1,Bool.true_or,Bool.and_true]
    go_wp2
    go_ret
    exact ⟨by rw [Hr.out];rfl,kW.trans K2⟩
end Go.Proofs.YteagpjlgjfaclaaGreatDoor
