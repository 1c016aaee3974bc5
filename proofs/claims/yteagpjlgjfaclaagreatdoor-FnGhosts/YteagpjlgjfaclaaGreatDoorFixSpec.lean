/-
  Fixed priorities: contracts of the model's functions.
-/
import Derived.Test.YteagpjlgjfaclaaGreatDoorFixPure
import Derived.Test.YteagpjlgjfaclaaGreatDoorPlain1
namespace Go.Proofs.YteagpjlgjfaclaaGreatDoor
set_option maxRecDepth 100000
open Go.RowKit
attribute [local go_sem] aa.refl aa.alloc aa.drew aa.drewN
theorem tI (t:ar) (w:World) :
  Calls Tryz.prog 216 #[tk t] w fun e w'=>e = .returned (.bool (ey t)) /\ aa w w':=by
 go_enter Tryz.func216,Tryz.ntmps216
 go_wp2_with fail
 refine (kH t _).mono ?_
 rintro e w1 ⟨rfl,k1⟩
 have B1:=(aq.new w (tc t) 43).keeps k1
 have K1:aa w w1:=((aa.refl w).alloc _).trans k1
 obtain ⟨_,b1,b2⟩:=B1
 clear k1
 cases hb:bN t
 ·have Hr:Hid (ey t=false):=by show _=_;simp [ey,hb]
  go_wp2
  go_ret
  exact ⟨by rw [Hr.out];rfl,K1⟩
 ·have Hr:Hid (ey t=(t.cls==2)):=by show _=_;simp [ey,hb]
  go_wp2
  go_ret
  exact ⟨by rw [Hr.out];rfl,K1⟩
set_option maxHeartbeats 4000000 in
theorem rk (t:ar) (seq:Int) (w:World) :
  Calls Tryz.prog 204 #[tk t,.int .i64 seq] w fun e w'=>e = .returned (.tuple #[tk (jm t seq),.bool (jn t seq)]) /\ aa w w':=by
 go_enter Tryz.func204,Tryz.ntmps204
 go_wp2_with fail
 refine (tI t _).mono ?_
 rintro e w1 ⟨rfl,k1⟩
 have B1:=((aq.new w (tc t) 43).alloc (.cells (tc ar.zero) 43)).keeps k1
 have B2:=(aq.new (w.alloc (.cells (tc t) 43)) (tc ar.zero) 43).keeps k1
 have K1:Hid (aa w w1):=(((aa.refl w).alloc _).alloc _).trans k1
 simp only [World.size_alloc] at B2
 have R:Hid (aq w1 (w.heap.size+1) (tc ar.zero)):=B2
 obtain ⟨_,b1,b2⟩:=B1
 obtain ⟨_,c1,c2⟩:=B2
 clear k1
 cases hd:ey t
 ·have Hn:Hid (jm t seq=t):=by show _=_;simp [jm,hd]
  have Hg:Hid (jn t seq=false):=by show _=_;simp [jn,hd]
  go_wp2
  have D:=R.out.putC (tc (t)).toList rfl
  have K:=aa.putC (b:=w.heap.size+1) (by omega) (tc (t)).toList 0 K1.out
  change bodyPost _ _ _ _ _ (putC w1 (w.heap.size+1) 0 (tc (t)).toList)
  generalize putC w1 (w.heap.size+1) 0 (tc (t)).toList=Z at D K ⊢
  exact bodyPost_ret (v := .tuple #[tk (t),.bool false]) (by simp [results,Tryz.results204,go_sem,D.cells]) rfl ⟨by rw [Hn.out,Hg.out],K⟩
 ·cases hr:(t.round==0)
  rotate_left
  ·have Hn:Hid (jm t seq=t):=by show _=_;simp [jm,hr]
   have Hg:Hid (jn t seq=false):=by show _=_;simp [jn,hr]
   go_wp2
   have D:=R.out.putC (tc (t)).toList rfl
   have K:=aa.putC (b:=w.heap.size+1) (by omega) (tc (t)).toList 0 K1.out
   change bodyPost _ _ _ _ _ (putC w1 (w.heap.size+1) 0 (tc (t)).toList)
   generalize putC w1 (w.heap.size+1) 0 (tc (t)).toList=Z at D K ⊢
   exact bodyPost_ret (v := .tuple #[tk (t),.bool false]) (by simp [results,Tryz.results204,go_sem,D.cells]) rfl ⟨by rw [Hn.out,Hg.out],K⟩
  ·have H:=(Ep t).1 hd
   obtain ⟨r0,r1⟩:=H.round
   obtain ⟨l0,l1⟩:=H.left
   clear H
   cases hl:decide (1 < t.left)
   rotate_left
   ·have Hn:Hid (jm t seq={ t with left:=t.left - 1 }):=by show _=_;simp only [jm,hd,hr,hl,Bool.not_false,Bool.and_true,if_true]
    have Hg:Hid (jn t seq=false):=by show _=_;simp only [jn,hl,Bool.not_true,Bool.and_false,Bool.false_and]
    go_wp2
    have D:=(R.out.far (c:=w.heap.size) (o:=7) (by omega) (.int .i64 (t.left - 1))).putC (tc ({ t with left:=t.left - 1 })).toList rfl
    have K:=aa.putC (b:=w.heap.size+1) (by omega) (tc ({ t with left:=t.left - 1 })).toList 0 (K1.out.setCell (p:=⟨w.heap.size,7,none⟩) (Nat.le_refl _) (.int .i64 (t.left - 1)))
    change bodyPost _ _ _ _ _ (putC (w1.setCell ⟨w.heap.size,7,none⟩ (.int .i64 (t.left - 1))) (w.heap.size+1) 0 (tc ({ t with left:=t.left - 1 })).toList)
    generalize putC (w1.setCell ⟨w.heap.size,7,none⟩ (.int .i64 (t.left - 1))) (w.heap.size+1) 0 (tc ({ t with left:=t.left - 1 })).toList=Z at D K ⊢
    exact bodyPost_ret (v := .tuple #[tk ({ t with left:=t.left - 1 }),.bool false]) (by simp [results,Tryz.results204,go_sem,D.cells]) rfl ⟨by rw [Hn.out,Hg.out],K⟩
   ·cases hi:aH seq 0 1000000
    ·have Hn:Hid (jm t seq=t):=by show _=_;simp only [jm,hd,hr,hl,hi,Bool.not_false,Bool.and_true,if_true,Bool.false_eq_true,if_false]
     have Hg:Hid (jn t seq=false):=by show _=_;simp only [jn,hi,Bool.and_false]
     go_wp2_with (go_at_call 27;refine (bq _ _ _ _).mono ?_;rintro e w' ⟨rfl,hw'⟩;have hw2:=hw'.symm;subst hw2)
     have D:=R.out.putC (tc (t)).toList rfl
     have K:=aa.putC (b:=w.heap.size+1) (by omega) (tc (t)).toList 0 K1.out
     change bodyPost _ _ _ _ _ (putC w1 (w.heap.size+1) 0 (tc (t)).toList)
     generalize putC w1 (w.heap.size+1) 0 (tc (t)).toList=Z at D K ⊢
     exact bodyPost_ret (v := .tuple #[tk (t),.bool false]) (by simp [results,Tryz.results204,go_sem,D.cells]) rfl ⟨by rw [Hn.out,Hg.out],K⟩
    ·have Hn:Hid (jm t seq={ t with left:=t.round,seq:=seq }):=by show _=_;simp only [jm,hd,hr,hl,hi,Bool.not_false,Bool.and_true,if_true,Bool.false_eq_true,if_false]
     have Hg:Hid (jn t seq=true):=by show _=_;simp only [jn,hd,hr,hl,hi,Bool.not_false,Bool.and_true]
     go_wp2_with (go_at_call 27;refine (bq _ _ _ _).mono ?_;rintro e w' ⟨rfl,hw'⟩;have hw2:=hw'.symm;subst hw2)
     have D:=((R.out.far (c:=w.heap.size) (o:=7) (by omega) (.int .i64 (t.round))).far (c:=w.heap.size) (o:=11) (by omega) (.int .i64 (seq))).putC (tc ({ t with left:=t.round,seq:=seq })).toList rfl
     have K:=aa.putC (b:=w.heap.size+1) (by omega) (tc ({ t with left:=t.round,seq:=seq })).toList 0 ((K1.out.setCell (p:=⟨w.heap.size,7,none⟩) (Nat.le_refl _) (.int .i64 (t.round))).setCell (p:=⟨w.heap.size,11,none⟩) (Nat.le_refl _) (.int .i64 (seq)))
     change bodyPost _ _ _ _ _ (putC ((w1.setCell ⟨w.heap.size,7,none⟩ (.int .i64 (t.round))).setCell ⟨w.heap.size,11,none⟩ (.int .i64 (seq))) (w.heap.size+1) 0 (tc ({ t with left:=t.round,seq:=seq })).toList)
     generalize putC ((w1.setCell ⟨w.heap.size,7,none⟩ (.int .i64 (t.round))).setCell ⟨w.heap.size,11,none⟩ (.int .i64 (seq))) (w.heap.size+1) 0 (tc ({ t with left:=t.round,seq:=seq })).toList=Z at D K ⊢
     exact bodyPost_ret (v := .tuple #[tk ({ t with left:=t.round,seq:=seq }),.bool true]) (by simp [results,Tryz.results204,go_sem,D.cells]) rfl ⟨by rw [Hn.out,Hg.out],K⟩
set_option maxHeartbeats 2000000 in
theorem Es (a b:ar) (w:World) :
  Calls Tryz.prog 208 #[tk a,tk b] w fun e w'=>e = .returned (.bool (iH a b)) /\ aa w w':=by
 go_enter Tryz.func208,Tryz.ntmps208
 go_wp2_with fail
 have kW:aa w ((w.alloc (.cells (tc a) 43)).alloc (.cells (tc b) 43)):=((aa.refl w).alloc _).alloc _
 have r1:∀ w',aa ((w.alloc (.cells (tc a) 43)).alloc (.cells (tc b) 43)) w'->∀ k,w'.cell? ⟨w.heap.size,k,none⟩=(tc a)[k]?:=fun w' h=>(((aq.new w (tc a) 43).alloc _).keeps h).cells
 have r2:∀ w',aa ((w.alloc (.cells (tc a) 43)).alloc (.cells (tc b) 43)) w'->∀ k,w'.cell? ⟨w.heap.size+1,k,none⟩=(tc b)[k]?:=fun w' h=>by
  have:=(aq.new (w.alloc (.cells (tc a) 43)) (tc b) 43).keeps h
  simp only [World.size_alloc] at this
  exact this.cells
 generalize (w.alloc (.cells (tc a) 43)).alloc (.cells (tc b) 43)=W at *
 refine (tI a _).mono ?_
 rintro e w1 ⟨rfl,k1⟩
 cases ha:ey a
 ·have Hr:Hid (iH a b=false):=by show _=_;simp [iH,ha]
  go_wp2
  go_ret
  exact ⟨by rw [Hr.out];rfl,kW.trans k1⟩
 ·go_wp2_with fail
  refine (tI b _).mono ?_
  rintro e w2 ⟨rfl,k2⟩
  have K2:=k1.trans k2
  cases hb:ey b
  ·have Hr:Hid (iH a b=false):=by show _=_;simp [iH,hb]
   go_wp2
   go_ret
   exact ⟨by rw [Hr.out];rfl,kW.trans K2⟩
  ·cases h1:(a.prio != b.prio)
   ·cases h2:(a.seq != b.seq)
    ·have Hr:Hid (iH a b=decide (a.no < b.no)):=by show _=_;simp only [iH,ha,hb,h1,h2,Bool.true_and,Bool.false_eq_true,if_false]
     go_wp2
     go_ret
     exact ⟨by rw [Hr.out];rfl,kW.trans K2⟩
    ·have Hr:Hid (iH a b=decide (a.seq < b.seq)):=by show _=_;simp only [iH,ha,hb,h1,h2,Bool.true_and,Bool.false_eq_true,if_false,if_true]
     go_wp2
     go_ret
     exact ⟨by rw [Hr.out];rfl,kW.trans K2⟩
   ·have Hr:Hid (iH a b=decide (b.prio < a.prio)):=by show _=_;simp only [iH,ha,hb,h1,Bool.true_and,if_true]
    go_wp2
    go_ret
    exact ⟨by rw [Hr.out];rfl,kW.trans K2⟩
end Go.Proofs.YteagpjlgjfaclaaGreatDoor
