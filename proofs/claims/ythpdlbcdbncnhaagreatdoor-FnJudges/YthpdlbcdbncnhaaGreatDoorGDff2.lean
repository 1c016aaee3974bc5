/-
  Fixed priorities: contracts of the model's functions. The w
-/
import Derived.Test.YthpdlbcdbncnhaaGreatDoorGPure1
import Derived.Test.YthpdlbcdbncnhaaGreatDoorGBase1
import Derived.Test.YthpdlbcdbncnhaaGreatDoorGDff1
import Derived.Test.YthpdlbcdbncnhaaGreatDoorGTask4
namespace Go.Proofs.YthpdlbcdbncnhaaGreatDoor
set_option maxRecDepth 100000
open Go.RowKit
attribute [local go_sem] Keeps.refl Keeps.alloc Keeps.drew Keeps.drewN
theorem qfB (t:Tsk) (w:World) :
  Calls Tryz.prog 158 #[tk t] w fun e w'=>e = .returned (.bool (fixB t)) /\ Keeps w w':=by
 go_enter Tryz.func158,Tryz.ntmps158
 go_wp2_with fail
 refine (qcT t _).mono ?_
 rintro e w1 ⟨rfl,k1⟩
 have B1:=(Blk.new w (tc t) 47).keeps k1
 have K1:Keeps w w1:=((Keeps.refl w).alloc _).trans k1
 obtain ⟨_,b1,b2⟩:=B1
 clear k1
 cases hb:qae t
 ·have Hr:Hid (fixB t=false):=by show _=_;simp [fixB,hb]
  go_wp2
  go_ret
  exact ⟨by rw [Hr.out];rfl,K1⟩
 ·have Hr:Hid (fixB t=(t.cls==2)):=by show _=_;simp [fixB,hb]
  go_wp2
  go_ret
  exact ⟨by rw [Hr.out];rfl,K1⟩
set_option maxHeartbeats 4000000 in
theorem qe0 (t:Tsk) (seq:Int) (w:World) :
  Calls Tryz.prog 254 #[tk t,.int .i64 seq] w fun e w'=>e = .returned (.tuple #[tk (qcc t seq),.bool (qcb t seq)]) /\ Keeps w w':=by
 go_enter Tryz.func254,Tryz.ntmps254
 go_wp2_with fail
 refine (qfB t _).mono ?_
 rintro e w1 ⟨rfl,k1⟩
 have B1:=((Blk.new w (tc t) 47).alloc (.cells (tc Tsk.zero) 47)).keeps k1
 have B2:=(Blk.new (w.alloc (.cells (tc t) 47)) (tc Tsk.zero) 47).keeps k1
 have K1:Hid (Keeps w w1):=(((Keeps.refl w).alloc _).alloc _).trans k1
 simp only [World.size_alloc] at B2
 have R:Hid (Blk w1 (w.heap.size+1) (tc Tsk.zero)):=B2
 obtain ⟨_,b1,b2⟩:=B1
 obtain ⟨_,c1,c2⟩:=B2
 clear k1
 cases hd:fixB t
 ·have Hn:Hid (qcc t seq=t):=by show _=_;simp [qcc,hd]
  have Hg:Hid (qcb t seq=false):=by show _=_;simp [qcb,hd]
  go_wp2
  have D:=R.out.putC (tc (t)).toList rfl
  have K:=Keeps.putC (b:=w.heap.size+1) (by omega) (tc (t)).toList 0 K1.out
  change bodyPost _ _ _ _ _ (putC w1 (w.heap.size+1) 0 (tc (t)).toList)
  generalize putC w1 (w.heap.size+1) 0 (tc (t)).toList=Z at D K ⊢
  exact bodyPost_ret (v := .tuple #[tk (t),.bool false]) (by simp [results,Tryz.results254,go_sem,D.cells]) rfl ⟨by rw [Hn.out,Hg.out],K⟩
 ·cases hr:(t.round==0)
  rotate_left
  ·have Hn:Hid (qcc t seq=t):=by show _=_;simp [qcc,hr]
   have Hg:Hid (qcb t seq=false):=by show _=_;simp [qcb,hr]
   go_wp2
   have D:=R.out.putC (tc (t)).toList rfl
   have K:=Keeps.putC (b:=w.heap.size+1) (by omega) (tc (t)).toList 0 K1.out
   change bodyPost _ _ _ _ _ (putC w1 (w.heap.size+1) 0 (tc (t)).toList)
   generalize putC w1 (w.heap.size+1) 0 (tc (t)).toList=Z at D K ⊢
   exact bodyPost_ret (v := .tuple #[tk (t),.bool false]) (by simp [results,Tryz.results254,go_sem,D.cells]) rfl ⟨by rw [Hn.out,Hg.out],K⟩
  ·have H:=(qgg t).1 hd
   obtain ⟨r0,r1⟩:=H.round
   obtain ⟨l0,l1⟩:=H.left
   clear H
   cases hl:decide (1 < t.left)
   rotate_left
   ·have Hn:Hid (qcc t seq={ t with left:=t.left - 1 }):=by show _=_;simp only [qcc,hd,hr,hl,Bool.not_false,Bool.and_true,if_true]
    have Hg:Hid (qcb t seq=false):=by show _=_;simp only [qcb,hl,Bool.not_true,Bool.and_false,Bool.false_and]
    go_wp2
    have D:=(R.out.far (c:=w.heap.size) (o:=7) (by omega) (.int .i64 (t.left - 1))).putC (tc ({ t with left:=t.left - 1 })).toList rfl
    have K:=Keeps.putC (b:=w.heap.size+1) (by omega) (tc ({ t with left:=t.left - 1 })).toList 0 (K1.out.setCell (p:=⟨w.heap.size,7,none⟩) (Nat.le_refl _) (.int .i64 (t.left - 1)))
    change bodyPost _ _ _ _ _ (putC (w1.setCell ⟨w.heap.size,7,none⟩ (.int .i64 (t.left - 1))) (w.heap.size+1) 0 (tc ({ t with left:=t.left - 1 })).toList)
    generalize putC (w1.setCell ⟨w.heap.size,7,none⟩ (.int .i64 (t.left - 1))) (w.heap.size+1) 0 (tc ({ t with left:=t.left - 1 })).toList=Z at D K ⊢
    exact bodyPost_ret (v := .tuple #[tk ({ t with left:=t.left - 1 }),.bool false]) (by simp [results,Tryz.results254,go_sem,D.cells]) rfl ⟨by rw [Hn.out,Hg.out],K⟩
   ·cases hi:inB seq 0 1000000
    ·have Hn:Hid (qcc t seq=t):=by show _=_;simp only [qcc,hd,hr,hl,hi,Bool.not_false,Bool.and_true,if_true,Bool.false_eq_true,if_false]
     have Hg:Hid (qcb t seq=false):=by show _=_;simp only [qcb,hi,Bool.and_false]
     go_wp2_with (go_at_call 64;refine (qaf _ _ _ _).mono ?_;rintro e w' ⟨rfl,hw'⟩;have hw2:=hw'.symm;subst hw2)
     have D:=R.out.putC (tc (t)).toList rfl
     have K:=Keeps.putC (b:=w.heap.size+1) (by omega) (tc (t)).toList 0 K1.out
     change bodyPost _ _ _ _ _ (putC w1 (w.heap.size+1) 0 (tc (t)).toList)
     generalize putC w1 (w.heap.size+1) 0 (tc (t)).toList=Z at D K ⊢
     exact bodyPost_ret (v := .tuple #[tk (t),.bool false]) (by simp [results,Tryz.results254,go_sem,D.cells]) rfl ⟨by rw [Hn.out,Hg.out],K⟩
    ·have Hn:Hid (qcc t seq={ t with left:=t.round,seq:=seq }):=by show _=_;simp only [qcc,hd,hr,hl,hi,Bool.not_false,Bool.and_true,if_true,Bool.false_eq_true,if_false]
     have Hg:Hid (qcb t seq=true):=by show _=_;simp only [qcb,hd,hr,hl,hi,Bool.not_false,Bool.and_true]
     go_wp2_with (go_at_call 64;refine (qaf _ _ _ _).mono ?_;rintro e w' ⟨rfl,hw'⟩;have hw2:=hw'.symm;subst hw2)
     have D:=((R.out.far (c:=w.heap.size) (o:=7) (by omega) (.int .i64 (t.round))).far (c:=w.heap.size) (o:=11) (by omega) (.int .i64 (seq))).putC (tc ({ t with left:=t.round,seq:=seq })).toList rfl
     have K:=Keeps.putC (b:=w.heap.size+1) (by omega) (tc ({ t with left:=t.round,seq:=seq })).toList 0 ((K1.out.setCell (p:=⟨w.heap.size,7,none⟩) (Nat.le_refl _) (.int .i64 (t.round))).setCell (p:=⟨w.heap.size,11,none⟩) (Nat.le_refl _) (.int .i64 (seq)))
     change bodyPost _ _ _ _ _ (putC ((w1.setCell ⟨w.heap.size,7,none⟩ (.int .i64 (t.round))).setCell ⟨w.heap.size,11,none⟩ (.int .i64 (seq))) (w.heap.size+1) 0 (tc ({ t with left:=t.round,seq:=seq })).toList)
     generalize putC ((w1.setCell ⟨w.heap.size,7,none⟩ (.int .i64 (t.round))).setCell ⟨w.heap.size,11,none⟩ (.int .i64 (seq))) (w.heap.size+1) 0 (tc ({ t with left:=t.round,seq:=seq })).toList=Z at D K ⊢
     exact bodyPost_ret (v := .tuple #[tk ({ t with left:=t.round,seq:=seq }),.bool true]) (by simp [results,Tryz.results254,go_sem,D.cells]) rfl ⟨by rw [Hn.out,Hg.out],K⟩
set_option maxHeartbeats 2000000 in
theorem qkD (a b:Tsk) (w:World) :
  Calls Tryz.prog 111 #[tk a,tk b] w fun e w'=>e = .returned (.bool (qaS a b)) /\ Keeps w w':=by
 go_enter Tryz.func111,Tryz.ntmps111
 go_wp2_with fail
 have kW:Keeps w ((w.alloc (.cells (tc a) 47)).alloc (.cells (tc b) 47)):=((Keeps.refl w).alloc _).alloc _
 have r1:∀ w',Keeps ((w.alloc (.cells (tc a) 47)).alloc (.cells (tc b) 47)) w'->∀ k,w'.cell? ⟨w.heap.size,k,none⟩=(tc a)[k]?:=fun w' h=>(((Blk.new w (tc a) 47).alloc _).keeps h).cells
 have r2:∀ w',Keeps ((w.alloc (.cells (tc a) 47)).alloc (.cells (tc b) 47)) w'->∀ k,w'.cell? ⟨w.heap.size+1,k,none⟩=(tc b)[k]?:=fun w' h=>by
  have:=(Blk.new (w.alloc (.cells (tc a) 47)) (tc b) 47).keeps h
  simp only [World.size_alloc] at this
  exact this.cells
 generalize (w.alloc (.cells (tc a) 47)).alloc (.cells (tc b) 47)=W at *
 refine (qfB a _).mono ?_
 rintro e w1 ⟨rfl,k1⟩
 cases ha:fixB a
 ·have Hr:Hid (qaS a b=false):=by show _=_;simp [qaS,ha]
  go_wp2
  go_ret
  exact ⟨by rw [Hr.out];rfl,kW.trans k1⟩
 ·go_wp2_with fail
  refine (qfB b _).mono ?_
  rintro e w2 ⟨rfl,k2⟩
  have K2:=k1.trans k2
  cases hb:fixB b
  ·have Hr:Hid (qaS a b=false):=by show _=_;simp [qaS,hb]
   go_wp2
   go_ret
   exact ⟨by rw [Hr.out];rfl,kW.trans K2⟩
  ·cases h1:(a.prio != b.prio)
   ·cases h2:(a.seq != b.seq)
    ·have Hr:Hid (qaS a b=decide (a.no < b.no)):=by show _=_;simp only [qaS,ha,hb,h1,h2,Bool.true_and,Bool.false_eq_true,if_false]
     go_wp2
     go_ret
     exact ⟨by rw [Hr.out];rfl,kW.trans K2⟩
    ·have Hr:Hid (qaS a b=decide (a.seq < b.seq)):=by show _=_;simp only [qaS,ha,hb,h1,h2,Bool.true_and,Bool.false_eq_true,if_false,if_true]
     go_wp2
     go_ret
     exact ⟨by rw [Hr.out];rfl,kW.trans K2⟩
   ·have Hr:Hid (qaS a b=decide (b.prio < a.prio)):=by show _=_;simp only [qaS,ha,hb,h1,Bool.true_and,if_true]
    go_wp2
    go_ret
    exact ⟨by rw [Hr.out];rfl,kW.trans K2⟩
def qkE:Prop:=∀ (a b:Tsk) (w:World),Calls Tryz.prog 285 #[tk a,tk b] w fun e w'=>e = .returned (.bool (qaU a b)) /\ Keeps w w'
def qkF:Prop:=∀ (a b:Tsk) (w:World),Calls Tryz.prog 292 #[tk a,tk b] w fun e w'=>e = .returned (.bool (qaS a b)) /\ Keeps w w'
end Go.Proofs.YthpdlbcdbncnhaaGreatDoor
