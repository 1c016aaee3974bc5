/-
  Deadlines: contracts of the model's functions. Fair shares:
-/
import Derived.Test.YthpdlbcdbncnhaaGreatDoorGPure1
import Derived.Test.YthpdlbcdbncnhaaGreatDoorGBase1
import Derived.Test.YthpdlbcdbncnhaaGreatDoorGTask2
namespace Go.Proofs.YthpdlbcdbncnhaaGreatDoor
set_option maxRecDepth 100000
open Go.RowKit
attribute [local go_sem] Keeps.refl Keeps.alloc Keeps.drew Keeps.drewN
theorem qew (t:Tsk) (w:World) :
  Calls Tryz.prog 157 #[tk t] w fun e w'=>e = .returned (.bool (dueB t)) /\ Keeps w w':=by
 go_enter Tryz.func157,Tryz.ntmps157
 go_wp2_with fail
 refine (qcT t _).mono ?_
 rintro e w1 ⟨rfl,k1⟩
 have B1:=(Blk.new w (tc t) 47).keeps k1
 have K1:Keeps w w1:=((Keeps.refl w).alloc _).trans k1
 obtain ⟨_,b1,b2⟩:=B1
 clear k1
 cases hb:qae t
 ·have Hr:Hid (dueB t=false):=by show _=_;simp [dueB,hb]
  go_wp2
  go_ret
  exact ⟨by rw [Hr.out];rfl,K1⟩
 ·have Hr:Hid (dueB t=(t.cls==1)):=by show _=_;simp [dueB,hb]
  go_wp2
  go_ret
  exact ⟨by rw [Hr.out];rfl,K1⟩
set_option maxHeartbeats 2000000 in
theorem qgW (t:Tsk) (w:World) :
  Calls Tryz.prog 256 #[tk t] w fun e w'=>e = .returned (tk (qcL t)) /\ Keeps w w':=by
 go_enter Tryz.func256,Tryz.ntmps256
 go_wp2_with fail
 refine (qew t _).mono ?_
 rintro e w1 ⟨rfl,k1⟩
 have B1:=((Blk.new w (tc t) 47).alloc (.cells (tc Tsk.zero) 47)).keeps k1
 have B2:=(Blk.new (w.alloc (.cells (tc t) 47)) (tc Tsk.zero) 47).keeps k1
 have K1:Hid (Keeps w w1):=(((Keeps.refl w).alloc _).alloc _).trans k1
 simp only [World.size_alloc] at B2
 have R:Hid (Blk w1 (w.heap.size+1) (tc Tsk.zero)):=B2
 obtain ⟨_,b1,b2⟩:=B1
 obtain ⟨_,c1,c2⟩:=B2
 clear k1
 cases hd:dueB t
 ·have Hn:Hid (qcL t=t):=by show _=_;simp [qcL,qff,hd]
  go_wp2
  have D:=R.out.putC (tc (t)).toList rfl
  have K:=Keeps.putC (b:=w.heap.size+1) (by omega) (tc (t)).toList 0 K1.out
  change bodyPost _ _ _ _ _ (putC w1 (w.heap.size+1) 0 (tc (t)).toList)
  generalize putC w1 (w.heap.size+1) 0 (tc (t)).toList=X at D K ⊢
  exact bodyPost_ret (v:=tk (t)) (by simp [results,Tryz.results256,go_sem,D.cells]) rfl ⟨by rw [Hn.out],K⟩
 ·have H:=(qgf t).1 hd
  obtain ⟨p0,p1⟩:=H.p
  obtain ⟨q0,q1⟩:=H.q
  obtain ⟨l0,l1⟩:=H.left
  clear H
  cases hl:decide (0 < t.left)
  ·have Hn:Hid (qcL t=t):=by show _=_;simp only [qcL,qff,hl,Bool.and_false,Bool.false_eq_true,if_false]
   go_wp2
   have D:=R.out.putC (tc (t)).toList rfl
   have K:=Keeps.putC (b:=w.heap.size+1) (by omega) (tc (t)).toList 0 K1.out
   change bodyPost _ _ _ _ _ (putC w1 (w.heap.size+1) 0 (tc (t)).toList)
   generalize putC w1 (w.heap.size+1) 0 (tc (t)).toList=X at D K ⊢
   exact bodyPost_ret (v:=tk (t)) (by simp [results,Tryz.results256,go_sem,D.cells]) rfl ⟨by rw [Hn.out],K⟩
  ·have Hn:Hid (qcL t={ t with left:=t.left - 1 }):=by show _=_;simp only [qcL,qff,hl,hd,Bool.and_true,if_true]
   go_wp2
   have D:=(R.out.far (c:=w.heap.size) (o:=7) (by omega) (.int .i64 (t.left - 1))).putC (tc ({ t with left:=t.left - 1 })).toList rfl
   have K:=Keeps.putC (b:=w.heap.size+1) (by omega) (tc ({ t with left:=t.left - 1 })).toList 0 (K1.out.setCell (p:=⟨w.heap.size,7,none⟩) (Nat.le_refl _) (.int .i64 (t.left - 1)))
   change bodyPost _ _ _ _ _ (putC (w1.setCell ⟨w.heap.size,7,none⟩ (.int .i64 (t.left - 1))) (w.heap.size+1) 0 (tc ({ t with left:=t.left - 1 })).toList)
   generalize putC (w1.setCell ⟨w.heap.size,7,none⟩ (.int .i64 (t.left - 1))) (w.heap.size+1) 0 (tc ({ t with left:=t.left - 1 })).toList=X at D K ⊢
   exact bodyPost_ret (v:=tk ({ t with left:=t.left - 1 })) (by simp [results,Tryz.results256,go_sem,D.cells]) rfl ⟨by rw [Hn.out],K⟩
set_option maxHeartbeats 2000000 in
theorem qkx (a b:Tsk) (w:World) :
  Calls Tryz.prog 110 #[tk a,tk b] w fun e w'=>e = .returned (.bool (qaT a b)) /\ Keeps w w':=by
 go_enter Tryz.func110,Tryz.ntmps110
 go_wp2_with fail
 have kW:Keeps w ((w.alloc (.cells (tc a) 47)).alloc (.cells (tc b) 47)):=((Keeps.refl w).alloc _).alloc _
 have r1:∀ w',Keeps ((w.alloc (.cells (tc a) 47)).alloc (.cells (tc b) 47)) w'->∀ k,w'.cell? ⟨w.heap.size,k,none⟩=(tc a)[k]?:=fun w' h=>(((Blk.new w (tc a) 47).alloc _).keeps h).cells
 have r2:∀ w',Keeps ((w.alloc (.cells (tc a) 47)).alloc (.cells (tc b) 47)) w'->∀ k,w'.cell? ⟨w.heap.size+1,k,none⟩=(tc b)[k]?:=fun w' h=>by
  have:=(Blk.new (w.alloc (.cells (tc a) 47)) (tc b) 47).keeps h
  simp only [World.size_alloc] at this
  exact this.cells
 generalize (w.alloc (.cells (tc a) 47)).alloc (.cells (tc b) 47)=W at *
 refine (qew a _).mono ?_
 rintro e w1 ⟨rfl,k1⟩
 cases ha:dueB a
 ·have Hr:Hid (qaT a b=false):=by show _=_;simp [qaT,ha]
  go_wp2
  go_ret
  exact ⟨by rw [Hr.out];rfl,kW.trans k1⟩
 ·go_wp2_with fail
  refine (qew b _).mono ?_
  rintro e w2 ⟨rfl,k2⟩
  have K2:=k1.trans k2
  cases hb:dueB b
  ·have Hr:Hid (qaT a b=false):=by show _=_;simp [qaT,hb]
   go_wp2
   go_ret
   exact ⟨by rw [Hr.out];rfl,kW.trans K2⟩
  ·cases h1:decide (a.due < b.due)
   ·cases h2:(a.due==b.due)
    ·have Hr:Hid (qaT a b=false):=by show _=_;simp only [qaT,h1,h2,Bool.false_and,Bool.or_false,Bool.and_false]
     go_wp2
     go_ret
     exact ⟨by rw [Hr.out];rfl,kW.trans K2⟩
    ·have Hr:Hid (qaT a b=decide (a.no < b.no)):=by show _=_;simp only [qaT,ha,hb,h1,h2,Bool.true_and,Bool.false_or]
     go_wp2
     go_ret
     exact ⟨by rw [Hr.out];rfl,kW.trans K2⟩
   ·have Hr:Hid (qaT a b=true):=by show _=_;simp only [qaT,ha,hb,h1,Bool.true_or,Bool.and_true]
    go_wp2
    go_ret
    exact ⟨by rw [Hr.out];rfl,kW.trans K2⟩
theorem qc3 (a b:Int) (w:World) :
  Calls Tryz.prog 90 #[.int .i64 a,.int .i64 b] w fun e w'=>e = .returned (.int .i64 (max a b)) /\ w'=w:=by
 by_cases h:a > b
 ·have Hr:Hid (max a b=a):=by show _=_;omega
  go_enter Tryz.func90,Tryz.ntmps90
  go_wp2
  go_ret
  exact ⟨by rw [Hr.out];rfl,rfl⟩
 ·have Hr:Hid (max a b=b):=by show _=_;omega
  have hd:decide (a > b)=false:=by simpa using h
  go_enter Tryz.func90,Tryz.ntmps90
  go_wp2
  go_ret
  exact ⟨by rw [Hr.out];rfl,rfl⟩
theorem qc4 (t:Tsk) (w:World) :
  Calls Tryz.prog 89 #[tk t] w fun e w'=>e = .returned (.bool (qaC t)) /\ Keeps w w':=by
 go_enter Tryz.func89,Tryz.ntmps89
 go_wp2_with fail
 refine (qcT t _).mono ?_
 rintro e w1 ⟨rfl,k1⟩
 have B1:=(Blk.new w (tc t) 47).keeps k1
 have K1:Keeps w w1:=((Keeps.refl w).alloc _).trans k1
 obtain ⟨_,b1,b2⟩:=B1
 clear k1
 cases hb:qae t
 ·have Hr:Hid (qaC t=false):=by show _=_;simp [qaC,hb]
  go_wp2
  go_ret
  exact ⟨by rw [Hr.out];rfl,K1⟩
 ·have Hr:Hid (qaC t=(t.cls==3)):=by show _=_;simp [qaC,hb]
  go_wp2
  go_ret
  exact ⟨by rw [Hr.out];rfl,K1⟩
set_option maxHeartbeats 2000000 in
theorem qky (a b:Tsk) (w:World) :
  Calls Tryz.prog 112 #[tk a,tk b] w fun e w'=>e = .returned (.bool (qaU a b)) /\ Keeps w w':=by
 go_enter Tryz.func112,Tryz.ntmps112
 go_wp2_with fail
 have kW:Keeps w ((w.alloc (.cells (tc a) 47)).alloc (.cells (tc b) 47)):=((Keeps.refl w).alloc _).alloc _
 have r1:∀ w',Keeps ((w.alloc (.cells (tc a) 47)).alloc (.cells (tc b) 47)) w'->∀ k,w'.cell? ⟨w.heap.size,k,none⟩=(tc a)[k]?:=fun w' h=>(((Blk.new w (tc a) 47).alloc _).keeps h).cells
 have r2:∀ w',Keeps ((w.alloc (.cells (tc a) 47)).alloc (.cells (tc b) 47)) w'->∀ k,w'.cell? ⟨w.heap.size+1,k,none⟩=(tc b)[k]?:=fun w' h=>by
  have:=(Blk.new (w.alloc (.cells (tc a) 47)) (tc b) 47).keeps h
  simp only [World.size_alloc] at this
  exact this.cells
 generalize (w.alloc (.cells (tc a) 47)).alloc (.cells (tc b) 47)=W at *
 refine (qc4 a _).mono ?_
 rintro e w1 ⟨rfl,k1⟩
 cases ha:qaC a
 ·have Hr:Hid (qaU a b=false):=by show _=_;simp [qaU,ha]
  go_wp2
  go_ret
  exact ⟨by rw [Hr.out];rfl,kW.trans k1⟩
 ·go_wp2_with fail
  refine (qc4 b _).mono ?_
  rintro e w2 ⟨rfl,k2⟩
  have K2:=k1.trans k2
  cases hb:qaC b
  ·have Hr:Hid (qaU a b=false):=by show _=_;simp [qaU,hb]
   go_wp2
   go_ret
   exact ⟨by rw [Hr.out];rfl,kW.trans K2⟩
  ·cases h1:decide (a.v < b.v)
   ·cases h2:(a.v==b.v)
    ·have Hr:Hid (qaU a b=false):=by show _=_;simp only [qaU,h1,h2,Bool.false_and,Bool.or_false,Bool.and_false]
     go_wp2
     go_ret
     exact ⟨by rw [Hr.out];rfl,kW.trans K2⟩
    ·have Hr:Hid (qaU a b=decide (a.no < b.no)):=by show _=_;simp only [qaU,ha,hb,h1,h2,Bool.true_and,Bool.false_or]
     go_wp2
     go_ret
     exact ⟨by rw [Hr.out];rfl,kW.trans K2⟩
   ·have Hr:Hid (qaU a b=true):=by show _=_;simp only [qaU,ha,hb,h1,Bool.true_or,Bool.and_true]
    go_wp2
    go_ret
    exact ⟨by rw [Hr.out];rfl,kW.trans K2⟩
set_option maxHeartbeats 2000000 in
theorem qeZ (t:Tsk) (x:Int) (w:World) :
  Calls Tryz.prog 257 #[tk t,.int .i64 x] w fun e w'=>e = .returned (tk (qcD t x)) /\ Keeps w w':=by
 cases hb:inB x 0 100000000
 ·have Hn:Hid (qcD t x=t):=by show _=_;simp [qcD,hb]
  go_enter Tryz.func257,Tryz.ntmps257
  go_wp2_with (go_at_call 64;refine (qaf _ _ _ _).mono ?_;rintro e w' ⟨rfl,rfl⟩;rw [hb])
  exact bodyPost_ret (v:=tk t) (by simp [results,Tryz.results257,go_sem]) rfl ⟨by rw [Hn.out],by repeat (first | exact Keeps.refl _ | refine Keeps.alloc ?_ _ | refine Keeps.drewN ?_ _ | refine Keeps.setCell ?_ (by simp [go_sem]) _)⟩
 ·have Hn:Hid (qcD t x={ t with v:=x }):=by show _=_;simp [qcD,hb]
  go_enter Tryz.func257,Tryz.ntmps257
  go_wp2_with (go_at_call 64;refine (qaf _ _ _ _).mono ?_;rintro e w' ⟨rfl,rfl⟩;rw [hb])
  exact bodyPost_ret (v:=tk { t with v:=x }) (by simp [results,Tryz.results257,go_sem]) rfl ⟨by rw [Hn.out],by repeat (first | exact Keeps.refl _ | refine Keeps.alloc ?_ _ | refine Keeps.drewN ?_ _ | refine Keeps.setCell ?_ (by simp [go_sem]) _)⟩
set_option maxHeartbeats 4000000 in
theorem qfA (t:Tsk) (w:World) :
  Calls Tryz.prog 255 #[tk t] w fun e w'=>e = .returned (tk (qdx t)) /\ Keeps w w':=by
 go_enter Tryz.func255,Tryz.ntmps255
 go_wp2_with fail
 refine (qc4 t _).mono ?_
 rintro e w1 ⟨rfl,k1⟩
 have B1:=((Blk.new w (tc t) 47).alloc (.cells (tc Tsk.zero) 47)).keeps k1
 have B2:=(Blk.new (w.alloc (.cells (tc t) 47)) (tc Tsk.zero) 47).keeps k1
 have K1:Hid (Keeps w w1):=(((Keeps.refl w).alloc _).alloc _).trans k1
 simp only [World.size_alloc] at B2
 have R:Hid (Blk w1 (w.heap.size+1) (tc Tsk.zero)):=B2
 have B0:Hid (Blk w1 w.heap.size (tc t)):=B1
 obtain ⟨_,b1,b2⟩:=B1
 obtain ⟨_,c1,c2⟩:=B2
 clear k1
 cases hd:qaC t
 ·have Hn:Hid (qdx t=t):=by show _=_;simp [qdx,hd]
  go_wp2
  have D:=R.out.putC (tc (t)).toList rfl
  have K:=Keeps.putC (b:=w.heap.size+1) (by omega) (tc (t)).toList 0 K1.out
  change bodyPost _ _ _ _ _ (putC w1 (w.heap.size+1) 0 (tc (t)).toList)
  generalize putC w1 (w.heap.size+1) 0 (tc (t)).toList=X at D K ⊢
  exact bodyPost_ret (v:=tk (t)) (by simp [results,Tryz.results255,go_sem,D.cells]) rfl ⟨by rw [Hn.out],K⟩
 ·have H:=(qis t).1 hd
  obtain ⟨v0,v1⟩:=H.v
  have hst:=qnw t.nice
  have e1:IntKind.i64.wrap (t.v+qaY t.nice)=t.v+qaY t.nice:=Go.IntWalk.i64_in _ (by omega)
  have Hn:Hid (qdx t=qcD t (t.v+qaY t.nice)):=by show _=_;simp [qdx,hd]
  clear H hst
  obtain ⟨N,HN⟩:∃ N,Hid (qcD t (t.v+qaY t.nice)=N):=⟨_,rfl⟩
  go_wp2_with fail
  have H0:Has w w.heap.size (tc t) w1:=⟨K1.out,B0.out⟩
  have r1:∀ w',Has w w.heap.size (tc t) w'->∀ k,w'.cell? ⟨w.heap.size,k,none⟩=(tc t)[k]?:=fun w' h=>h.box.cells
  clear b1 b2 c1 c2
  refine wp_region_held_drew (S:=(fun w'=>Has w w.heap.size (tc t) w')) (by kernel_rfl) ?_ (fun hHeld => ?_)
  ·exact H0.go (Keeps.refl _).drew
  refine Plan.go [0,1,2,3,4] ?_
  iterate 5 (refine qac (by simp only [qab];rfl) (by kernel_rfl) (by exact fun _ _ _ h=>h) (by rfl) (by assumption) (fun w _=>by go_simp;try (with_reducible rfl)) ?_;try simp only [qaa])
  refine Plan.nil ?_
  refine qad 5 (by kernel_rfl) (by simp only [qab];rfl) (fun K hK => ?_)
  go_simp
  first
   | (go_at_call 258;refine (qiT _ _).mono ?_;rintro e w2 ⟨rfl,k2⟩)
   | (go_at_call 257;refine (qeZ t _ _).mono ?_;rintro e w3 ⟨rfl,k3⟩;rw [HN.out])
  try go_wp2_with fail
  refine hK.out _ _ ?_ (fun hHeld => ?_)
  ·first | exact Has.go (by assumption) (by assumption) | assumption
  clear hK K
  try simp only [qaa]
  refine qan 6 (v := ?_) (by simp only [qab];rfl) (by kernel_rfl) (by exact fun _ _ _ h=>h) (by rfl) (by assumption) ?_ ?_
  rotate_left
  ·(intro w _;go_simp;try (with_reducible rfl))
  try simp only [qaa]
  refine qad 7 (by kernel_rfl) (by simp only [qab];rfl) (fun K hK => ?_)
  go_simp
  first
   | (go_at_call 258;refine (qiT _ _).mono ?_;rintro e w2 ⟨rfl,k2⟩)
   | (go_at_call 257;refine (qeZ t _ _).mono ?_;rintro e w3 ⟨rfl,k3⟩;rw [HN.out])
  try go_wp2_with fail
  refine hK.out _ _ ?_ (fun hHeld => ?_)
  ·first | exact Has.go (by assumption) (by assumption) | assumption
  clear hK K
  try simp only [qaa]
  refine qad 8 (by kernel_rfl) (by simp only [qab];rfl) (fun K hK => ?_)
  have HB:=R.out.keeps (((Keeps.refl w1).drew.trans k2).trans k3);have HD:Hid (Blk w3 (w.heap.size+1) (tc Tsk.zero)):=HB;obtain ⟨_,q1,q2⟩:=HB
  go_simp
  try go_wp2_with fail
  refine hK.out _ _ ?_ (fun hHeld => ?_)
  ·exact Has.put (by assumption) (r:=w.heap.size+1) (by omega) (by omega) 0 (tc N).toList
  clear hK K
  try simp only [qaa]
  refine wpAnyH_done (by kernel_rfl) ?_ _
  go_wp2
  have D:=HD.out.putC (tc N).toList rfl
  have K:=Keeps.putC (b:=w.heap.size+1) (by omega) (tc N).toList 0 (K1.out.trans (((Keeps.refl w1).drew.trans k2).trans k3))
  change bodyPost _ _ _ _ _ (putC w3 (w.heap.size+1) 0 (tc N).toList)
  generalize putC w3 (w.heap.size+1) 0 (tc N).toList=X at D K ⊢
  exact bodyPost_ret (v:=tk N) (by simp [results,Tryz.results255,go_sem,D.cells]) rfl ⟨by rw [Hn.out,HN.out],K⟩
set_option maxHeartbeats 2000000 in
theorem qgX (t:Tsk) (now:Int) (w:World) :
  Calls Tryz.prog 253 #[tk t,.int .i64 now] w fun e w'=>e = .returned (tk (qb3 t now)) /\ Keeps w w':=by
 go_enter Tryz.func253,Tryz.ntmps253
 go_wp2_with fail
 refine (qew t _).mono ?_
 rintro e w1 ⟨rfl,k1⟩
 have B1:=((Blk.new w (tc t) 47).alloc (.cells (tc Tsk.zero) 47)).keeps k1
 have B2:=(Blk.new (w.alloc (.cells (tc t) 47)) (tc Tsk.zero) 47).keeps k1
 have K1:Hid (Keeps w w1):=(((Keeps.refl w).alloc _).alloc _).trans k1
 simp only [World.size_alloc] at B2
 have R:Hid (Blk w1 (w.heap.size+1) (tc Tsk.zero)):=B2
 obtain ⟨_,b1,b2⟩:=B1
 obtain ⟨_,c1,c2⟩:=B2
 clear k1
 cases hd:dueB t
 ·have Hn:Hid (qb3 t now=t):=by show _=_;simp [qb3,qed,hd]
  go_wp2
  have D:=R.out.putC (tc (t)).toList rfl
  have K:=Keeps.putC (b:=w.heap.size+1) (by omega) (tc (t)).toList 0 K1.out
  change bodyPost _ _ _ _ _ (putC w1 (w.heap.size+1) 0 (tc (t)).toList)
  generalize putC w1 (w.heap.size+1) 0 (tc (t)).toList=X at D K ⊢
  exact bodyPost_ret (v:=tk (t)) (by simp [results,Tryz.results253,go_sem,D.cells]) rfl ⟨by rw [Hn.out],K⟩
 ·cases hi:inB now 0 100000
  ·have Hn:Hid (qb3 t now=t):=by show _=_;simp [qb3,qed,hi]
   go_wp2_with (go_at_call 64;refine (qaf _ _ _ _).mono ?_;rintro e w' ⟨rfl,hw'⟩;have hw2:=hw'.symm;subst hw2)
   have D:=R.out.putC (tc (t)).toList rfl
   have K:=Keeps.putC (b:=w.heap.size+1) (by omega) (tc (t)).toList 0 K1.out
   change bodyPost _ _ _ _ _ (putC w1 (w.heap.size+1) 0 (tc (t)).toList)
   generalize putC w1 (w.heap.size+1) 0 (tc (t)).toList=X at D K ⊢
   exact bodyPost_ret (v:=tk (t)) (by simp [results,Tryz.results253,go_sem,D.cells]) rfl ⟨by rw [Hn.out],K⟩
  ·have H:=(qgf t).1 hd
   obtain ⟨p0,p1⟩:=H.p
   obtain ⟨q0,q1⟩:=H.q
   obtain ⟨l0,l1⟩:=H.left
   obtain ⟨d0,d1⟩:=H.due
   obtain ⟨n0,n1⟩:=qap.1 hi
   clear H
   cases hl:decide (t.due <= now)
   ·have hl':=of_decide_eq_false hl
    have m1:=qiq (A:=40) (B:=40) l0 (by omega) (show 0 <= t.p by omega) p1
    have m2:=qiq (A:=100040) (B:=40) (show 0 <= t.due - now by omega) (by omega) (show 0 <= t.q by omega) (by omega)
    have e1:IntKind.i64.wrap (t.left*t.p)=t.left*t.p:=Go.IntWalk.i64_in _ (by omega)
    have e2:IntKind.i64.wrap ((t.due - now)*t.q)=(t.due - now)*t.q:=Go.IntWalk.i64_in _ (by omega)
    clear m1 m2
    cases hm:decide ((t.due - now)*t.q < t.left*t.p)
    ·have Hn:Hid (qb3 t now=t):=by show _=_;simp only [qb3,qed,qfe,hl,hm,Bool.or_false,Bool.and_false,Bool.false_eq_true,if_false]
     go_wp2_with (go_at_call 64;refine (qaf _ _ _ _).mono ?_;rintro e w' ⟨rfl,hw'⟩;have hw2:=hw'.symm;subst hw2)
     have D:=R.out.putC (tc (t)).toList rfl
     have K:=Keeps.putC (b:=w.heap.size+1) (by omega) (tc (t)).toList 0 K1.out
     change bodyPost _ _ _ _ _ (putC w1 (w.heap.size+1) 0 (tc (t)).toList)
     generalize putC w1 (w.heap.size+1) 0 (tc (t)).toList=X at D K ⊢
     exact bodyPost_ret (v:=tk (t)) (by simp [results,Tryz.results253,go_sem,D.cells]) rfl ⟨by rw [Hn.out],K⟩
    ·have Hn:Hid (qb3 t now={ t with left:=t.q,due:=now+t.p }):=by show _=_;simp only [qb3,qed,qfe,hl,hm,hd,hi,Bool.false_or,Bool.and_true,if_true]
     go_wp2_with (go_at_call 64;refine (qaf _ _ _ _).mono ?_;rintro e w' ⟨rfl,hw'⟩;have hw2:=hw'.symm;subst hw2)
     have D:=((R.out.far (c:=w.heap.size) (o:=7) (by omega) (.int .i64 (t.q))).far (c:=w.heap.size) (o:=8) (by omega) (.int .i64 (now+t.p))).putC (tc ({ t with left:=t.q,due:=now+t.p })).toList rfl
     have K:=Keeps.putC (b:=w.heap.size+1) (by omega) (tc ({ t with left:=t.q,due:=now+t.p })).toList 0 ((K1.out.setCell (p:=⟨w.heap.size,7,none⟩) (Nat.le_refl _) (.int .i64 (t.q))).setCell (p:=⟨w.heap.size,8,none⟩) (Nat.le_refl _) (.int .i64 (now+t.p)))
     change bodyPost _ _ _ _ _ (putC ((w1.setCell ⟨w.heap.size,7,none⟩ (.int .i64 (t.q))).setCell ⟨w.heap.size,8,none⟩ (.int .i64 (now+t.p))) (w.heap.size+1) 0 (tc ({ t with left:=t.q,due:=now+t.p })).toList)
     generalize putC ((w1.setCell ⟨w.heap.size,7,none⟩ (.int .i64 (t.q))).setCell ⟨w.heap.size,8,none⟩ (.int .i64 (now+t.p))) (w.heap.size+1) 0 (tc ({ t with left:=t.q,due:=now+t.p })).toList=X at D K ⊢
     exact bodyPost_ret (v:=tk ({ t with left:=t.q,due:=now+t.p })) (by simp [results,Tryz.results253,go_sem,D.cells]) rfl ⟨by rw [Hn.out],K⟩
   ·have Hn:Hid (qb3 t now={ t with left:=t.q,due:=now+t.p }):=by show _=_;simp only [qb3,qed,qfe,hl,hd,hi,Bool.true_or,Bool.and_true,if_true]
    go_wp2_with (go_at_call 64;refine (qaf _ _ _ _).mono ?_;rintro e w' ⟨rfl,hw'⟩;have hw2:=hw'.symm;subst hw2)
    have D:=((R.out.far (c:=w.heap.size) (o:=7) (by omega) (.int .i64 (t.q))).far (c:=w.heap.size) (o:=8) (by omega) (.int .i64 (now+t.p))).putC (tc ({ t with left:=t.q,due:=now+t.p })).toList rfl
    have K:=Keeps.putC (b:=w.heap.size+1) (by omega) (tc ({ t with left:=t.q,due:=now+t.p })).toList 0 ((K1.out.setCell (p:=⟨w.heap.size,7,none⟩) (Nat.le_refl _) (.int .i64 (t.q))).setCell (p:=⟨w.heap.size,8,none⟩) (Nat.le_refl _) (.int .i64 (now+t.p)))
    change bodyPost _ _ _ _ _ (putC ((w1.setCell ⟨w.heap.size,7,none⟩ (.int .i64 (t.q))).setCell ⟨w.heap.size,8,none⟩ (.int .i64 (now+t.p))) (w.heap.size+1) 0 (tc ({ t with left:=t.q,due:=now+t.p })).toList)
    generalize putC ((w1.setCell ⟨w.heap.size,7,none⟩ (.int .i64 (t.q))).setCell ⟨w.heap.size,8,none⟩ (.int .i64 (now+t.p))) (w.heap.size+1) 0 (tc ({ t with left:=t.q,due:=now+t.p })).toList=X at D K ⊢
    exact bodyPost_ret (v:=tk ({ t with left:=t.q,due:=now+t.p })) (by simp [results,Tryz.results253,go_sem,D.cells]) rfl ⟨by rw [Hn.out],K⟩
set_option maxHeartbeats 4000000 in
theorem qgY (t:Tsk) (floor:Int) (w:World) :
  Calls Tryz.prog 252 #[tk t,.int .i64 floor] w fun e w'=>e = .returned (tk (qdy t floor)) /\ Keeps w w':=by
 go_enter Tryz.func252,Tryz.ntmps252
 go_wp2_with fail
 refine (qc4 t _).mono ?_
 rintro e w1 ⟨rfl,k1⟩
 have B1:=((Blk.new w (tc t) 47).alloc (.cells (tc Tsk.zero) 47)).keeps k1
 have B2:=(Blk.new (w.alloc (.cells (tc t) 47)) (tc Tsk.zero) 47).keeps k1
 have K1:Hid (Keeps w w1):=(((Keeps.refl w).alloc _).alloc _).trans k1
 simp only [World.size_alloc] at B2
 have R:Hid (Blk w1 (w.heap.size+1) (tc Tsk.zero)):=B2
 have B0:Hid (Blk w1 w.heap.size (tc t)):=B1
 obtain ⟨_,b1,b2⟩:=B1
 obtain ⟨_,c1,c2⟩:=B2
 clear k1
 cases hd:qaC t
 ·have Hn:Hid (qdy t floor=t):=by show _=_;simp [qdy,hd]
  go_wp2
  have D:=R.out.putC (tc (t)).toList rfl
  have K:=Keeps.putC (b:=w.heap.size+1) (by omega) (tc (t)).toList 0 K1.out
  change bodyPost _ _ _ _ _ (putC w1 (w.heap.size+1) 0 (tc (t)).toList)
  generalize putC w1 (w.heap.size+1) 0 (tc (t)).toList=X at D K ⊢
  exact bodyPost_ret (v:=tk (t)) (by simp [results,Tryz.results252,go_sem,D.cells]) rfl ⟨by rw [Hn.out],K⟩
 ·have Hn:Hid (qdy t floor=qcD t (max t.v floor)):=by show _=_;simp [qdy,hd]
  obtain ⟨N,HN⟩:∃ N,Hid (qcD t (max t.v floor)=N):=⟨_,rfl⟩
  go_wp2_with fail
  have H0:Has w w.heap.size (tc t) w1:=⟨K1.out,B0.out⟩
  have r1:∀ w',Has w w.heap.size (tc t) w'->∀ k,w'.cell? ⟨w.heap.size,k,none⟩=(tc t)[k]?:=fun w' h=>h.box.cells
  clear b1 b2 c1 c2
  refine wp_region_held_drew (S:=(fun w'=>Has w w.heap.size (tc t) w')) (by kernel_rfl) ?_ (fun hHeld => ?_)
  ·exact H0.go (Keeps.refl _).drew
  refine Plan.go [0,1,2,3] ?_
  iterate 4 (refine qac (by simp only [qab];rfl) (by kernel_rfl) (by exact fun _ _ _ h=>h) (by rfl) (by assumption) (fun w _=>by go_simp;try (with_reducible rfl)) ?_;try simp only [qaa])
  refine Plan.nil ?_
  refine qad 4 (by kernel_rfl) (by simp only [qab];rfl) (fun K hK => ?_)
  go_simp
  first
   | (go_at_call 90;refine (qc3 _ _ _).mono ?_;rintro e w2 ⟨rfl,rfl⟩)
   | (go_at_call 257;refine (qeZ t _ _).mono ?_;rintro e w3 ⟨rfl,k3⟩;rw [HN.out])
  try go_wp2_with fail
  refine hK.out _ _ ?_ (fun hHeld => ?_)
  ·first | exact Has.go (by assumption) (by assumption) | assumption
  clear hK K
  try simp only [qaa]
  refine qad 5 (by kernel_rfl) (by simp only [qab];rfl) (fun K hK => ?_)
  go_simp
  first
   | (go_at_call 90;refine (qc3 _ _ _).mono ?_;rintro e w2 ⟨rfl,rfl⟩)
   | (go_at_call 257;refine (qeZ t _ _).mono ?_;rintro e w3 ⟨rfl,k3⟩;rw [HN.out])
  try go_wp2_with fail
  refine hK.out _ _ ?_ (fun hHeld => ?_)
  ·first | exact Has.go (by assumption) (by assumption) | assumption
  clear hK K
  try simp only [qaa]
  refine qad 6 (by kernel_rfl) (by simp only [qab];rfl) (fun K hK => ?_)
  have HB:=R.out.keeps ((Keeps.refl w1).drew.trans k3);have HD:Hid (Blk w3 (w.heap.size+1) (tc Tsk.zero)):=HB;obtain ⟨_,q1,q2⟩:=HB
  go_simp
  try go_wp2_with fail
  refine hK.out _ _ ?_ (fun hHeld => ?_)
  ·exact Has.put (by assumption) (r:=w.heap.size+1) (by omega) (by omega) 0 (tc N).toList
  clear hK K
  try simp only [qaa]
  refine wpAnyH_done (by kernel_rfl) ?_ _
  go_wp2
  have D:=HD.out.putC (tc N).toList rfl
  have K:=Keeps.putC (b:=w.heap.size+1) (by omega) (tc N).toList 0 (K1.out.trans ((Keeps.refl w1).drew.trans k3))
  change bodyPost _ _ _ _ _ (putC w3 (w.heap.size+1) 0 (tc N).toList)
  generalize putC w3 (w.heap.size+1) 0 (tc N).toList=X at D K ⊢
  exact bodyPost_ret (v:=tk N) (by simp [results,Tryz.results252,go_sem,D.cells]) rfl ⟨by rw [Hn.out,HN.out],K⟩
set_option maxHeartbeats 2000000 in
theorem qgZ (t:Tsk) (now:Int) (w:World) :
  Calls Tryz.prog 246 #[tk t,.int .i64 now] w fun e w'=>e = .returned (tk (qca t now)) /\ Keeps w w':=by
 go_enter Tryz.func246,Tryz.ntmps246
 go_wp2_with fail
 refine (qew t _).mono ?_
 rintro e w1 ⟨rfl,k1⟩
 have B1:=((Blk.new w (tc t) 47).alloc (.cells (tc Tsk.zero) 47)).keeps k1
 have B2:=(Blk.new (w.alloc (.cells (tc t) 47)) (tc Tsk.zero) 47).keeps k1
 have K1:Hid (Keeps w w1):=(((Keeps.refl w).alloc _).alloc _).trans k1
 simp only [World.size_alloc] at B2
 have R:Hid (Blk w1 (w.heap.size+1) (tc Tsk.zero)):=B2
 obtain ⟨_,b1,b2⟩:=B1
 obtain ⟨_,c1,c2⟩:=B2
 clear k1
 cases hd:dueB t
 ·have Hn:Hid (qca t now=t):=by show _=_;simp [qca,qeJ,hd]
  go_wp2
  have D:=R.out.putC (tc (t)).toList rfl
  have K:=Keeps.putC (b:=w.heap.size+1) (by omega) (tc (t)).toList 0 K1.out
  change bodyPost _ _ _ _ _ (putC w1 (w.heap.size+1) 0 (tc (t)).toList)
  generalize putC w1 (w.heap.size+1) 0 (tc (t)).toList=X at D K ⊢
  exact bodyPost_ret (v:=tk (t)) (by simp [results,Tryz.results246,go_sem,D.cells]) rfl ⟨by rw [Hn.out],K⟩
 ·cases hi:inB now 0 100000
  ·have Hn:Hid (qca t now=t):=by show _=_;simp [qca,qeJ,hi]
   go_wp2_with (go_at_call 64;refine (qaf _ _ _ _).mono ?_;rintro e w' ⟨rfl,hw'⟩;have hw2:=hw'.symm;subst hw2)
   have D:=R.out.putC (tc (t)).toList rfl
   have K:=Keeps.putC (b:=w.heap.size+1) (by omega) (tc (t)).toList 0 K1.out
   change bodyPost _ _ _ _ _ (putC w1 (w.heap.size+1) 0 (tc (t)).toList)
   generalize putC w1 (w.heap.size+1) 0 (tc (t)).toList=X at D K ⊢
   exact bodyPost_ret (v:=tk (t)) (by simp [results,Tryz.results246,go_sem,D.cells]) rfl ⟨by rw [Hn.out],K⟩
  ·have H:=(qgf t).1 hd
   obtain ⟨p0,p1⟩:=H.p
   obtain ⟨d0,d1⟩:=H.due
   clear H
   cases hl:decide (now < t.due)
   ·have hl':=of_decide_eq_false hl
    have Hn:Hid (qca t now={ t with left:=t.q,due:=t.due+t.p }):=by show _=_;simp only [qca,qeJ,hd,hi,decide_eq_true (show t.due <= now by omega),Bool.and_true,if_true]
    go_wp2_with (go_at_call 64;refine (qaf _ _ _ _).mono ?_;rintro e w' ⟨rfl,hw'⟩;have hw2:=hw'.symm;subst hw2)
    have D:=((R.out.far (c:=w.heap.size) (o:=7) (by omega) (.int .i64 (t.q))).far (c:=w.heap.size) (o:=8) (by omega) (.int .i64 (t.due+t.p))).putC (tc ({ t with left:=t.q,due:=t.due+t.p })).toList rfl
    have K:=Keeps.putC (b:=w.heap.size+1) (by omega) (tc ({ t with left:=t.q,due:=t.due+t.p })).toList 0 ((K1.out.setCell (p:=⟨w.heap.size,7,none⟩) (Nat.le_refl _) (.int .i64 (t.q))).setCell (p:=⟨w.heap.size,8,none⟩) (Nat.le_refl _) (.int .i64 (t.due+t.p)))
    change bodyPost _ _ _ _ _ (putC ((w1.setCell ⟨w.heap.size,7,none⟩ (.int .i64 (t.q))).setCell ⟨w.heap.size,8,none⟩ (.int .i64 (t.due+t.p))) (w.heap.size+1) 0 (tc ({ t with left:=t.q,due:=t.due+t.p })).toList)
    generalize putC ((w1.setCell ⟨w.heap.size,7,none⟩ (.int .i64 (t.q))).setCell ⟨w.heap.size,8,none⟩ (.int .i64 (t.due+t.p))) (w.heap.size+1) 0 (tc ({ t with left:=t.q,due:=t.due+t.p })).toList=X at D K ⊢
    exact bodyPost_ret (v:=tk ({ t with left:=t.q,due:=t.due+t.p })) (by simp [results,Tryz.results246,go_sem,D.cells]) rfl ⟨by rw [Hn.out],K⟩
   ·have hl':=of_decide_eq_true hl
    have Hn:Hid (qca t now=t):=by show _=_;simp only [qca,qeJ,decide_eq_false (show ¬ t.due <= now by omega),Bool.and_false,Bool.false_eq_true,if_false]
    go_wp2_with (go_at_call 64;refine (qaf _ _ _ _).mono ?_;rintro e w' ⟨rfl,hw'⟩;have hw2:=hw'.symm;subst hw2)
    have D:=R.out.putC (tc (t)).toList rfl
    have K:=Keeps.putC (b:=w.heap.size+1) (by omega) (tc (t)).toList 0 K1.out
    change bodyPost _ _ _ _ _ (putC w1 (w.heap.size+1) 0 (tc (t)).toList)
    generalize putC w1 (w.heap.size+1) 0 (tc (t)).toList=X at D K ⊢
    exact bodyPost_ret (v:=tk (t)) (by simp [results,Tryz.results246,go_sem,D.cells]) rfl ⟨by rw [Hn.out],K⟩
theorem qkz {α β:Type} (f:β->α->β) (a:β) {ts:List α} {k:Nat} {t:α} (h:ts[k]?=some t):(ts.take (k+1)).foldl f a=f ((ts.take k).foldl f a) t:=by
 have hk:k < ts.length:=by
  rcases Nat.lt_or_ge k ts.length with h' | h'
  ·exact h'
  ·simp [List.getElem?_eq_none h'] at h
 rw [List.getElem?_eq_getElem hk] at h
 rw [List.take_succ_eq_append_getElem hk,List.foldl_append]
 simp only [Option.some.injEq] at h
 rw [h]
 rfl
theorem qkA {α β:Type} (f:β->α->β) (a:β) {ts:List α} {k:Nat} (h:ts.length <= k):(ts.take k).foldl f a=ts.foldl f a:=by rw [List.take_of_length_le h]
set_option maxHeartbeats 2000000 in
theorem qg0 (a:Option Addr) (cap:Nat) (ts:List Tsk) (floor:Int) (w:World) (hl:ts.length <= maxLen) (hs:Ts w a ts) :
  Calls Tryz.prog 248 #[.slice a ts.length cap,.int .i64 floor] w fun e w'=>e = .returned (.int .i64 (qdz ts floor)) /\ Keeps w w':=by
 unfold maxLen at hl
 generalize hn:ts.length=n at hl
 have Hn:Hid (ts.length=n):=hn
 clear hn
 go_enter Tryz.func248,Tryz.ntmps248
 go_wp2
 go_loopw [5,6] (fun l i wr=>∃ k:Nat,k <= n /\ i = .int .i64 k /\ l = .int .i64 ((ts.take k).foldl qbz (-1)) /\ Keeps w wr) (fun _ i _=>n - (intOf i).toNat)
 case atStart=>exact ⟨0,Nat.zero_le _,rfl,rfl,Keeps.refl _⟩
 case round =>
  obtain ⟨k,hk,rfl,rfl,hK⟩:=hrel
  by_cases hlt:k < n
  ·obtain ⟨t,ht⟩:=qbB (xs:=ts) (k:=k) (by rw [Hn.out];exact hlt)
   obtain ⟨b,off,rfl,r0,r1⟩:=hs.at ht (by omega)
   have hlt':(k:Int) < (n:Int):=by omega
   have Ht:Hid ((ts.take (k+1)).foldl qbz (-1)=qbz ((ts.take k).foldl qbz (-1)) t):=qkz _ _ ht
   clear hs ht
   generalize (ts.take k).foldl qbz (-1)=L at *
   cases hf:qaC t
   ·have HL:Hid (qbz L t=L):=by show _=_;simp [qbz,hf]
    go_wp2_with (go_at_call 89;refine (qc4 t _).mono ?_;rintro e w1 ⟨rfl,k1⟩;have K1:=hK.trans k1;rw [hf])
    exact ⟨⟨k+1,by omega,by go_num,by rw [Ht.out,HL.out],K1⟩,by simp only [intOf];omega⟩
   ·cases h1:decide (L < 0)
    ·cases h2:decide (t.v < L)
     ·have HL:Hid (qbz L t=L):=by show _=_;simp only [qbz,hf,h1,h2,Bool.or_false,Bool.and_false,Bool.false_eq_true,if_false]
      go_wp2_with (go_at_call 89;refine (qc4 t _).mono ?_;rintro e w1 ⟨rfl,k1⟩;have K1:=hK.trans k1;rw [hf])
      exact ⟨⟨k+1,by omega,by go_num,by rw [Ht.out,HL.out],K1⟩,by simp only [intOf];omega⟩
     ·have HL:Hid (qbz L t=t.v):=by show _=_;simp only [qbz,hf,h2,Bool.or_true,Bool.and_true,if_true]
      go_wp2_with (go_at_call 89;refine (qc4 t _).mono ?_;rintro e w1 ⟨rfl,k1⟩;have K1:=hK.trans k1;rw [hf])
      exact ⟨⟨k+1,by omega,by go_num,by rw [Ht.out,HL.out],K1⟩,by simp only [intOf];omega⟩
    ·have HL:Hid (qbz L t=t.v):=by show _=_;simp only [qbz,hf,h1,Bool.true_or,Bool.and_true,if_true]
     go_wp2_with (go_at_call 89;refine (qc4 t _).mono ?_;rintro e w1 ⟨rfl,k1⟩;have K1:=hK.trans k1;rw [hf])
     exact ⟨⟨k+1,by omega,by go_num,by rw [Ht.out,HL.out],K1⟩,by simp only [intOf];omega⟩
  ·have hlt':decide ((k:Int) < (n:Int))=false:=by simp;omega
   rw [qkA qbz (-1) (show ts.length <= k by have:=Hn.out;omega)]
   have HV:Hid (qdz ts floor=if ts.foldl qbz (-1) < 0 then floor else max floor (ts.foldl qbz (-1))):=rfl
   generalize ts.foldl qbz (-1)=L at *
   clear hs
   cases h1:decide (L < 0)
   ·have HL:Hid (qdz ts floor=max floor L):=by show _=_;rw [HV.out,if_neg (of_decide_eq_false h1)]
    go_wp2_with (go_at_call 90;refine (qc3 _ _ _).mono ?_;rintro e w' ⟨rfl,hw'⟩;have hw2:=hw'.symm;subst hw2)
    go_ret
    exact ⟨by rw [HL.out];rfl,hK⟩
   ·have HL:Hid (qdz ts floor=floor):=by show _=_;rw [HV.out,if_pos (of_decide_eq_true h1)]
    go_wp2
    go_ret
    exact ⟨by rw [HL.out];rfl,hK⟩
set_option maxHeartbeats 4000000 in
theorem qkB (t:Tsk) (cpu frm dst:Int) (w:World) :
  Calls Tryz.prog 243 #[tk t,.int .i64 cpu,.int .i64 frm,.int .i64 dst] w fun e w'=>e = .returned (tk (qbT t cpu frm dst)) /\ Keeps w w':=by
 go_enter Tryz.func243,Tryz.ntmps243
 go_wp2_with fail
 refine (qc4 t _).mono ?_
 rintro e w1 ⟨rfl,k1⟩
 have B1:=((Blk.new w (tc t) 47).alloc (.cells (tc Tsk.zero) 47)).keeps k1
 have B2:=(Blk.new (w.alloc (.cells (tc t) 47)) (tc Tsk.zero) 47).keeps k1
 have K1:Hid (Keeps w w1):=(((Keeps.refl w).alloc _).alloc _).trans k1
 simp only [World.size_alloc] at B2
 have R:Hid (Blk w1 (w.heap.size+1) (tc Tsk.zero)):=B2
 have B0:Hid (Blk w1 w.heap.size (tc t)):=B1
 obtain ⟨_,b1,b2⟩:=B1
 obtain ⟨_,c1,c2⟩:=B2
 clear k1
 cases hd:qaC t
 ·have Hn:Hid (qbT t cpu frm dst=t):=by show _=_;simp [qbT,qdP,hd]
  go_wp2_with (first | (go_at_call 64;refine (qaf _ _ _ _).mono ?_;rintro e w' ⟨rfl,hw'⟩;have hw2:=hw'.symm;subst hw2) | (go_at_call 90;refine (qc3 _ _ _).mono ?_;rintro e w' ⟨rfl,hw'⟩;have hw2:=hw'.symm;subst hw2))
  have D:=R.out.putC (tc (t)).toList rfl
  have K:=Keeps.putC (b:=w.heap.size+1) (by omega) (tc (t)).toList 0 K1.out
  change bodyPost _ _ _ _ _ (putC w1 (w.heap.size+1) 0 (tc (t)).toList)
  generalize putC w1 (w.heap.size+1) 0 (tc (t)).toList=X at D K ⊢
  exact bodyPost_ret (v:=tk (t)) (by simp [results,Tryz.results243,go_sem,D.cells]) rfl ⟨by rw [Hn.out],K⟩
 ·skip
  cases h1:inB cpu 0 3
  ·have Hn:Hid (qbT t cpu frm dst=t):=by show _=_;simp [qbT,qdP,h1]
   go_wp2_with (first | (go_at_call 64;refine (qaf _ _ _ _).mono ?_;rintro e w' ⟨rfl,hw'⟩;have hw2:=hw'.symm;subst hw2) | (go_at_call 90;refine (qc3 _ _ _).mono ?_;rintro e w' ⟨rfl,hw'⟩;have hw2:=hw'.symm;subst hw2))
   have D:=R.out.putC (tc (t)).toList rfl
   have K:=Keeps.putC (b:=w.heap.size+1) (by omega) (tc (t)).toList 0 K1.out
   change bodyPost _ _ _ _ _ (putC w1 (w.heap.size+1) 0 (tc (t)).toList)
   generalize putC w1 (w.heap.size+1) 0 (tc (t)).toList=X at D K ⊢
   exact bodyPost_ret (v:=tk (t)) (by simp [results,Tryz.results243,go_sem,D.cells]) rfl ⟨by rw [Hn.out],K⟩
  ·skip
   cases h2:inB frm 0 100000000
   ·have Hn:Hid (qbT t cpu frm dst=t):=by show _=_;simp [qbT,qdP,h2]
    go_wp2_with (first | (go_at_call 64;refine (qaf _ _ _ _).mono ?_;rintro e w' ⟨rfl,hw'⟩;have hw2:=hw'.symm;subst hw2) | (go_at_call 90;refine (qc3 _ _ _).mono ?_;rintro e w' ⟨rfl,hw'⟩;have hw2:=hw'.symm;subst hw2))
    have D:=R.out.putC (tc (t)).toList rfl
    have K:=Keeps.putC (b:=w.heap.size+1) (by omega) (tc (t)).toList 0 K1.out
    change bodyPost _ _ _ _ _ (putC w1 (w.heap.size+1) 0 (tc (t)).toList)
    generalize putC w1 (w.heap.size+1) 0 (tc (t)).toList=X at D K ⊢
    exact bodyPost_ret (v:=tk (t)) (by simp [results,Tryz.results243,go_sem,D.cells]) rfl ⟨by rw [Hn.out],K⟩
   ·skip
    cases h3:inB dst 0 100000000
    ·have Hn:Hid (qbT t cpu frm dst=t):=by show _=_;simp [qbT,qdP,h3]
     go_wp2_with (first | (go_at_call 64;refine (qaf _ _ _ _).mono ?_;rintro e w' ⟨rfl,hw'⟩;have hw2:=hw'.symm;subst hw2) | (go_at_call 90;refine (qc3 _ _ _).mono ?_;rintro e w' ⟨rfl,hw'⟩;have hw2:=hw'.symm;subst hw2))
     have D:=R.out.putC (tc (t)).toList rfl
     have K:=Keeps.putC (b:=w.heap.size+1) (by omega) (tc (t)).toList 0 K1.out
     change bodyPost _ _ _ _ _ (putC w1 (w.heap.size+1) 0 (tc (t)).toList)
     generalize putC w1 (w.heap.size+1) 0 (tc (t)).toList=X at D K ⊢
     exact bodyPost_ret (v:=tk (t)) (by simp [results,Tryz.results243,go_sem,D.cells]) rfl ⟨by rw [Hn.out],K⟩
    ·skip
     have H:=(qis t).1 hd
     obtain ⟨v0,v1⟩:=H.v
     obtain ⟨f0,f1⟩:=qap.1 h2
     obtain ⟨d0,d1⟩:=qap.1 h3
     have e1:IntKind.i64.wrap (t.v - frm)=t.v - frm:=Go.IntWalk.i64_in _ (by omega)
     have e2:IntKind.i64.wrap (dst+max (t.v - frm) 0)=dst+max (t.v - frm) 0:=Go.IntWalk.i64_in _ (by omega)
     clear H
     cases h4:decide (100000000 < dst+max (t.v - frm) 0)
     ·have Hn:Hid (qbT t cpu frm dst={ t with cpu:=cpu,v:=dst+max (t.v - frm) 0 }):=by show _=_;simp only [qbT,qdP,hd,h1,h2,h3,h4,Bool.and_true,Bool.not_false,if_true]
      go_wp2_with (first | (go_at_call 64;refine (qaf _ _ _ _).mono ?_;rintro e w' ⟨rfl,hw'⟩;have hw2:=hw'.symm;subst hw2) | (go_at_call 90;refine (qc3 _ _ _).mono ?_;rintro e w' ⟨rfl,hw'⟩;have hw2:=hw'.symm;subst hw2))
      have D:=((R.out.far (c:=w.heap.size) (o:=2) (by omega) (.int .i64 cpu)).far (c:=w.heap.size) (o:=13) (by omega) (.int .i64 (dst+max (t.v - frm) 0))).putC (tc ({ t with cpu:=cpu,v:=dst+max (t.v - frm) 0 })).toList rfl
      have K:=Keeps.putC (b:=w.heap.size+1) (by omega) (tc ({ t with cpu:=cpu,v:=dst+max (t.v - frm) 0 })).toList 0 ((K1.out.setCell (p:=⟨w.heap.size,2,none⟩) (Nat.le_refl _) (.int .i64 cpu)).setCell (p:=⟨w.heap.size,13,none⟩) (Nat.le_refl _) (.int .i64 (dst+max (t.v - frm) 0)))
      change bodyPost _ _ _ _ _ (putC ((w1.setCell ⟨w.heap.size,2,none⟩ (.int .i64 cpu)).setCell ⟨w.heap.size,13,none⟩ (.int .i64 (dst+max (t.v - frm) 0))) (w.heap.size+1) 0 (tc ({ t with cpu:=cpu,v:=dst+max (t.v - frm) 0 })).toList)
      generalize putC ((w1.setCell ⟨w.heap.size,2,none⟩ (.int .i64 cpu)).setCell ⟨w.heap.size,13,none⟩ (.int .i64 (dst+max (t.v - frm) 0))) (w.heap.size+1) 0 (tc ({ t with cpu:=cpu,v:=dst+max (t.v - frm) 0 })).toList=X at D K ⊢
      exact bodyPost_ret (v:=tk ({ t with cpu:=cpu,v:=dst+max (t.v - frm) 0 })) (by simp [results,Tryz.results243,go_sem,D.cells]) rfl ⟨by rw [Hn.out],K⟩
     ·have Hn:Hid (qbT t cpu frm dst=t):=by show _=_;simp only [qbT,qdP,h4,Bool.and_false,Bool.not_true,Bool.false_eq_true,if_false]
      go_wp2_with (first | (go_at_call 64;refine (qaf _ _ _ _).mono ?_;rintro e w' ⟨rfl,hw'⟩;have hw2:=hw'.symm;subst hw2) | (go_at_call 90;refine (qc3 _ _ _).mono ?_;rintro e w' ⟨rfl,hw'⟩;have hw2:=hw'.symm;subst hw2))
      have D:=R.out.putC (tc (t)).toList rfl
      have K:=Keeps.putC (b:=w.heap.size+1) (by omega) (tc (t)).toList 0 K1.out
      change bodyPost _ _ _ _ _ (putC w1 (w.heap.size+1) 0 (tc (t)).toList)
      generalize putC w1 (w.heap.size+1) 0 (tc (t)).toList=X at D K ⊢
      exact bodyPost_ret (v:=tk (t)) (by simp [results,Tryz.results243,go_sem,D.cells]) rfl ⟨by rw [Hn.out],K⟩
def qkC:Prop:=∀ (a b:Tsk) (w:World),Calls Tryz.prog 279 #[tk a,tk b] w fun e w'=>e = .returned (.bool (qaT a b)) /\ Keeps w w'
end Go.Proofs.YthpdlbcdbncnhaaGreatDoor
