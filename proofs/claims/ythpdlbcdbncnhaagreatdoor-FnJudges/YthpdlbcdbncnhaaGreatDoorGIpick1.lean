/-
  The program's tasks behind an interface: each class's own t
-/
import Derived.Test.YthpdlbcdbncnhaaGreatDoorGItask2
import Derived.Test.YthpdlbcdbncnhaaGreatDoorGIdue2
import Derived.Test.YthpdlbcdbncnhaaGreatDoorImplFixC
import Derived.Test.YthpdlbcdbncnhaaGreatDoorGIfair2
import Derived.Test.YthpdlbcdbncnhaaGreatDoorGPure2
import Derived.Deep.RegionHeld3
import Derived.Test.YthpdlbcdbncnhaaGreatDoorGItask3
import Derived.Test.YthpdlbcdbncnhaaGreatDoorGIlock1
import Derived.Test.YthpdlbcdbncnhaaGreatDoorGPick2
import Derived.Test.YthpdlbcdbncnhaaGreatDoorGTask3
namespace Go.Proofs.YthpdlbcdbncnhaaGreatDoor
set_option maxRecDepth 100000
open Go.RowKit
attribute [local go_sem] Keeps.refl Keeps.alloc Keeps.drew Keeps.drewN
abbrev dI (t:Tsk):Value := .iface 69 (.agg (dtc t))
abbrev fI (t:Tsk):Value := .iface 177 (.agg (ftc t))
abbrev rI (t:Tsk):Value := .iface 129 (.agg (rtc t))
theorem qho {t:Tsk} (h:qae t=true) (c:(t.cls==1)=true):t.asDue=t:=by
 rw [qhD t c,Bool.and_eq_true] at h
 exact qel.1 h.2
theorem qhp {t:Tsk} (h:qae t=true) (c:(t.cls==2)=true):t.asFix=t:=by
 rw [qhE t c,Bool.and_eq_true] at h
 exact qel.1 h.2
theorem qhq {t:Tsk} (h:qae t=true) (c:(t.cls==3)=true):t.asFair=t:=by
 rw [qhF t c,Bool.and_eq_true] at h
 exact qel.1 h.2
theorem qhr (x:Value) (w:World):(Instr.typeAssert (.iface 69 x) 226 69 true).run Tryz.prog w = .ok (.tuple #[x,.bool true]) w:=by kernel_rfl
theorem qlu (x:Value) (w:World):(Instr.typeAssert (.iface 69 x) 226 177 true).run Tryz.prog w = .ok (.tuple #[.agg (ftc Tsk.zero),.bool false]) w:=by kernel_rfl
theorem qlv (x:Value) (w:World):(Instr.typeAssert (.iface 69 x) 226 129 true).run Tryz.prog w = .ok (.tuple #[.agg (rtc Tsk.zero),.bool false]) w:=by kernel_rfl
theorem qhs (x:Value) (w:World):(Instr.typeAssert (.iface 177 x) 226 69 true).run Tryz.prog w = .ok (.tuple #[.agg (dtc Tsk.zero),.bool false]) w:=by kernel_rfl
theorem qlw (x:Value) (w:World):(Instr.typeAssert (.iface 177 x) 226 177 true).run Tryz.prog w = .ok (.tuple #[x,.bool true]) w:=by kernel_rfl
theorem qlx (x:Value) (w:World):(Instr.typeAssert (.iface 177 x) 226 129 true).run Tryz.prog w = .ok (.tuple #[.agg (rtc Tsk.zero),.bool false]) w:=by kernel_rfl
theorem qht (x:Value) (w:World):(Instr.typeAssert (.iface 129 x) 226 69 true).run Tryz.prog w = .ok (.tuple #[.agg (dtc Tsk.zero),.bool false]) w:=by kernel_rfl
theorem qly (x:Value) (w:World):(Instr.typeAssert (.iface 129 x) 226 177 true).run Tryz.prog w = .ok (.tuple #[.agg (ftc Tsk.zero),.bool false]) w:=by kernel_rfl
theorem qlz (x:Value) (w:World):(Instr.typeAssert (.iface 129 x) 226 129 true).run Tryz.prog w = .ok (.tuple #[x,.bool true]) w:=by kernel_rfl
theorem qlA (x:Tsk):∀ (n:Nat) (w:World),0 < n->(method n 69 (.agg (dtc x)) "loop.example/g00185/impl.isBeforeInClass").run Tryz.prog w = .ok (278,.agg (dtc x)) w
 | 0,_,h=>absurd h (Nat.lt_irrefl 0)
 | _+1,_,_=>by kernel_rfl
theorem qlB (x:Tsk):∀ (n:Nat) (w:World),0 < n->(nilAhead n 69 (.agg (dtc x)) "loop.example/g00185/impl.isBeforeInClass").run Tryz.prog w = .ok (some false) w
 | 0,_,h=>absurd h (Nat.lt_irrefl 0)
 | _+1,_,_=>by kernel_rfl
theorem qhu (x:Tsk):∀ (n:Nat) (w:World),0 < n->(method n 177 (.agg (ftc x)) "loop.example/g00185/impl.isBeforeInClass").run Tryz.prog w = .ok (291,.agg (ftc x)) w
 | 0,_,h=>absurd h (Nat.lt_irrefl 0)
 | _+1,_,_=>by kernel_rfl
theorem qhv (x:Tsk):∀ (n:Nat) (w:World),0 < n->(nilAhead n 177 (.agg (ftc x)) "loop.example/g00185/impl.isBeforeInClass").run Tryz.prog w = .ok (some false) w
 | 0,_,h=>absurd h (Nat.lt_irrefl 0)
 | _+1,_,_=>by kernel_rfl
theorem qfM (x:Tsk):∀ (n:Nat) (w:World),0 < n->(method n 129 (.agg (rtc x)) "loop.example/g00185/impl.isBeforeInClass").run Tryz.prog w = .ok (284,.agg (rtc x)) w
 | 0,_,h=>absurd h (Nat.lt_irrefl 0)
 | _+1,_,_=>by kernel_rfl
theorem qfN (x:Tsk):∀ (n:Nat) (w:World),0 < n->(nilAhead n 129 (.agg (rtc x)) "loop.example/g00185/impl.isBeforeInClass").run Tryz.prog w = .ok (some false) w
 | 0,_,h=>absurd h (Nat.lt_irrefl 0)
 | _+1,_,_=>by kernel_rfl
attribute [local go_sem high] qhr qlu qlv qhs qlw qlx qht qly qlz
theorem qlC (t:Tsk) (w:World) (c1:(t.cls==1)=true) :
  Calls Tryz.prog 190 #[tk t] w fun e w'=>e = .returned (dI t) /\ Keeps w w':=by
 have kW:=blkK w (.cells (tc t) 47)
 go_enter Tryz.func190,Tryz.ntmps190
 go_wp2_with (go_at_call 44;refine (qd0 t _).mono ?_;rintro e w1 ⟨rfl,k1⟩)
 go_ret
 exact ⟨rfl,kW.trans k1⟩
theorem qlD (t:Tsk) (w:World) (c1:(t.cls==1)=false) (c2:(t.cls==2)=true) :
  Calls Tryz.prog 190 #[tk t] w fun e w'=>e = .returned (fI t) /\ Keeps w w':=by
 have kW:=blkK w (.cells (tc t) 47)
 go_enter Tryz.func190,Tryz.ntmps190
 go_wp2_with (go_at_call 134;refine (qey t _).mono ?_;rintro e w1 ⟨rfl,k1⟩)
 go_ret
 exact ⟨rfl,kW.trans k1⟩
theorem qlE (t:Tsk) (w:World) (c1:(t.cls==1)=false) (c2:(t.cls==2)=false) :
  Calls Tryz.prog 190 #[tk t] w fun e w'=>e = .returned (rI t) /\ Keeps w w':=by
 have kW:=blkK w (.cells (tc t) 47)
 go_enter Tryz.func190,Tryz.ntmps190
 go_wp2_with (go_at_call 137;refine (qe2 t _).mono ?_;rintro e w1 ⟨rfl,k1⟩)
 go_ret
 exact ⟨rfl,kW.trans k1⟩
theorem qdU (x:Value) (w:World) :
  Calls Tryz.prog 224 #[.iface 69 x] w fun e w'=>e = .returned (.int .i64 1) /\ w'=w:=by
 go_enter Tryz.func224,Tryz.ntmps224
 go_wp2
 go_ret
 exact ⟨rfl,rfl⟩
theorem qdV (x:Value) (w:World) :
  Calls Tryz.prog 224 #[.iface 177 x] w fun e w'=>e = .returned (.int .i64 2) /\ w'=w:=by
 go_enter Tryz.func224,Tryz.ntmps224
 go_wp2
 go_ret
 exact ⟨rfl,rfl⟩
theorem qdW (x:Value) (w:World) :
  Calls Tryz.prog 224 #[.iface 129 x] w fun e w'=>e = .returned (.int .i64 3) /\ w'=w:=by
 go_enter Tryz.func224,Tryz.ntmps224
 go_wp2
 go_ret
 exact ⟨rfl,rfl⟩
set_option maxHeartbeats 1000000 in
theorem qlF (t u:Tsk) (w:World) :
  Calls Tryz.prog 278 #[.agg (dtc t),dI u] w fun e w'=>e = .returned (.bool (qaT t.asDue u.asDue)) /\ Keeps w w':=by
 go_enter Tryz.func278,Tryz.ntmps278
 go_wp2_with fail
 have K0:Keeps w ((w.alloc (.cells (dtc t) 69)).alloc (.cells (dtc u) 69)):=((Keeps.refl w).alloc _).alloc _
 have r1:∀ w',Keeps ((w.alloc (.cells (dtc t) 69)).alloc (.cells (dtc u) 69)) w'->∀ k,w'.cell? ⟨w.heap.size,k,none⟩=(dtc t)[k]?:=fun w' h=>(((Blk.new w (dtc t) 69).alloc _).keeps h).cells
 have r2:∀ w',Keeps ((w.alloc (.cells (dtc t) 69)).alloc (.cells (dtc u) 69)) w'->∀ k,w'.cell? ⟨w.heap.size+1,k,none⟩=(dtc u)[k]?:=fun w' h=>by
  have:=(Blk.new (w.alloc (.cells (dtc t) 69)) (dtc u) 69).keeps h
  simp only [World.size_alloc] at this
  exact this.cells
 generalize (w.alloc (.cells (dtc t) 69)).alloc (.cells (dtc u) 69)=W at *
 refine wp_region_held_drew (S:=(fun w'=>Keeps W w')) (by kernel_rfl) ?_ (fun hHeld => ?_)
 ·exact (Keeps.refl W).drew
 refine Plan.go [0,1,2,4] ?_
 iterate 4 (refine qac (by simp only [qab];rfl) (by kernel_rfl) (by exact fun _ _ _ h=>h) (by rfl) (by assumption) (fun w _=>by go_simp;try (with_reducible rfl)) ?_;try simp only [qaa])
 refine Plan.nil ?_
 refine qad 3 (by kernel_rfl) (by simp only [qab];rfl) (fun K hK => ?_)
 go_simp
 first
  | (go_at_call 279;refine (qfE _ _ _).mono ?_;rintro e w1 ⟨rfl,k1⟩)
  | (go_at_call 133;refine (qdh _ _).mono ?_;rintro e w1 ⟨rfl,k1⟩)
 try go_wp2_with fail
 refine hK.out _ _ ?_ (fun hHeld => ?_)
 ·exact Keeps.trans (by assumption) (by assumption)
 clear hK K
 try simp only [qaa]
 refine qad 5 (by kernel_rfl) (by simp only [qab];rfl) (fun K hK => ?_)
 go_simp
 first
  | (go_at_call 279;refine (qfE _ _ _).mono ?_;rintro e w1 ⟨rfl,k1⟩)
  | (go_at_call 133;refine (qdh _ _).mono ?_;rintro e w1 ⟨rfl,k1⟩)
 try go_wp2_with fail
 refine hK.out _ _ ?_ (fun hHeld => ?_)
 ·exact Keeps.trans (by assumption) (by assumption)
 clear hK K
 try simp only [qaa]
 refine qad 6 (by kernel_rfl) (by simp only [qab];rfl) (fun K hK => ?_)
 go_simp
 first
  | (go_at_call 279;refine (qfE _ _ _).mono ?_;rintro e w1 ⟨rfl,k1⟩)
  | (go_at_call 133;refine (qdh _ _).mono ?_;rintro e w1 ⟨rfl,k1⟩)
 try go_wp2_with fail
 refine hK.out _ _ ?_ (fun hHeld => ?_)
 ·exact Keeps.trans (by assumption) (by assumption)
 clear hK K
 try simp only [qaa]
 refine Plan.go [7,8] ?_
 iterate 2 (refine qac (by simp only [qab];rfl) (by kernel_rfl) (by exact fun _ _ _ h=>h) (by rfl) (by assumption) (fun w _=>by go_simp;try (with_reducible rfl)) ?_;try simp only [qaa])
 refine Plan.nil ?_
 refine wpAnyH_done (by kernel_rfl) ?_ _
 have K1:Keeps W w1:=by assumption
 go_wp2
 go_ret
 exact ⟨rfl,K0.trans K1⟩
theorem qlG (t u:Tsk) (w:World) :
  Calls Tryz.prog 291 #[.agg (ftc t),dI u] w fun e w'=>e = .returned (.bool false) /\ Keeps w w':=by
 go_enter Tryz.func291,Tryz.ntmps291
 go_wp2_with fail
 have K0:Keeps w ((w.alloc (.cells (ftc t) 177)).alloc (.cells (ftc Tsk.zero) 177)):=((Keeps.refl w).alloc _).alloc _
 generalize (w.alloc (.cells (ftc t) 177)).alloc (.cells (ftc Tsk.zero) 177)=W at *
 refine wp_region_held_drew (S:=(fun w'=>Keeps W w')) (by kernel_rfl) ?_ (fun hHeld => ?_)
 ·exact (Keeps.refl W).drew
 refine Plan.go [0,1] ?_
 iterate 2 (refine qac (by simp only [qab];rfl) (by kernel_rfl) (by exact fun _ _ _ h=>h) (by rfl) (by assumption) (fun w _=>by go_simp;try (with_reducible rfl)) ?_;try simp only [qaa])
 refine Plan.nil ?_
 refine Plan.go [2,3,4,5,6] ?_
 iterate 5 (refine qaq (by simp only [qab];rfl) (by kernel_rfl) (by exact fun _ _ _ h=>h) (by rfl) (by assumption) ?_;try simp only [qaa])
 refine Plan.nil ?_
 refine Plan.go [7,8] ?_
 iterate 2 (refine qac (by simp only [qab];rfl) (by kernel_rfl) (by exact fun _ _ _ h=>h) (by rfl) (by assumption) (fun w _=>by go_simp;try (with_reducible rfl)) ?_;try simp only [qaa])
 refine Plan.nil ?_
 refine wpAnyH_done (by kernel_rfl) ?_ _
 go_wp2
 go_ret
 exact ⟨rfl,K0.trans (by assumption)⟩
set_option maxHeartbeats 1000000 in
theorem qlH (t u:Tsk) (w:World) :
  Calls Tryz.prog 291 #[.agg (ftc t),fI u] w fun e w'=>e = .returned (.bool (qaS t.asFix u.asFix)) /\ Keeps w w':=by
 go_enter Tryz.func291,Tryz.ntmps291
 go_wp2_with fail
 have K0:Keeps w ((w.alloc (.cells (ftc t) 177)).alloc (.cells (ftc u) 177)):=((Keeps.refl w).alloc _).alloc _
 have r1:∀ w',Keeps ((w.alloc (.cells (ftc t) 177)).alloc (.cells (ftc u) 177)) w'->∀ k,w'.cell? ⟨w.heap.size,k,none⟩=(ftc t)[k]?:=fun w' h=>(((Blk.new w (ftc t) 177).alloc _).keeps h).cells
 have r2:∀ w',Keeps ((w.alloc (.cells (ftc t) 177)).alloc (.cells (ftc u) 177)) w'->∀ k,w'.cell? ⟨w.heap.size+1,k,none⟩=(ftc u)[k]?:=fun w' h=>by
  have:=(Blk.new (w.alloc (.cells (ftc t) 177)) (ftc u) 177).keeps h
  simp only [World.size_alloc] at this
  exact this.cells
 generalize (w.alloc (.cells (ftc t) 177)).alloc (.cells (ftc u) 177)=W at *
 refine wp_region_held_drew (S:=(fun w'=>Keeps W w')) (by kernel_rfl) ?_ (fun hHeld => ?_)
 ·exact (Keeps.refl W).drew
 refine Plan.go [0,1,2,4] ?_
 iterate 4 (refine qac (by simp only [qab];rfl) (by kernel_rfl) (by exact fun _ _ _ h=>h) (by rfl) (by assumption) (fun w _=>by go_simp;try (with_reducible rfl)) ?_;try simp only [qaa])
 refine Plan.nil ?_
 refine qad 3 (by kernel_rfl) (by simp only [qab];rfl) (fun K hK => ?_)
 go_simp
 first
  | (go_at_call 292;refine (qgv _ _ _).mono ?_;rintro e w1 ⟨rfl,k1⟩)
  | (go_at_call 136;refine (qdi _ _).mono ?_;rintro e w1 ⟨rfl,k1⟩)
 try go_wp2_with fail
 refine hK.out _ _ ?_ (fun hHeld => ?_)
 ·exact Keeps.trans (by assumption) (by assumption)
 clear hK K
 try simp only [qaa]
 refine qad 5 (by kernel_rfl) (by simp only [qab];rfl) (fun K hK => ?_)
 go_simp
 first
  | (go_at_call 292;refine (qgv _ _ _).mono ?_;rintro e w1 ⟨rfl,k1⟩)
  | (go_at_call 136;refine (qdi _ _).mono ?_;rintro e w1 ⟨rfl,k1⟩)
 try go_wp2_with fail
 refine hK.out _ _ ?_ (fun hHeld => ?_)
 ·exact Keeps.trans (by assumption) (by assumption)
 clear hK K
 try simp only [qaa]
 refine qad 6 (by kernel_rfl) (by simp only [qab];rfl) (fun K hK => ?_)
 go_simp
 first
  | (go_at_call 292;refine (qgv _ _ _).mono ?_;rintro e w1 ⟨rfl,k1⟩)
  | (go_at_call 136;refine (qdi _ _).mono ?_;rintro e w1 ⟨rfl,k1⟩)
 try go_wp2_with fail
 refine hK.out _ _ ?_ (fun hHeld => ?_)
 ·exact Keeps.trans (by assumption) (by assumption)
 clear hK K
 try simp only [qaa]
 refine Plan.go [7,8] ?_
 iterate 2 (refine qac (by simp only [qab];rfl) (by kernel_rfl) (by exact fun _ _ _ h=>h) (by rfl) (by assumption) (fun w _=>by go_simp;try (with_reducible rfl)) ?_;try simp only [qaa])
 refine Plan.nil ?_
 refine wpAnyH_done (by kernel_rfl) ?_ _
 have K1:Keeps W w1:=by assumption
 go_wp2
 go_ret
 exact ⟨rfl,K0.trans K1⟩
theorem qlI (t u:Tsk) (w:World) :
  Calls Tryz.prog 284 #[.agg (rtc t),dI u] w fun e w'=>e = .returned (.bool false) /\ Keeps w w':=by
 go_enter Tryz.func284,Tryz.ntmps284
 go_wp2_with fail
 have K0:Keeps w ((w.alloc (.cells (rtc t) 129)).alloc (.cells (rtc Tsk.zero) 129)):=((Keeps.refl w).alloc _).alloc _
 generalize (w.alloc (.cells (rtc t) 129)).alloc (.cells (rtc Tsk.zero) 129)=W at *
 refine wp_region_held_drew (S:=(fun w'=>Keeps W w')) (by kernel_rfl) ?_ (fun hHeld => ?_)
 ·exact (Keeps.refl W).drew
 refine Plan.go [0,1] ?_
 iterate 2 (refine qac (by simp only [qab];rfl) (by kernel_rfl) (by exact fun _ _ _ h=>h) (by rfl) (by assumption) (fun w _=>by go_simp;try (with_reducible rfl)) ?_;try simp only [qaa])
 refine Plan.nil ?_
 refine Plan.go [2,3,4,5,6] ?_
 iterate 5 (refine qaq (by simp only [qab];rfl) (by kernel_rfl) (by exact fun _ _ _ h=>h) (by rfl) (by assumption) ?_;try simp only [qaa])
 refine Plan.nil ?_
 refine Plan.go [7,8] ?_
 iterate 2 (refine qac (by simp only [qab];rfl) (by kernel_rfl) (by exact fun _ _ _ h=>h) (by rfl) (by assumption) (fun w _=>by go_simp;try (with_reducible rfl)) ?_;try simp only [qaa])
 refine Plan.nil ?_
 refine wpAnyH_done (by kernel_rfl) ?_ _
 go_wp2
 go_ret
 exact ⟨rfl,K0.trans (by assumption)⟩
theorem qlJ (t u:Tsk) (w:World) :
  Calls Tryz.prog 284 #[.agg (rtc t),fI u] w fun e w'=>e = .returned (.bool false) /\ Keeps w w':=by
 go_enter Tryz.func284,Tryz.ntmps284
 go_wp2_with fail
 have K0:Keeps w ((w.alloc (.cells (rtc t) 129)).alloc (.cells (rtc Tsk.zero) 129)):=((Keeps.refl w).alloc _).alloc _
 generalize (w.alloc (.cells (rtc t) 129)).alloc (.cells (rtc Tsk.zero) 129)=W at *
 refine wp_region_held_drew (S:=(fun w'=>Keeps W w')) (by kernel_rfl) ?_ (fun hHeld => ?_)
 ·exact (Keeps.refl W).drew
 refine Plan.go [0,1] ?_
 iterate 2 (refine qac (by simp only [qab];rfl) (by kernel_rfl) (by exact fun _ _ _ h=>h) (by rfl) (by assumption) (fun w _=>by go_simp;try (with_reducible rfl)) ?_;try simp only [qaa])
 refine Plan.nil ?_
 refine Plan.go [2,3,4,5,6] ?_
 iterate 5 (refine qaq (by simp only [qab];rfl) (by kernel_rfl) (by exact fun _ _ _ h=>h) (by rfl) (by assumption) ?_;try simp only [qaa])
 refine Plan.nil ?_
 refine Plan.go [7,8] ?_
 iterate 2 (refine qac (by simp only [qab];rfl) (by kernel_rfl) (by exact fun _ _ _ h=>h) (by rfl) (by assumption) (fun w _=>by go_simp;try (with_reducible rfl)) ?_;try simp only [qaa])
 refine Plan.nil ?_
 refine wpAnyH_done (by kernel_rfl) ?_ _
 go_wp2
 go_ret
 exact ⟨rfl,K0.trans (by assumption)⟩
set_option maxHeartbeats 1000000 in
theorem qlK (t u:Tsk) (w:World) :
  Calls Tryz.prog 284 #[.agg (rtc t),rI u] w fun e w'=>e = .returned (.bool (qaU t.asFair u.asFair)) /\ Keeps w w':=by
 go_enter Tryz.func284,Tryz.ntmps284
 go_wp2_with fail
 have K0:Keeps w ((w.alloc (.cells (rtc t) 129)).alloc (.cells (rtc u) 129)):=((Keeps.refl w).alloc _).alloc _
 have r1:∀ w',Keeps ((w.alloc (.cells (rtc t) 129)).alloc (.cells (rtc u) 129)) w'->∀ k,w'.cell? ⟨w.heap.size,k,none⟩=(rtc t)[k]?:=fun w' h=>(((Blk.new w (rtc t) 129).alloc _).keeps h).cells
 have r2:∀ w',Keeps ((w.alloc (.cells (rtc t) 129)).alloc (.cells (rtc u) 129)) w'->∀ k,w'.cell? ⟨w.heap.size+1,k,none⟩=(rtc u)[k]?:=fun w' h=>by
  have:=(Blk.new (w.alloc (.cells (rtc t) 129)) (rtc u) 129).keeps h
  simp only [World.size_alloc] at this
  exact this.cells
 generalize (w.alloc (.cells (rtc t) 129)).alloc (.cells (rtc u) 129)=W at *
 refine wp_region_held_drew (S:=(fun w'=>Keeps W w')) (by kernel_rfl) ?_ (fun hHeld => ?_)
 ·exact (Keeps.refl W).drew
 refine Plan.go [0,1,2,4] ?_
 iterate 4 (refine qac (by simp only [qab];rfl) (by kernel_rfl) (by exact fun _ _ _ h=>h) (by rfl) (by assumption) (fun w _=>by go_simp;try (with_reducible rfl)) ?_;try simp only [qaa])
 refine Plan.nil ?_
 refine qad 3 (by kernel_rfl) (by simp only [qab];rfl) (fun K hK => ?_)
 go_simp
 first
  | (go_at_call 285;refine (qfI _ _ _).mono ?_;rintro e w1 ⟨rfl,k1⟩)
  | (go_at_call 139;refine (qdj _ _).mono ?_;rintro e w1 ⟨rfl,k1⟩)
 try go_wp2_with fail
 refine hK.out _ _ ?_ (fun hHeld => ?_)
 ·exact Keeps.trans (by assumption) (by assumption)
 clear hK K
 try simp only [qaa]
 refine qad 5 (by kernel_rfl) (by simp only [qab];rfl) (fun K hK => ?_)
 go_simp
 first
  | (go_at_call 285;refine (qfI _ _ _).mono ?_;rintro e w1 ⟨rfl,k1⟩)
  | (go_at_call 139;refine (qdj _ _).mono ?_;rintro e w1 ⟨rfl,k1⟩)
 try go_wp2_with fail
 refine hK.out _ _ ?_ (fun hHeld => ?_)
 ·exact Keeps.trans (by assumption) (by assumption)
 clear hK K
 try simp only [qaa]
 refine qad 6 (by kernel_rfl) (by simp only [qab];rfl) (fun K hK => ?_)
 go_simp
 first
  | (go_at_call 285;refine (qfI _ _ _).mono ?_;rintro e w1 ⟨rfl,k1⟩)
  | (go_at_call 139;refine (qdj _ _).mono ?_;rintro e w1 ⟨rfl,k1⟩)
 try go_wp2_with fail
 refine hK.out _ _ ?_ (fun hHeld => ?_)
 ·exact Keeps.trans (by assumption) (by assumption)
 clear hK K
 try simp only [qaa]
 refine Plan.go [7,8] ?_
 iterate 2 (refine qac (by simp only [qab];rfl) (by kernel_rfl) (by exact fun _ _ _ h=>h) (by rfl) (by assumption) (fun w _=>by go_simp;try (with_reducible rfl)) ?_;try simp only [qaa])
 refine Plan.nil ?_
 refine wpAnyH_done (by kernel_rfl) ?_ _
 have K1:Keeps W w1:=by assumption
 go_wp2
 go_ret
 exact ⟨rfl,K0.trans K1⟩
theorem qlL (t u:Tsk) (w:World) :
  Calls Tryz.prog 189 #[dI t,dI u] w fun e w'=>e = .returned (.bool (qaT t.asDue u.asDue)) /\ Keeps w w':=by
 have hm:=qlA t
 have hn:=qlB t
 have CA:=qdU
 have CB:=qdU
 go_enter Tryz.func189,Tryz.ntmps189
 go_wp2_with (first
  | (go_at_call 224;have k0:=CA;clear CA;refine (k0 _ _).mono ?_;rintro e w1 ⟨rfl,rfl⟩)
  | (go_at_call 224;refine (CB _ _).mono ?_;rintro e w1 ⟨rfl,rfl⟩)
  | (go_at_call 278;refine (qlF t u _).mono ?_;rintro e w2 ⟨rfl,k2⟩))
 go_ret
 exact ⟨rfl,k2⟩
theorem qlM (t u:Tsk) (w:World) :
  Calls Tryz.prog 189 #[dI t,fI u] w fun e w'=>e = .returned (.bool true) /\ Keeps w w':=by
 have CA:=qdU
 have CB:=qdV
 go_enter Tryz.func189,Tryz.ntmps189
 go_wp2_with (first
  | (go_at_call 224;have k0:=CA;clear CA;refine (k0 _ _).mono ?_;rintro e w1 ⟨rfl,rfl⟩)
  | (go_at_call 224;refine (CB _ _).mono ?_;rintro e w1 ⟨rfl,rfl⟩))
 go_ret
 exact ⟨rfl,Keeps.refl _⟩
theorem qlN (t u:Tsk) (w:World) :
  Calls Tryz.prog 189 #[dI t,rI u] w fun e w'=>e = .returned (.bool true) /\ Keeps w w':=by
 have CA:=qdU
 have CB:=qdW
 go_enter Tryz.func189,Tryz.ntmps189
 go_wp2_with (first
  | (go_at_call 224;have k0:=CA;clear CA;refine (k0 _ _).mono ?_;rintro e w1 ⟨rfl,rfl⟩)
  | (go_at_call 224;refine (CB _ _).mono ?_;rintro e w1 ⟨rfl,rfl⟩))
 go_ret
 exact ⟨rfl,Keeps.refl _⟩
theorem qlO (t u:Tsk) (w:World) :
  Calls Tryz.prog 189 #[fI t,dI u] w fun e w'=>e = .returned (.bool false) /\ Keeps w w':=by
 have hm:=qhu t
 have hn:=qhv t
 have CA:=qdV
 have CB:=qdU
 go_enter Tryz.func189,Tryz.ntmps189
 go_wp2_with (first
  | (go_at_call 224;have k0:=CA;clear CA;refine (k0 _ _).mono ?_;rintro e w1 ⟨rfl,rfl⟩)
  | (go_at_call 224;refine (CB _ _).mono ?_;rintro e w1 ⟨rfl,rfl⟩)
  | (go_at_call 291;refine (qlG t u _).mono ?_;rintro e w2 ⟨rfl,k2⟩))
 go_ret
 exact ⟨rfl,k2⟩
theorem qlP (t u:Tsk) (w:World) :
  Calls Tryz.prog 189 #[fI t,fI u] w fun e w'=>e = .returned (.bool (qaS t.asFix u.asFix)) /\ Keeps w w':=by
 have hm:=qhu t
 have hn:=qhv t
 have CA:=qdV
 have CB:=qdV
 go_enter Tryz.func189,Tryz.ntmps189
 go_wp2_with (first
  | (go_at_call 224;have k0:=CA;clear CA;refine (k0 _ _).mono ?_;rintro e w1 ⟨rfl,rfl⟩)
  | (go_at_call 224;refine (CB _ _).mono ?_;rintro e w1 ⟨rfl,rfl⟩)
  | (go_at_call 291;refine (qlH t u _).mono ?_;rintro e w2 ⟨rfl,k2⟩))
 go_ret
 exact ⟨rfl,k2⟩
theorem qlQ (t u:Tsk) (w:World) :
  Calls Tryz.prog 189 #[fI t,rI u] w fun e w'=>e = .returned (.bool true) /\ Keeps w w':=by
 have CA:=qdV
 have CB:=qdW
 go_enter Tryz.func189,Tryz.ntmps189
 go_wp2_with (first
  | (go_at_call 224;have k0:=CA;clear CA;refine (k0 _ _).mono ?_;rintro e w1 ⟨rfl,rfl⟩)
  | (go_at_call 224;refine (CB _ _).mono ?_;rintro e w1 ⟨rfl,rfl⟩))
 go_ret
 exact ⟨rfl,Keeps.refl _⟩
theorem qlR (t u:Tsk) (w:World) :
  Calls Tryz.prog 189 #[rI t,dI u] w fun e w'=>e = .returned (.bool false) /\ Keeps w w':=by
 have hm:=qfM t
 have hn:=qfN t
 have CA:=qdW
 have CB:=qdU
 go_enter Tryz.func189,Tryz.ntmps189
 go_wp2_with (first
  | (go_at_call 224;have k0:=CA;clear CA;refine (k0 _ _).mono ?_;rintro e w1 ⟨rfl,rfl⟩)
  | (go_at_call 224;refine (CB _ _).mono ?_;rintro e w1 ⟨rfl,rfl⟩)
  | (go_at_call 284;refine (qlI t u _).mono ?_;rintro e w2 ⟨rfl,k2⟩))
 go_ret
 exact ⟨rfl,k2⟩
theorem qlS (t u:Tsk) (w:World) :
  Calls Tryz.prog 189 #[rI t,fI u] w fun e w'=>e = .returned (.bool false) /\ Keeps w w':=by
 have hm:=qfM t
 have hn:=qfN t
 have CA:=qdW
 have CB:=qdV
 go_enter Tryz.func189,Tryz.ntmps189
 go_wp2_with (first
  | (go_at_call 224;have k0:=CA;clear CA;refine (k0 _ _).mono ?_;rintro e w1 ⟨rfl,rfl⟩)
  | (go_at_call 224;refine (CB _ _).mono ?_;rintro e w1 ⟨rfl,rfl⟩)
  | (go_at_call 284;refine (qlJ t u _).mono ?_;rintro e w2 ⟨rfl,k2⟩))
 go_ret
 exact ⟨rfl,k2⟩
theorem qlT (t u:Tsk) (w:World) :
  Calls Tryz.prog 189 #[rI t,rI u] w fun e w'=>e = .returned (.bool (qaU t.asFair u.asFair)) /\ Keeps w w':=by
 have hm:=qfM t
 have hn:=qfN t
 have CA:=qdW
 have CB:=qdW
 go_enter Tryz.func189,Tryz.ntmps189
 go_wp2_with (first
  | (go_at_call 224;have k0:=CA;clear CA;refine (k0 _ _).mono ?_;rintro e w1 ⟨rfl,rfl⟩)
  | (go_at_call 224;refine (CB _ _).mono ?_;rintro e w1 ⟨rfl,rfl⟩)
  | (go_at_call 284;refine (qlK t u _).mono ?_;rintro e w2 ⟨rfl,k2⟩))
 go_ret
 exact ⟨rfl,k2⟩
def Cla (t:Tsk) (v:Value):Prop:=((t.cls==1)=true /\ v=dI t)∨((t.cls==2)=true /\ v=fI t)∨((t.cls==3)=true /\ v=rI t)
theorem qlU {t:Tsk} (h:qae t=true):(t.cls==1)=true∨((t.cls==1)=false /\ (t.cls==2)=true)∨((t.cls==1)=false /\ (t.cls==2)=false /\ (t.cls==3)=true):=by
 have:=qeK h
 simp only [beq_iff_eq,beq_eq_false_iff_ne,ne_eq]
 omega
theorem qfO {t:Tsk} (h:qae t=true) (w:World) :
  Calls Tryz.prog 190 #[tk t] w fun e w'=>∃ v,e = .returned v /\ Cla t v /\ Keeps w w':=by
 rcases qlU h with c1 | ⟨c1,c2⟩ | ⟨c1,c2,c3⟩
 ·exact (qlC t w c1).mono fun e w' ⟨he,k⟩=>⟨_,he,.inl ⟨c1,rfl⟩,k⟩
 ·exact (qlD t w c1 c2).mono fun e w' ⟨he,k⟩=>⟨_,he,.inr (.inl ⟨c2,rfl⟩),k⟩
 ·exact (qlE t w c1 c2).mono fun e w' ⟨he,k⟩=>⟨_,he,.inr (.inr ⟨c3,rfl⟩),k⟩
theorem qfP {a b:Tsk} (ha:qae a=true) (hb:qae b=true) (h:a.cls < b.cls):befB a b=true:=qdA.2 ⟨ha,hb,.inl h⟩
theorem qfQ {a b:Tsk} (h:b.cls < a.cls):befB a b=false:=by
 rw [Bool.eq_false_iff]
 intro h2
 have:=qdA.1 h2
 omega
theorem qlV {a b:Tsk} (ha:qae a=true) (hb:qae b=true) (ca:(a.cls==1)=true) (cb:(b.cls==1)=true):befB a b=qaT a b:=by
 simp only [beq_iff_eq] at ca cb
 unfold befB qaS qaU fixB qaC
 simp [ha,hb,ca,cb]
theorem qlW {a b:Tsk} (ha:qae a=true) (hb:qae b=true) (ca:(a.cls==2)=true) (cb:(b.cls==2)=true):befB a b=qaS a b:=by
 simp only [beq_iff_eq] at ca cb
 unfold befB qaT qaU dueB qaC
 simp [ha,hb,ca,cb]
theorem qlX {a b:Tsk} (ha:qae a=true) (hb:qae b=true) (ca:(a.cls==3)=true) (cb:(b.cls==3)=true):befB a b=qaU a b:=by
 simp only [beq_iff_eq] at ca cb
 unfold befB qaT qaS dueB fixB
 simp [ha,hb,ca,cb]
theorem qlY {a b:Tsk} (ha:qae a=true) (hb:qae b=true) {x y:Value} (hx:Cla a x) (hy:Cla b y) (w:World) :
  Calls Tryz.prog 189 #[x,y] w fun e w'=>e = .returned (.bool (befB a b)) /\ Keeps w w':=by
 rcases hx with ⟨c,rfl⟩ | ⟨c,rfl⟩ | ⟨c,rfl⟩ <;> rcases hy with ⟨d,rfl⟩ | ⟨d,rfl⟩ | ⟨d,rfl⟩
 ·have:=qlL a b w
  rw [qho ha c,qho hb d] at this
  rw [qlV ha hb c d]
  exact this
 ·rw [qfP ha hb (by simp at c d;omega)];exact qlM a b w
 ·rw [qfP ha hb (by simp at c d;omega)];exact qlN a b w
 ·rw [qfQ (by simp at c d;omega)];exact qlO a b w
 ·have:=qlP a b w
  rw [qhp ha c,qhp hb d] at this
  rw [qlW ha hb c d]
  exact this
 ·rw [qfP ha hb (by simp at c d;omega)];exact qlQ a b w
 ·rw [qfQ (by simp at c d;omega)];exact qlR a b w
 ·rw [qfQ (by simp at c d;omega)];exact qlS a b w
 ·have:=qlT a b w
  rw [qhq ha c,qhq hb d] at this
  rw [qlX ha hb c d]
  exact this
set_option maxHeartbeats 2000000 in
theorem qfR:qnj:=by
 intro a b w
 go_enter Tryz.func149,Tryz.ntmps149
 go_wp2_with fail
 have kW:Keeps w ((w.alloc (.cells (tc a) 47)).alloc (.cells (tc b) 47)):=((Keeps.refl w).alloc _).alloc _
 have r1:∀ w',Keeps ((w.alloc (.cells (tc a) 47)).alloc (.cells (tc b) 47)) w'->∀ k,w'.cell? ⟨w.heap.size,k,none⟩=(tc a)[k]?:=fun w' h=>(((Blk.new w (tc a) 47).alloc _).keeps h).cells
 have r2:∀ w',Keeps ((w.alloc (.cells (tc a) 47)).alloc (.cells (tc b) 47)) w'->∀ k,w'.cell? ⟨w.heap.size+1,k,none⟩=(tc b)[k]?:=fun w' h=>by
  have:=(Blk.new (w.alloc (.cells (tc a) 47)) (tc b) 47).keeps h
  simp only [World.size_alloc] at this
  exact this.cells
 generalize (w.alloc (.cells (tc a) 47)).alloc (.cells (tc b) 47)=W at *
 have K0:=Keeps.refl W
 have TA:Hid (∀ w,Calls Tryz.prog 83 #[tk a] w fun e w'=>e = .returned (.bool (qae a)) /\ Keeps w w'):=fun w=>qc7 a w
 have TB:Hid (∀ w,Calls Tryz.prog 83 #[tk b] w fun e w'=>e = .returned (.bool (qae b)) /\ Keeps w w'):=fun w=>qc7 b w
 cases ha:qae a
 ·have Hr:Hid (befB a b=false):=by show _=_;simp [befB,ha]
  rw [ha] at TA
  refine wp_region_held_drew (S:=(fun w'=>Keeps W w')) (by kernel_rfl) ?_ (fun hHeld => ?_)
  ·exact K0.drew
  refine qan 0 (v := ?_) (by simp only [qab];rfl) (by kernel_rfl) (by exact fun _ _ _ h=>h) (by rfl) (by assumption) ?_ ?_
  rotate_left
  ·(intro w _;go_simp;try (with_reducible rfl))
  try simp only [qaa]
  refine qad 1 (by kernel_rfl) (by simp only [qab];rfl) (fun K hK => ?_)
  go_simp
  first
   | (go_at_call 83;refine (TA.out _).mono ?_;rintro e w1 ⟨rfl,k1⟩)
  try go_wp2_with fail
  refine hK.out _ _ ?_ (fun hHeld => ?_)
  ·exact Keeps.trans (by assumption) (by assumption)
  clear hK K
  try simp only [qaa]
  refine qan 2 (v := ?_) (by simp only [qab];rfl) (by kernel_rfl) (by exact fun _ _ _ h=>h) (by rfl) (by assumption) ?_ ?_
  rotate_left
  ·(intro w _;go_simp;try (with_reducible rfl))
  try simp only [qaa]
  refine Plan.go [3,4] ?_
  iterate 2 (refine qaq (by simp only [qab];rfl) (by kernel_rfl) (by exact fun _ _ _ h=>h) (by rfl) (by assumption) ?_;try simp only [qaa])
  refine Plan.nil ?_
  refine Plan.go [5,6] ?_
  iterate 2 (refine qac (by simp only [qab];rfl) (by kernel_rfl) (by exact fun _ _ _ h=>h) (by rfl) (by assumption) (fun w _=>by go_simp;try (with_reducible rfl)) ?_;try simp only [qaa])
  refine Plan.nil ?_
  refine Plan.go [7,8,9,10,11] ?_
  iterate 5 (refine qaq (by simp only [qab];rfl) (by kernel_rfl) (by exact fun _ _ _ h=>h) (by rfl) (by assumption) ?_;try simp only [qaa])
  refine Plan.nil ?_
  refine Plan.go [12,13] ?_
  iterate 2 (refine qac (by simp only [qab];rfl) (by kernel_rfl) (by exact fun _ _ _ h=>h) (by rfl) (by assumption) (fun w _=>by go_simp;try (with_reducible rfl)) ?_;try simp only [qaa])
  refine Plan.nil ?_
  refine wpAnyH_done (by kernel_rfl) ?_ _
  have K1:Keeps W w1:=by assumption
  go_wp2
  go_ret
  exact ⟨by rw [Hr.out];rfl,kW.trans K1⟩
 cases hb:qae b
 ·have Hr:Hid (befB a b=false):=by show _=_;simp [befB,hb]
  rw [ha] at TA
  rw [hb] at TB
  refine wp_region_held_drew (S:=(fun w'=>Keeps W w')) (by kernel_rfl) ?_ (fun hHeld => ?_)
  ·exact K0.drew
  refine qan 0 (v := ?_) (by simp only [qab];rfl) (by kernel_rfl) (by exact fun _ _ _ h=>h) (by rfl) (by assumption) ?_ ?_
  rotate_left
  ·(intro w _;go_simp;try (with_reducible rfl))
  try simp only [qaa]
  refine qad 1 (by kernel_rfl) (by simp only [qab];rfl) (fun K hK => ?_)
  go_simp
  first
   | (go_at_call 83;have k0:=TA;clear TA;refine (k0.out _).mono ?_;rintro e w1 ⟨rfl,k1⟩)
   | (go_at_call 83;refine (TB.out _).mono ?_;rintro e w2 ⟨rfl,k2⟩)
  try go_wp2_with fail
  refine hK.out _ _ ?_ (fun hHeld => ?_)
  ·exact Keeps.trans (by assumption) (by assumption)
  clear hK K
  try simp only [qaa]
  refine Plan.go [2,3] ?_
  iterate 2 (refine qac (by simp only [qab];rfl) (by kernel_rfl) (by exact fun _ _ _ h=>h) (by rfl) (by assumption) (fun w _=>by go_simp;try (with_reducible rfl)) ?_;try simp only [qaa])
  refine Plan.nil ?_
  refine qad 4 (by kernel_rfl) (by simp only [qab];rfl) (fun K hK => ?_)
  go_simp
  first
   | (go_at_call 83;have k0:=TA;clear TA;refine (k0.out _).mono ?_;rintro e w1 ⟨rfl,k1⟩)
   | (go_at_call 83;refine (TB.out _).mono ?_;rintro e w2 ⟨rfl,k2⟩)
  try go_wp2_with fail
  refine hK.out _ _ ?_ (fun hHeld => ?_)
  ·exact Keeps.trans (by assumption) (by assumption)
  clear hK K
  try simp only [qaa]
  refine Plan.go [5,6] ?_
  iterate 2 (refine qac (by simp only [qab];rfl) (by kernel_rfl) (by exact fun _ _ _ h=>h) (by rfl) (by assumption) (fun w _=>by go_simp;try (with_reducible rfl)) ?_;try simp only [qaa])
  refine Plan.nil ?_
  refine Plan.go [7,8,9,10,11] ?_
  iterate 5 (refine qaq (by simp only [qab];rfl) (by kernel_rfl) (by exact fun _ _ _ h=>h) (by rfl) (by assumption) ?_;try simp only [qaa])
  refine Plan.nil ?_
  refine Plan.go [12,13] ?_
  iterate 2 (refine qac (by simp only [qab];rfl) (by kernel_rfl) (by exact fun _ _ _ h=>h) (by rfl) (by assumption) (fun w _=>by go_simp;try (with_reducible rfl)) ?_;try simp only [qaa])
  refine Plan.nil ?_
  refine wpAnyH_done (by kernel_rfl) ?_ _
  have K2:Keeps W w2:=by assumption
  go_wp2
  go_ret
  exact ⟨by rw [Hr.out];rfl,kW.trans K2⟩
 ·have OA:Hid (∀ w,Calls Tryz.prog 190 #[tk a] w fun e w'=>∃ v,e = .returned v /\ Cla a v /\ Keeps w w'):=fun w=>qfO ha w
  have OB:Hid (∀ w,Calls Tryz.prog 190 #[tk b] w fun e w'=>∃ v,e = .returned v /\ Cla b v /\ Keeps w w'):=fun w=>qfO hb w
  have GG:Hid (∀ x y w,Cla a x->Cla b y->Calls Tryz.prog 189 #[x,y] w fun e w'=>e = .returned (.bool (befB a b)) /\ Keeps w w'):=fun x y w hx hy=>qlY ha hb hx hy w
  obtain ⟨z,Hz⟩:∃ z,Hid (befB a b=z):=⟨_,rfl⟩
  rw [Hz.out] at GG
  rw [ha] at TA
  rw [hb] at TB
  clear ha hb
  refine wp_region_held_drew (S:=(fun w'=>Keeps W w')) (by kernel_rfl) ?_ (fun hHeld => ?_)
  ·exact K0.drew
  refine qan 0 (v := ?_) (by simp only [qab];rfl) (by kernel_rfl) (by exact fun _ _ _ h=>h) (by rfl) (by assumption) ?_ ?_
  rotate_left
  ·(intro w _;go_simp;try (with_reducible rfl))
  try simp only [qaa]
  refine qad 1 (by kernel_rfl) (by simp only [qab];rfl) (fun K hK => ?_)
  go_simp
  first
   | (go_at_call 83;have k0:=TA;clear TA;refine (k0.out _).mono ?_;rintro e w1 ⟨rfl,k1⟩)
   | (go_at_call 83;refine (TB.out _).mono ?_;rintro e w2 ⟨rfl,k2⟩)
   | (go_at_call 190;have k0:=OA;clear OA;refine (k0.out _).mono ?_;rintro e w3 ⟨x,rfl,hx,k3⟩)
   | (go_at_call 190;refine (OB.out _).mono ?_;rintro e w4 ⟨y,rfl,hy,k4⟩)
   | (go_at_call 189;refine (GG.out _ _ _ hx hy).mono ?_;rintro e w5 ⟨rfl,k5⟩)
  try go_wp2_with fail
  refine hK.out _ _ ?_ (fun hHeld => ?_)
  ·exact Keeps.trans (by assumption) (by assumption)
  clear hK K
  try simp only [qaa]
  refine Plan.go [2,3] ?_
  iterate 2 (refine qac (by simp only [qab];rfl) (by kernel_rfl) (by exact fun _ _ _ h=>h) (by rfl) (by assumption) (fun w _=>by go_simp;try (with_reducible rfl)) ?_;try simp only [qaa])
  refine Plan.nil ?_
  refine qad 4 (by kernel_rfl) (by simp only [qab];rfl) (fun K hK => ?_)
  go_simp
  first
   | (go_at_call 83;have k0:=TA;clear TA;refine (k0.out _).mono ?_;rintro e w1 ⟨rfl,k1⟩)
   | (go_at_call 83;refine (TB.out _).mono ?_;rintro e w2 ⟨rfl,k2⟩)
   | (go_at_call 190;have k0:=OA;clear OA;refine (k0.out _).mono ?_;rintro e w3 ⟨x,rfl,hx,k3⟩)
   | (go_at_call 190;refine (OB.out _).mono ?_;rintro e w4 ⟨y,rfl,hy,k4⟩)
   | (go_at_call 189;refine (GG.out _ _ _ hx hy).mono ?_;rintro e w5 ⟨rfl,k5⟩)
  try go_wp2_with fail
  refine hK.out _ _ ?_ (fun hHeld => ?_)
  ·exact Keeps.trans (by assumption) (by assumption)
  clear hK K
  try simp only [qaa]
  refine Plan.go [5,6,7,9] ?_
  iterate 4 (refine qac (by simp only [qab];rfl) (by kernel_rfl) (by exact fun _ _ _ h=>h) (by rfl) (by assumption) (fun w _=>by go_simp;try (with_reducible rfl)) ?_;try simp only [qaa])
  refine Plan.nil ?_
  refine qad 8 (by kernel_rfl) (by simp only [qab];rfl) (fun K hK => ?_)
  go_simp
  first
   | (go_at_call 83;have k0:=TA;clear TA;refine (k0.out _).mono ?_;rintro e w1 ⟨rfl,k1⟩)
   | (go_at_call 83;refine (TB.out _).mono ?_;rintro e w2 ⟨rfl,k2⟩)
   | (go_at_call 190;have k0:=OA;clear OA;refine (k0.out _).mono ?_;rintro e w3 ⟨x,rfl,hx,k3⟩)
   | (go_at_call 190;refine (OB.out _).mono ?_;rintro e w4 ⟨y,rfl,hy,k4⟩)
   | (go_at_call 189;refine (GG.out _ _ _ hx hy).mono ?_;rintro e w5 ⟨rfl,k5⟩)
  try go_wp2_with fail
  refine hK.out _ _ ?_ (fun hHeld => ?_)
  ·exact Keeps.trans (by assumption) (by assumption)
  clear hK K
  try simp only [qaa]
  refine qad 10 (by kernel_rfl) (by simp only [qab];rfl) (fun K hK => ?_)
  go_simp
  first
   | (go_at_call 83;have k0:=TA;clear TA;refine (k0.out _).mono ?_;rintro e w1 ⟨rfl,k1⟩)
   | (go_at_call 83;refine (TB.out _).mono ?_;rintro e w2 ⟨rfl,k2⟩)
   | (go_at_call 190;have k0:=OA;clear OA;refine (k0.out _).mono ?_;rintro e w3 ⟨x,rfl,hx,k3⟩)
   | (go_at_call 190;refine (OB.out _).mono ?_;rintro e w4 ⟨y,rfl,hy,k4⟩)
   | (go_at_call 189;refine (GG.out _ _ _ hx hy).mono ?_;rintro e w5 ⟨rfl,k5⟩)
  try go_wp2_with fail
  refine hK.out _ _ ?_ (fun hHeld => ?_)
  ·exact Keeps.trans (by assumption) (by assumption)
  clear hK K
  try simp only [qaa]
  refine qad 11 (by kernel_rfl) (by simp only [qab];rfl) (fun K hK => ?_)
  go_simp
  first
   | (go_at_call 83;have k0:=TA;clear TA;refine (k0.out _).mono ?_;rintro e w1 ⟨rfl,k1⟩)
   | (go_at_call 83;refine (TB.out _).mono ?_;rintro e w2 ⟨rfl,k2⟩)
   | (go_at_call 190;have k0:=OA;clear OA;refine (k0.out _).mono ?_;rintro e w3 ⟨x,rfl,hx,k3⟩)
   | (go_at_call 190;refine (OB.out _).mono ?_;rintro e w4 ⟨y,rfl,hy,k4⟩)
   | (go_at_call 189;refine (GG.out _ _ _ hx hy).mono ?_;rintro e w5 ⟨rfl,k5⟩)
  try go_wp2_with fail
  refine hK.out _ _ ?_ (fun hHeld => ?_)
  ·exact Keeps.trans (by assumption) (by assumption)
  clear hK K
  try simp only [qaa]
  refine Plan.go [12,13] ?_
  iterate 2 (refine qac (by simp only [qab];rfl) (by kernel_rfl) (by exact fun _ _ _ h=>h) (by rfl) (by assumption) (fun w _=>by go_simp;try (with_reducible rfl)) ?_;try simp only [qaa])
  refine Plan.nil ?_
  refine wpAnyH_done (by kernel_rfl) ?_ _
  have K5:Keeps W w5:=by assumption
  go_wp2
  go_ret
  exact ⟨by rw [Hz.out];rfl,kW.trans K5⟩
theorem qlZ {t:Tsk} {x:Value} (hx:Cla t x) (w:World) :
  Calls Tryz.prog 192 #[x] w fun e w'=>e = .returned (.bool (mayB t)) /\ Keeps w w':=by
 have q1:=qhr
 have q2:=qhs
 have q3:=qht
 rcases hx with ⟨c,rfl⟩ | ⟨c,rfl⟩ | ⟨c,rfl⟩
 ·have Hr:Hid (mayB t=decide (0 < t.left)):=by show _=_;unfold mayB;simp at c;simp [c]
  go_enter Tryz.func192,Tryz.ntmps192
  go_wp2
  go_ret
  exact ⟨by rw [Hr.out];rfl,(Keeps.refl w).alloc _⟩
 ·have Hr:Hid (mayB t=true):=by show _=_;unfold mayB;simp at c;simp [c]
  go_enter Tryz.func192,Tryz.ntmps192
  go_wp2
  go_ret
  exact ⟨by rw [Hr.out];rfl,(Keeps.refl w).alloc _⟩
 ·have Hr:Hid (mayB t=true):=by show _=_;unfold mayB;simp at c;simp [c]
  go_enter Tryz.func192,Tryz.ntmps192
  go_wp2
  go_ret
  exact ⟨by rw [Hr.out];rfl,(Keeps.refl w).alloc _⟩
theorem OnT.pTaskAt {w w':World} {a:Option Addr} {n cap:Nat} {ts:List Tsk} (h:OnT w a n cap ts) (x:Int) {z:Int} (hz:qar ts x=z) (k:Keeps w w'):Calls Tryz.prog 17 #[.slice a n cap,.int .i64 x] w' fun e w''=>e = .returned (.int .i64 z) /\ Keeps w' w'':=by
 have:=qhG a cap ts x w' h.small (h.keeps k).lies
 rw [h.len,hz] at this
 exact this
theorem OnT.pTasksOk {w w':World} {a:Option Addr} {n cap:Nat} {ts:List Tsk} (h:OnT w a n cap ts) {z:Bool} (hz:qao ts=z) (k:Keeps w w'):Calls Tryz.prog 173 #[.slice a n cap] w' fun e w''=>e = .returned (.bool z) /\ Keeps w' w'':=by
 have:=qhH a cap ts w' h.small (h.keeps k).lies
 rw [h.len,hz] at this
 exact this
theorem qhw {w:World} {a:Option Addr} {n cap:Nat} {ts:List Tsk} (h:OnT w a n cap ts) {x:Int} (hx:qag ts x=true) :
  Calls Tryz.prog 225 #[.slice a n cap,.int .i64 x] w fun e w'=>e = .returned (.bool ((tAt ts x).st==1)) /\ Keeps w w':=by
 have H:Hid (OnT w a n cap ts):=h
 obtain ⟨k,b,o,hk,e,Hk,-,-,-,r1⟩:=h.there hx
 subst e
 have HK:Hid (qar ts x=(k:Int)):=Hk
 clear h hx Hk
 have hk':(k:Int) < (n:Int):=by omega
 go_enter Tryz.func225,Tryz.ntmps225
 go_wp2_with (go_at_call 17;refine (H.out.pTaskAt x HK.out (Keeps.refl _)).mono ?_;rintro e w1 ⟨rfl,k1⟩)
 go_ret
 exact ⟨rfl,k1⟩
def qds (C:List Int) (k:Nat):Int:=if k=0 then 0 else C.getD (k - 1) 0
theorem ql0 {C:List Int} {k:Nat} {x:Int} (h:C[k]?=some x):qds C (k+1)=x:=by
 unfold qds
 rw [if_neg (by omega),Nat.add_sub_cancel,List.getD_eq_getElem?_getD,h]
 rfl
theorem ql1 {ts:List Tsk} {ls:List Lk} {no:Int} (ht:qao ts=true):qa1 ts ls no=if (qaR ls no).all (qag ts) then qds (qaR ls no) (qaR ls no).length else 0:=by
 unfold qa1 qaV qaR
 rw [ht]
 cases hb:qav ls
 ·simp [qds]
 ·simp only [Bool.and_self,if_true]
  unfold qa6
  have:=qfg ls no
  change (if (qbA ls no).all (qag ts)=true then qcM (qbA ls no) else 0)=if (qbA ls no).all (qag ts)=true then qds (qbA ls no) (qbA ls no).length else 0
  unfold qcM qds
  rw [if_neg (show ¬ (qbA ls no).length=0 by omega)]
set_option maxHeartbeats 2000000 in
theorem ql2:qnk:=by
 intro w a n cap ts b m cap2 ls no hcap h2
 have H:Hid (Two w a n cap ts b m cap2 ls):=h2
 have CH:Hid (∀ w',Keeps w w'->Calls Tryz.prog 193 #[.slice b m cap2,.int .i64 no] w' fun e w''=>∃ v,e = .returned v /\ OwnN w'' w'.heap.size v (qaR ls no) /\ Keeps w' w''):=fun w' k=>by
  have:=qls b cap2 ls no w' h2.l.size (h2.l.keeps k).lks
  rw [h2.l.len] at this
  exact this
 clear h2 hcap
 cases ht:qao ts
 ·have Hr:Hid (qa1 ts ls no=0):=by show _=_;unfold qa1 qaV;rw [ht];rfl
  go_enter Tryz.func152,Tryz.ntmps152
  go_wp2_with (go_at_call 173;refine (H.out.t.pTasksOk ht (Keeps.refl _)).mono ?_;rintro e w1 ⟨rfl,k1⟩)
  go_ret
  exact ⟨by rw [Hr.out];rfl,k1⟩
 have hE:=ql1 (ls:=ls) (no:=no) ht
 obtain ⟨C,HC⟩:∃ C,Hid (qaR ls no=C):=⟨_,rfl⟩
 rw [HC.out] at CH hE
 have HE:Hid (qa1 ts ls no=if C.all (qag ts) then qds C C.length else 0):=hE
 clear hE HC
 go_enter Tryz.func152,Tryz.ntmps152
 go_wp2_with fail
 refine (H.out.t.pTasksOk ht (Keeps.refl _)).mono ?_
 rintro e w1 ⟨rfl,k1⟩
 go_wp2_with fail
 refine (CH.out _ k1).mono ?_
 rintro e w2 ⟨v,rfl,o2,k2⟩
 obtain ⟨av,cv,rfl,nv,l1,l2⟩:=OwnN.ns o2
 have NV:Hid (Ns w2 av C):=nv
 have K2:Hid (Keeps w w2):=k1.trans k2
 obtain ⟨q,Hq⟩:∃ q,Hid (C.length=q):=⟨_,rfl⟩
 rw [Hq.out] at l1 ⊢
 have hq:q <= maxLen:=by omega
 unfold maxLen at hq
 clear o2 nv k1 k2 l2
 go_wp2
 go_loopw [7,17] (fun l i wr=>∃ (k:Nat) (z:Int),k <= q /\ i = .int .i64 k /\ l = .int .i64 z /\ Hid (qds C k=z) /\ Keeps w2 wr /\ Hid (∀ j x,j < k->C[j]?=some x->qag ts x=true)) (fun _ i _=>q - (intOf i).toNat)
 case atStart=>exact ⟨0,0,Nat.zero_le _,rfl,rfl,rfl,Keeps.refl _,fun j x hj=>by omega⟩
 case round =>
  obtain ⟨k,z,hk,rfl,rfl,Hl,hK,HH⟩:=hrel
  by_cases hlt:k < q
  ·have hlt':(k:Int) < (q:Int):=by omega
   obtain ⟨x,hx⟩:=qai (xs:=C) (k:=k) (by rw [Hq.out];exact hlt)
   obtain ⟨bc,oc,rfl,r0⟩:=NV.out.at hx
   have Hx:Hid (C[k]?=some x):=hx
   clear hx
   obtain ⟨y,Hy⟩:∃ y,Hid (qar ts x=y):=⟨_,rfl⟩
   cases hn:decide (y < 0)
   ·have hth:qag ts x=true:=by unfold qag;rw [Hy.out,hn];rfl
    go_wp2_with (go_at_call 17;refine (H.out.t.pTaskAt x Hy.out (K2.out.trans hK)).mono ?_;rintro e w3 ⟨rfl,k3⟩)
    exact ⟨⟨k+1,x,by omega,by go_num,rfl,ql0 Hx.out,hK.trans k3,fun j y hj hy=>by
     by_cases e:j=k
     ·subst e;rw [Hx.out] at hy;cases hy;exact hth
     ·exact HH.out j y (by omega) hy⟩,by simp only [intOf];omega⟩
   ·have hth:qag ts x=false:=by unfold qag;rw [Hy.out,hn];rfl
    have Hr:Hid (qa1 ts ls no=0):=by
     show _=_
     rw [HE.out,if_neg]
     rw [List.all_eq_true]
     intro h
     have:=h x (List.mem_of_getElem? Hx.out)
     rw [hth] at this
     cases this
    go_wp2_with (go_at_call 17;refine (H.out.t.pTaskAt x Hy.out (K2.out.trans hK)).mono ?_;rintro e w3 ⟨rfl,k3⟩)
    go_ret
    exact ⟨by rw [Hr.out];rfl,K2.out.trans (hK.trans k3)⟩
  ·have Hr:Hid (qa1 ts ls no=z):=by
    show _=_
    obtain rfl:k=q:=by omega
    rw [HE.out,if_pos,Hq.out]
    ·exact Hl.out
    ·rw [List.all_eq_true]
     intro x hx
     obtain ⟨j,hj,rfl⟩:=List.mem_iff_getElem.1 hx
     exact HH.out j _ (by rw [Hq.out] at hj;omega) (List.getElem?_eq_getElem hj)
   go_wp2
   go_ret
   exact ⟨by rw [Hr.out];rfl,K2.out.trans hK⟩
theorem Two.pExec {w w':World} {a:Option Addr} {n cap:Nat} {ts:List Tsk} {b:Option Addr} {m cap2:Nat} {ls:List Lk} (h:Two w a n cap ts b m cap2 ls) (hn:n <= cap) (no:Int) {z:Int} (hz:qa1 ts ls no=z) (k:Keeps w w'):Calls Tryz.prog 152 #[.slice a n cap,.slice b m cap2,.int .i64 no] w' fun e w''=>e = .returned (.int .i64 z) /\ Keeps w' w'':=by
 have:=ql2 w' a n cap ts b m cap2 ls no hn (h.keeps k)
 rw [hz] at this
 exact this
theorem ql3 {ts:List Tsk} {ls:List Lk} {no:Int} (h:(qa1 ts ls no != 0)=true):qaV ts ls=true /\ qa6 ts ls no=qa1 ts ls no /\ qag ts no=true /\ qag ts (qa1 ts ls no)=true:=by
 have hb:qaV ts ls=true:=by
  cases hb:qaV ts ls
  ·unfold qa1 at h;rw [hb] at h;simp at h
  ·rfl
 have he:qa6 ts ls no=qa1 ts ls no:=by unfold qa1;rw [hb];rfl
 have:=qeL (ts:=ts) (ls:=ls) (no:=no) (by rw [he];exact h)
 rw [he] at this
 exact ⟨hb,he,this.2.2.1,this.2.2.2⟩
theorem ql4 (ts:List Tsk) (ls:List Lk) (no:Int):qcn ts ls no=(qa1 ts ls no != 0&&((tAt ts no).st==1&&(tAt ts (qa1 ts ls no)).st==1)):=by
 unfold qcn qbF qa1
 cases hb:qaV ts ls
 ·simp
 ·simp
set_option maxHeartbeats 2000000 in
theorem ql5:qnl:=by
 intro w a n cap ts b m cap2 ls no hcap h2
 have H:Hid (Two w a n cap ts b m cap2 ls):=h2
 have HN:Hid (n <= cap):=hcap
 clear h2 hcap
 have HA:=ql4 ts ls no
 obtain ⟨x,Hx⟩:∃ x,Hid (qa1 ts ls no=x):=⟨_,rfl⟩
 have EB:=ql3 (ts:=ts) (ls:=ls) (no:=no)
 rw [Hx.out] at HA EB
 have Hr:Hid (qcn ts ls no=(x != 0&&((tAt ts no).st==1&&(tAt ts x).st==1))):=HA
 clear HA
 cases hx:(x != 0)
 ·have Hr2:Hid (qcn ts ls no=false):=by show _=_;rw [Hr.out,hx];rfl
  go_enter Tryz.func191,Tryz.ntmps191
  go_wp2_with (go_at_call 152;refine (H.out.pExec HN.out no Hx.out (Keeps.refl _)).mono ?_;rintro e w1 ⟨rfl,k1⟩)
  go_ret
  exact ⟨by rw [Hr2.out];rfl,k1⟩
 have E2:=EB hx
 clear EB
 have R1:Hid (∀ w',Keeps w w'->Calls Tryz.prog 225 #[.slice a n cap,.int .i64 no] w' fun e w''=>e = .returned (.bool ((tAt ts no).st==1)) /\ Keeps w' w''):=fun w' k=>qhw (H.out.t.keeps k) E2.2.2.1
 have R2:Hid (∀ w',Keeps w w'->Calls Tryz.prog 225 #[.slice a n cap,.int .i64 x] w' fun e w''=>e = .returned (.bool ((tAt ts x).st==1)) /\ Keeps w' w''):=fun w' k=>qhw (H.out.t.keeps k) E2.2.2.2
 clear E2
 cases h1:((tAt ts no).st==1)
 ·have Hr2:Hid (qcn ts ls no=false):=by show _=_;rw [Hr.out,h1,Bool.false_and,Bool.and_false]
  rw [h1] at R1
  go_enter Tryz.func191,Tryz.ntmps191
  go_wp2_with (first
   | (go_at_call 152;refine (H.out.pExec HN.out no Hx.out (Keeps.refl _)).mono ?_;rintro e w1 ⟨rfl,k1⟩)
   | (go_at_call 225;refine (R1.out _ k1).mono ?_;rintro e w2 ⟨rfl,k2⟩;have K2:=k1.trans k2))
  go_ret
  exact ⟨by rw [Hr2.out];rfl,K2⟩
 ·have Hr2:Hid (qcn ts ls no=((tAt ts x).st==1)):=by show _=_;rw [Hr.out,hx,h1];rfl
  rw [h1] at R1
  go_enter Tryz.func191,Tryz.ntmps191
  go_wp2_with (first
   | (go_at_call 152;refine (H.out.pExec HN.out no Hx.out (Keeps.refl _)).mono ?_;rintro e w1 ⟨rfl,k1⟩)
   | (go_at_call 225;have k0:=k1;clear k1;refine (R1.out _ k0).mono ?_;rintro e w2 ⟨rfl,k2⟩;have K2:=k0.trans k2)
   | (go_at_call 225;refine (R2.out _ K2).mono ?_;rintro e w3 ⟨rfl,k3⟩;have K3:=K2.trans k3))
  go_ret
  exact ⟨by rw [Hr2.out];rfl,K3⟩
theorem Two.pAble {w w':World} {a:Option Addr} {n cap:Nat} {ts:List Tsk} {b:Option Addr} {m cap2:Nat} {ls:List Lk} (h:Two w a n cap ts b m cap2 ls) (hn:n <= cap) (no:Int) {z:Bool} (hz:qcn ts ls no=z) (k:Keeps w w'):Calls Tryz.prog 191 #[.slice a n cap,.slice b m cap2,.int .i64 no] w' fun e w''=>e = .returned (.bool z) /\ Keeps w' w'':=by
 have:=ql5 w' a n cap ts b m cap2 ls no hn (h.keeps k)
 rw [hz] at this
 exact this
theorem qhx (ts:List Tsk) (ls:List Lk) (no:Int):canP ts ls no=(qcn ts ls no&&mayB (tAt ts no)):=by
 unfold canP canB qcn
 rw [Bool.and_assoc]
set_option maxHeartbeats 2000000 in
theorem ql6:qnm:=by
 intro w a n cap ts b m cap2 ls no hcap h2
 have H:Hid (Two w a n cap ts b m cap2 ls):=h2
 have HN:Hid (n <= cap):=hcap
 clear h2 hcap
 cases hA:qcn ts ls no
 ·have Hr:Hid (canP ts ls no=false):=by show _=_;rw [qhx,hA];rfl
  go_enter Tryz.func150,Tryz.ntmps150
  go_wp2_with (go_at_call 191;refine (H.out.pAble HN.out no hA (Keeps.refl _)).mono ?_;rintro e w1 ⟨rfl,k1⟩)
  go_ret
  exact ⟨by rw [Hr.out];rfl,k1⟩
 ·have Hr:Hid (canP ts ls no=mayB (tAt ts no)):=by show _=_;rw [qhx,hA];rfl
  have hb:qaV ts ls=true /\ qbF ts ls no=true:=by unfold qcn at hA;simpa using hA
  have th:=(qig hb.2).1
  have htk:qao ts=true:=by have:=hb.1;unfold qaV at this;simp at this;exact this.1
  obtain ⟨k,b1,o1,hk,e,Hk,hk2,-,r0,r1⟩:=H.out.t.there th
  have htt:qae (tAt ts no)=true:=qct htk hk2
  subst e
  have HK:Hid (qar ts no=(k:Int)):=Hk
  have hk':(k:Int) < (n:Int):=by omega
  obtain ⟨t,Ht⟩:∃ t,Hid (tAt ts no=t):=⟨_,rfl⟩
  rw [Ht.out] at r0 r1 htt Hr
  have OC:Hid (∀ w,Calls Tryz.prog 190 #[tk t] w fun e w'=>∃ v,e = .returned v /\ Cla t v /\ Keeps w w'):=fun w=>qfO htt w
  clear Hk hk2 hb th htk htt
  go_enter Tryz.func150,Tryz.ntmps150
  go_wp2_with (first
   | (go_at_call 191;refine (H.out.pAble HN.out no hA (Keeps.refl _)).mono ?_;rintro e w1 ⟨rfl,k1⟩)
   | (go_at_call 17;refine (H.out.t.pTaskAt no HK.out k1).mono ?_;rintro e w2 ⟨rfl,k2⟩;have K2:=k1.trans k2)
   | (go_at_call 190;refine (OC.out _).mono ?_;rintro e w3 ⟨x,rfl,hx,k3⟩;have K3:=K2.trans k3)
   | (go_at_call 192;refine (qlZ hx _).mono ?_;rintro e w4 ⟨rfl,k4⟩;have K4:=K3.trans k4))
  go_ret
  exact ⟨by rw [Hr.out];rfl,K4⟩
theorem Two.pCan {w w':World} {a:Option Addr} {n cap:Nat} {ts:List Tsk} {b:Option Addr} {m cap2:Nat} {ls:List Lk} (h:Two w a n cap ts b m cap2 ls) (hn:n <= cap) (no:Int) {z:Bool} (hz:canP ts ls no=z) (k:Keeps w w'):Calls Tryz.prog 150 #[.slice a n cap,.slice b m cap2,.int .i64 no] w' fun e w''=>e = .returned (.bool z) /\ Keeps w' w'':=by
 have:=ql6 w' a n cap ts b m cap2 ls no hn (h.keeps k)
 rw [hz] at this
 exact this
end Go.Proofs.YthpdlbcdbncnhaaGreatDoor
