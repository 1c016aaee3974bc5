/-
  New tasks: contracts of the model's functions.
  A drawn task: the contracts of the model's draws.
  A drawn task that may be wrong in one field: the contract of the model's l3Draw.
  Drawn tasks: the contracts of the model's l3DrawList and DrawTaskPut.
  Ticks and calls, as plain functions.
  Ticks: who is awake on a processor.
-/
import Derived.Test.YtpikopdfkhagmaaGreatDoorTaskSpec
import Derived.Test.YtpikopdfkhagmaaGreatDoorCur
import Derived.Deep.DeepCutAuto
import Derived.Deep.CutBlock
import Derived.Test.YtpikopdfkhagmaaGreatDoorOwn
import Derived.Test.YtpikopdfkhagmaaGreatDoorTasksOkS
import Derived.Test.YtpikopdfkhagmaaGreatDoorPutC
import Derived.Test.YtpikopdfkhagmaaGreatDoorSum
import Derived.Test.YtpikopdfkhagmaaGreatDoorSysSame
namespace Go.Proofs.YtpikopdfkhagmaaGreatDoor
open Go.RowKit

/-- What a new task is, and whether. -/
def newT (t : Tsk) : Tsk := if taskB t then t else Tsk.zero

set_option maxHeartbeats 2000000 in
theorem l3New_any (t : Tsk) (w : World) :
    Calls Tryz.prog 111 #[tk t] w fun e w' => e = .returned (.tuple #[tk (newT t), .bool (taskB t)]) ∧ Keeps w w' := by
  go_enter Tryz.func111, Tryz.ntmps111
  go_wp2_with fail
  have kW : Keeps w ((w.alloc (.cells (tc t) 90)).alloc (.cells (tc Tsk.zero) 90)) := ((Keeps.refl _).alloc _).alloc _
  have B0 := (Blk.new w (tc t) 90).alloc (.cells (tc Tsk.zero) 90)
  have B1 := Blk.new (w.alloc (.cells (tc t) 90)) (tc Tsk.zero) 90
  rw [show (w.alloc (.cells (tc t) 90)).heap.size = w.heap.size + 1 by simp] at B1
  refine (specTaskOk_any t _).mono ?_
  rintro e w1 ⟨rfl, k1⟩
  have C0 := B0.keeps k1
  have C1 := B1.keeps k1
  have k2 := kW.trans k1
  clear B0 B1 k1 kW
  obtain ⟨_, r1, r2⟩ := C0
  have D1 : Hid (Blk w1 (w.heap.size + 1) (tc Tsk.zero)) := C1
  obtain ⟨_, r3, r4⟩ := C1
  cases hb : taskB t
  · have Hn : Hid (newT t = Tsk.zero) := by show _ = _; simp [newT, hb]
    have Hb : Hid (taskB t = false) := hb
    go_wp2
    have D := D1.out.putT Tsk.zero
    have K := k2.putT (b := w.heap.size + 1) (by omega) Tsk.zero
    change bodyPost _ _ _ _ _ (putT w1 (w.heap.size + 1) Tsk.zero)
    generalize putT w1 (w.heap.size + 1) Tsk.zero = X at D K ⊢
    exact bodyPost_ret (v := .tuple #[tk Tsk.zero, .bool false]) (by simp [results, Tryz.results111, go_sem, D.cells]) rfl ⟨by rw [Hn.out, Hb.out], K⟩
  · have Hn : Hid (newT t = t) := by show _ = _; simp [newT, hb]
    have Hb : Hid (taskB t = true) := hb
    go_wp2
    have D := D1.out.putT t
    have K := k2.putT (b := w.heap.size + 1) (by omega) t
    change bodyPost _ _ _ _ _ (putT w1 (w.heap.size + 1) t)
    generalize putT w1 (w.heap.size + 1) t = X at D K ⊢
    exact bodyPost_ret (v := .tuple #[tk t, .bool true]) (by simp [results, Tryz.results111, go_sem, D.cells]) rfl ⟨by rw [Hn.out, Hb.out], K⟩

/-- A new task with a deadline; with a priority; that shares fairly. -/
def dueT (no cpu q p now : Int) : Tsk := ⟨no, 1, cpu, 1, false, q, p, q, now + p, 0, 0, 0, 0, 0⟩
def fixT (no cpu prio round seq : Int) : Tsk := ⟨no, 2, cpu, 1, false, 0, 0, round, 0, prio, round, seq, 0, 0⟩
def fairT (no cpu nice v : Int) : Tsk := ⟨no, 3, cpu, 1, false, 0, 0, 0, 0, 0, 0, 0, nice, v⟩
/-- Whether there is one with a deadline. -/
def dueNewB (no cpu q p now : Int) : Bool := inB now 0 100000 && okB q p && taskB (dueT no cpu q p now)
def dueNewT (no cpu q p now : Int) : Tsk := if dueNewB no cpu q p now then dueT no cpu q p now else Tsk.zero

set_option maxHeartbeats 2000000 in
theorem specNewDue_any (no cpu q p now : Int) (w : World) :
    Calls Tryz.prog 91 #[.int .i64 no, .int .i64 cpu, .int .i64 q, .int .i64 p, .int .i64 now] w fun e w' => e = .returned (.tuple #[tk (dueNewT no cpu q p now), .bool (dueNewB no cpu q p now)]) ∧ Keeps w w' := by
  cases h1 : inB now 0 100000
  · have Hb : Hid (dueNewB no cpu q p now = false) := by show _ = _; simp [dueNewB, h1]
    have Hn : Hid (dueNewT no cpu q p now = Tsk.zero) := by show _ = _; simp [dueNewT, Hb.out]
    go_enter Tryz.func91, Tryz.ntmps91
    go_wp2_with (go_at_call 29; refine (l1In_any _ _ _ _).mono ?_; rintro e w' ⟨rfl, rfl⟩)
    exact bodyPost_ret (v := .tuple #[tk Tsk.zero, .bool false]) (by simp [results, Tryz.results91, go_sem, Tsk.zero]) rfl ⟨by rw [Hn.out, Hb.out], (Keeps.refl _).alloc _⟩
  · cases h2 : okB q p
    · have Hb : Hid (dueNewB no cpu q p now = false) := by show _ = _; simp [dueNewB, h2]
      have Hn : Hid (dueNewT no cpu q p now = Tsk.zero) := by show _ = _; simp [dueNewT, Hb.out]
      go_enter Tryz.func91, Tryz.ntmps91
      go_wp2_with (first
        | (go_at_call 29; refine (l1In_any _ _ _ _).mono ?_; rintro e w' ⟨rfl, rfl⟩)
        | (go_at_call 87; refine (specShareOk_any _ _ _).mono ?_; rintro e w' ⟨rfl, rfl⟩))
      exact bodyPost_ret (v := .tuple #[tk Tsk.zero, .bool false]) (by simp [results, Tryz.results91, go_sem, Tsk.zero]) rfl ⟨by rw [Hn.out, Hb.out], ((Keeps.refl _).alloc _).alloc _⟩
    · have Hb : Hid (dueNewB no cpu q p now = taskB (dueT no cpu q p now)) := by show _ = _; simp [dueNewB, h1, h2]
      have Hn : Hid (dueNewT no cpu q p now = newT (dueT no cpu q p now)) := by show _ = _; simp [dueNewT, newT, Hb.out]
      obtain ⟨i1, i2⟩ := inB_iff.1 h1
      obtain ⟨⟨i3, i4⟩, i5, i6⟩ := okB_iff.1 h2
      go_enter Tryz.func91, Tryz.ntmps91
      go_wp2_with (first
        | (go_at_call 29; refine (l1In_any _ _ _ _).mono ?_; rintro e w' ⟨rfl, rfl⟩)
        | (go_at_call 87; refine (specShareOk_any _ _ _).mono ?_; rintro e w' ⟨rfl, rfl⟩))
      refine (l3New_any (dueT no cpu q p now) _).mono ?_
      rintro e w1 ⟨rfl, k1⟩
      have B := ((Blk.new w (tc Tsk.zero) 90).alloc (.cells #[.int .i64 q, .int .i64 p] 127)).keeps k1
      have k2 : Keeps w w1 := (((Keeps.refl w).alloc _).alloc _).trans k1
      clear k1
      generalize newT (dueT no cpu q p now) = N at *
      generalize taskB (dueT no cpu q p now) = b at *
      have D1 : Hid (Blk w1 w.heap.size (tc Tsk.zero)) := B
      obtain ⟨_, r1, r2⟩ := B
      go_wp2
      have D := D1.out.putT N
      have K := k2.putT (b := w.heap.size) (by omega) N
      change bodyPost _ _ _ _ _ (putT w1 w.heap.size N)
      generalize putT w1 w.heap.size N = X at D K ⊢
      exact bodyPost_ret (v := .tuple #[tk N, .bool b]) (by simp [results, Tryz.results91, go_sem, D.cells]) rfl ⟨by rw [Hn.out, Hb.out], K⟩

set_option maxHeartbeats 2000000 in
theorem specNewFixed_any (no cpu prio round seq : Int) (w : World) :
    Calls Tryz.prog 92 #[.int .i64 no, .int .i64 cpu, .int .i64 prio, .int .i64 round, .int .i64 seq] w fun e w' => e = .returned (.tuple #[tk (newT (fixT no cpu prio round seq)), .bool (taskB (fixT no cpu prio round seq))]) ∧ Keeps w w' := by
  go_enter Tryz.func92, Tryz.ntmps92
  go_wp2_with fail
  refine (l3New_any (fixT no cpu prio round seq) _).mono ?_
  rintro e w1 ⟨rfl, k1⟩
  have B := (Blk.new w (tc Tsk.zero) 90).keeps k1
  have k2 : Keeps w w1 := ((Keeps.refl w).alloc _).trans k1
  clear k1
  obtain ⟨N, HN⟩ : ∃ N, Hid (newT (fixT no cpu prio round seq) = N) := ⟨_, rfl⟩
  obtain ⟨b, Hb⟩ : ∃ b, Hid (taskB (fixT no cpu prio round seq) = b) := ⟨_, rfl⟩
  rw [HN.out, Hb.out]
  have D1 : Hid (Blk w1 w.heap.size (tc Tsk.zero)) := B
  obtain ⟨_, r1, r2⟩ := B
  go_wp2
  have D := D1.out.putT N
  have K := k2.putT (b := w.heap.size) (by omega) N
  change bodyPost _ _ _ _ _ (putT w1 w.heap.size N)
  generalize putT w1 w.heap.size N = X at D K ⊢
  exact bodyPost_ret (v := .tuple #[tk N, .bool b]) (by simp [results, Tryz.results92, go_sem, D.cells]) rfl ⟨by rw [HN.out, Hb.out], K⟩

set_option maxHeartbeats 2000000 in
theorem specNewFair_any (no cpu nice v : Int) (w : World) :
    Calls Tryz.prog 89 #[.int .i64 no, .int .i64 cpu, .int .i64 nice, .int .i64 v] w fun e w' => e = .returned (.tuple #[tk (newT (fairT no cpu nice v)), .bool (taskB (fairT no cpu nice v))]) ∧ Keeps w w' := by
  go_enter Tryz.func89, Tryz.ntmps89
  go_wp2_with fail
  refine (l3New_any (fairT no cpu nice v) _).mono ?_
  rintro e w1 ⟨rfl, k1⟩
  have B := (Blk.new w (tc Tsk.zero) 90).keeps k1
  have k2 : Keeps w w1 := ((Keeps.refl w).alloc _).trans k1
  clear k1
  obtain ⟨N, HN⟩ : ∃ N, Hid (newT (fairT no cpu nice v) = N) := ⟨_, rfl⟩
  obtain ⟨b, Hb⟩ : ∃ b, Hid (taskB (fairT no cpu nice v) = b) := ⟨_, rfl⟩
  rw [HN.out, Hb.out]
  have D1 : Hid (Blk w1 w.heap.size (tc Tsk.zero)) := B
  obtain ⟨_, r1, r2⟩ := B
  go_wp2
  have D := D1.out.putT N
  have K := k2.putT (b := w.heap.size) (by omega) N
  change bodyPost _ _ _ _ _ (putT w1 w.heap.size N)
  generalize putT w1 w.heap.size N = X at D K ⊢
  exact bodyPost_ret (v := .tuple #[tk N, .bool b]) (by simp [results, Tryz.results89, go_sem, D.cells]) rfl ⟨by rw [HN.out, Hb.out], K⟩
end Go.Proofs.YtpikopdfkhagmaaGreatDoor
namespace Go.Proofs.YtpikopdfkhagmaaGreatDoor
open Go.RowKit

theorem Blk.but {g : Nat} {w w' : World} {b : Nat} {C : Array Value} (h : Blk w b C) (k : KeepsBut g w w') (hg : b ≠ g) : Blk w' b C :=
  ⟨Nat.lt_of_lt_of_le h.lt k.size, fun i => (k.cells b i h.lt hg).trans (h.cells i), fun i => (World.frozen?_of_block (w := w) (k.block b h.lt hg)).trans (h.frozens i)⟩
theorem Cur.putT {w : World} {g b : Nat} (h : Cur w g) (hb : g < b) (t : Tsk) : Cur (putT w b t) g := (((((((((((((h.setNew hb _ _).setNew hb _ _).setNew hb _ _).setNew hb _ _).setNew hb _ _).setNew hb _ _).setNew hb _ _).setNew hb _ _).setNew hb _ _).setNew hb _ _).setNew hb _ _).setNew hb _ _).setNew hb _ _).setNew hb _ _
theorem KeepsBut.putT {g b : Nat} {a w : World} (h : KeepsBut g a w) (hp : a.heap.size ≤ b) (t : Tsk) : KeepsBut g a (Go.Proofs.YtpikopdfkhagmaaGreatDoor.putT w b t) := (((((((((((((h.setNew hp _).setNew hp _).setNew hp _).setNew hp _).setNew hp _).setNew hp _).setNew hp _).setNew hp _).setNew hp _).setNew hp _).setNew hp _).setNew hp _).setNew hp _).setNew hp _

/-- While one is drawn: the cursor in block g, the answer's cell in r, the task in s. -/
structure DR (w W : World) (g r s : Nat) (t : Tsk) : Prop where
  cur : Cur W g
  kb : KeepsBut g w W
  res : Blk W r (tc Tsk.zero)
  box : Blk W s (tc t)
  gr : g < r
  rs : r < s
  wr : w.heap.size ≤ r
theorem DR.but {w W W' : World} {g r s : Nat} {t : Tsk} (h : DR w W g r s t) (k : KeepsBut g W W') (hc : Cur W' g) : DR w W' g r s t :=
  ⟨hc, h.kb.trans k, h.res.but k (by have := h.gr; omega), h.box.but k (by have := h.gr; have := h.rs; omega), h.gr, h.rs, h.wr⟩
theorem DR.keeps {w W W' : World} {g r s : Nat} {t : Tsk} (h : DR w W g r s t) (k : Keeps W W') : DR w W' g r s t := h.but (.of k) (h.cur.keeps k)
theorem DR.rules {w W : World} {g r s : Nat} {t : Tsk} (h : DR w W g r s t) : (∀ k, W.cell? ⟨s, k, none⟩ = (tc t)[k]?) ∧ (∀ k, W.cell? ⟨r, k, none⟩ = (tc Tsk.zero)[k]?) ∧ (∀ k, W.frozen? ⟨s, k, none⟩ = false) ∧ ∀ k, W.frozen? ⟨r, k, none⟩ = false :=
  ⟨h.box.cells, h.res.cells, h.box.frozens, h.res.frozens⟩
theorem DR.put {w W : World} {g r s : Nat} {t : Tsk} (h : DR w W g r s t) (u : Tsk) : DR w (putT W s u) g r s u :=
  ⟨h.cur.putT (by have := h.gr; have := h.rs; omega) u, h.kb.putT (by have := h.wr; have := h.rs; omega) u, h.res.farT (by have := h.rs; omega) u, h.box.putT u, h.gr, h.rs, h.wr⟩
theorem DR.cell {w W : World} {g r s : Nat} {t u : Tsk} (h : DR w W g r s t) (k : Nat) (hk : k < 14) (v : Value) (hu : tc u = (tc t).setIfInBounds k v) : DR w (W.setCell ⟨s, k, none⟩ v) g r s u :=
  ⟨h.cur.setNew (by have := h.gr; have := h.rs; omega) _ _, h.kb.setNew (by have := h.wr; have := h.rs; show _ ≤ s; omega) _, h.res.far (by have := h.rs; omega) _, by rw [hu]; exact h.box.set k hk v, h.gr, h.rs, h.wr⟩
theorem DR.st {w W : World} {g r s : Nat} {t : Tsk} (h : DR w W g r s t) (x : Int) : DR w (W.setCell ⟨s, 3, none⟩ (.int .i64 x)) g r s { t with st := x } := h.cell 3 (by decide) _ (by simp)
theorem DR.left {w W : World} {g r s : Nat} {t : Tsk} (h : DR w W g r s t) (x : Int) : DR w (W.setCell ⟨s, 7, none⟩ (.int .i64 x)) g r s { t with left := x } := h.cell 7 (by decide) _ (by simp)
theorem DR.idle {w W : World} {g r s : Nat} {t : Tsk} (h : DR w W g r s t) (x : Bool) : DR w (W.setCell ⟨s, 4, none⟩ (.bool x)) g r s { t with idle := x } := h.cell 4 (by decide) _ (by simp)
theorem DR.done {w W : World} {g r s : Nat} {t : Tsk} (h : DR w W g r s t) : Blk (putT W r t) r (tc t) ∧ Cur (putT W r t) g ∧ KeepsBut g w (putT W r t) :=
  ⟨h.res.putT t, h.cur.putT h.gr t, h.kb.putT h.wr t⟩
theorem DR.new {w W : World} {g : Nat} (hc : Cur W g) (hk : KeepsBut g w W) {r : Nat} (hr : Blk W r (tc Tsk.zero)) (hg : g < r) (hw : w.heap.size ≤ r) : DR w (W.alloc (.cells (tc Tsk.zero) 90)) g r W.heap.size Tsk.zero :=
  ⟨hc.keeps ((Keeps.refl _).alloc _), hk.alloc _, hr.alloc _, Blk.new _ _ _, hg, hr.lt, hw⟩

end Go.Proofs.YtpikopdfkhagmaaGreatDoor
namespace Go.Proofs.YtpikopdfkhagmaaGreatDoor
open Go.RowKit

theorem DR.no {w W : World} {g r s : Nat} {t : Tsk} (h : DR w W g r s t) (x : Int) : DR w (W.setCell ⟨s, 0, none⟩ (.int .i64 x)) g r s { t with no := x } := h.cell 0 (by decide) _ (by simp)
theorem DR.cpu {w W : World} {g r s : Nat} {t : Tsk} (h : DR w W g r s t) (x : Int) : DR w (W.setCell ⟨s, 2, none⟩ (.int .i64 x)) g r s { t with cpu := x } := h.cell 2 (by decide) _ (by simp)
theorem DR.cls {w W : World} {g r s : Nat} {t : Tsk} (h : DR w W g r s t) (x : Int) : DR w (W.setCell ⟨s, 1, none⟩ (.int .i64 x)) g r s { t with cls := x } := h.cell 1 (by decide) _ (by simp)
theorem DR.due {w W : World} {g r s : Nat} {t : Tsk} (h : DR w W g r s t) (x : Int) : DR w (W.setCell ⟨s, 8, none⟩ (.int .i64 x)) g r s { t with due := x } := h.cell 8 (by decide) _ (by simp)
theorem DR.v {w W : World} {g r s : Nat} {t : Tsk} (h : DR w W g r s t) (x : Int) : DR w (W.setCell ⟨s, 13, none⟩ (.int .i64 x)) g r s { t with v := x } := h.cell 13 (by decide) _ (by simp)
theorem DR.prio {w W : World} {g r s : Nat} {t : Tsk} (h : DR w W g r s t) (x : Int) : DR w (W.setCell ⟨s, 9, none⟩ (.int .i64 x)) g r s { t with prio := x } := h.cell 9 (by decide) _ (by simp)

end Go.Proofs.YtpikopdfkhagmaaGreatDoor
namespace Go.Proofs.YtpikopdfkhagmaaGreatDoor
open Go.RowKit

theorem Own.setFar {α : Type} {e : TypeId} {sz : Nat} {c : α → Array Value} {w : World} {base : Nat} {v : Value} {xs : List α} (h : Own e sz c w base v xs) {b : Nat} (hb : b < base) (o : Nat) (u : Value) : Own e sz c (w.setCell ⟨b, o, none⟩ u) base v xs :=
  h.butG ((KeepsBut.refl b w).setCell o u) hb
theorem Own.putFar {α : Type} {e : TypeId} {sz : Nat} {c : α → Array Value} {base : Nat} {v : Value} {xs : List α} {b : Nat} (hb : b < base) : ∀ (L : List Value) {w : World} (k : Nat), Own e sz c w base v xs → Own e sz c (putC w b k L) base v xs
  | [], _, _, h => h
  | u :: r, _, k, h => Own.putFar hb r (k + 1) (h.setFar hb k u)
/-- A drawn list: a row of its own, with an address. -/
structure DL (w wr : World) (g : Nat) (v : Value) (xs : List Tsk) : Prop where
  own : OwnT wr w.heap.size v xs
  adr : ∃ b cp, v = .slice (some ⟨b, 0, none⟩) xs.length cp
  cur : Cur wr g
  kb : KeepsBut g w wr
theorem DL.but {w wr wr' : World} {g : Nat} {v : Value} {xs : List Tsk} (h : DL w wr g v xs) (hg : g < w.heap.size) (k : KeepsBut g wr wr') (hc : Cur wr' g) : DL w wr' g v xs :=
  ⟨h.own.butG k hg, h.adr, hc, h.kb.trans k⟩
theorem DL.keeps {w wr wr' : World} {g : Nat} {v : Value} {xs : List Tsk} (h : DL w wr g v xs) (hg : g < w.heap.size) (k : Keeps wr wr') : DL w wr' g v xs := h.but hg (.of k) (h.cur.keeps k)

end Go.Proofs.YtpikopdfkhagmaaGreatDoor
namespace Go.Proofs.YtpikopdfkhagmaaGreatDoor
open Go.RowKit

/-- Who is idle now, and who was is woken. -/
def wakeOne (s : Sy) (t : Tsk) : Tsk := { (if ableB s.tasks s.locks t.no && t.idle then fairWakeT (wakeT { t with idle := false } s.now) (s.floors.getD t.cpu.toNat 0) else t) with idle := !ableB s.tasks s.locks t.no }
def wakeS (s : Sy) : Sy := { s with tasks := s.tasks.map (wakeOne s) }
def awakeB (cpu : Int) (t : Tsk) : Bool := t.cpu == cpu && !t.idle
def awakeL (s : Sy) (cpu : Int) : List Tsk := s.tasks.filter (awakeB cpu)
/-- What becomes of whose turn it is. -/
def nextT (s : Sy) (t : Tsk) : Tsk := fixSpendT (fairSpendT (spendT t)) (s.seq + 1)
def nextB (s : Sy) (t : Tsk) : Bool := turnB (fairSpendT (spendT t)) (s.seq + 1)
def turnTo (s : Sy) (cpu : Int) (k : Nat) (t : Tsk) : Sy := { s with seq := if nextB s t then s.seq + 1 else s.seq, tasks := s.tasks.set k (nextT s t), trace := s.trace ++ [⟨cpu, t.no, execI s.tasks s.locks t.no⟩] }
def turnS (s : Sy) (cpu : Int) : Sy :=
  if pickI s.tasks s.locks cpu < 0 then { s with trace := s.trace ++ [⟨cpu, 0, 0⟩] }
  else turnTo s cpu (pickI s.tasks s.locks cpu).toNat (s.tasks.getD (pickI s.tasks s.locks cpu).toNat Tsk.zero)
def turnsS (s : Sy) : Nat → Sy
  | 0 => s
  | n + 1 => turnS (turnsS s n) n
/-- A deadline has come. -/
def dueNow (now : Int) (t : Tsk) : Bool := t.cls == 1 && (!t.idle && decide (t.due ≤ now))
def missS (now : Int) (m : Int) (t : Tsk) : Int := if dueNow now t && decide (0 < t.left) then min (m + 1) 100000 else m
def renewOne (now : Int) (t : Tsk) : Tsk := if dueNow now t then renewT t now else t
def agedS (s : Sy) : Sy := { s with ghosts := s.ghosts.filter (fun g => decide (s.now < g.til)), missed := s.tasks.foldl (missS s.now) s.missed, tasks := s.tasks.map (renewOne s.now) }
def flooredS (s : Sy) : Sy := { s with floors := s.floors.mapIdx fun c x => fairFloorI (awakeL s c) x }
def tickB (s : Sy) : Bool := sysB s && (!(s.now == 100000) && (!decide (900000 < s.seq) && !decide (400 < (s.trace.length : Int) + s.cpus)))
def aheadS (s : Sy) : Sy := { s with now := s.now + 1 }
def tickS (s : Sy) : Sy := if tickB s then aheadS (turnsS (flooredS (wakeS (agedS s))) s.cpus.toNat) else if sysB s then s else Sy.zero
/-- So many ticks, as long as they go. -/
def ticksS (s : Sy) : Nat → Sy × Nat
  | 0 => (s, 0)
  | n + 1 => if tickB s then ((ticksS (tickS s) n).1, (ticksS (tickS s) n).2 + 1) else (s, 0)
/-- A call. -/
structure Cl where
  kind : Int
  no : Int
  cpu : Int
  a : Int
  b : Int
def cleanC (c : Cl) : Cl :=
  if c.kind == 1 || c.kind == 2 then c
  else if c.kind == 3 then { c with b := 0 }
  else if c.kind == 4 || c.kind == 5 || c.kind == 6 then { c with cpu := 0, a := 0, b := 0 }
  else if c.kind == 7 || c.kind == 8 || c.kind == 9 then { c with cpu := 0, b := 0 }
  else if c.kind == 10 then { c with a := 0, b := 0 }
  else if c.kind == 11 then { c with no := 0, cpu := 0, b := 0 }
  else c
def eqC (x y : Cl) : Bool := x.kind == y.kind && (x.no == y.no && (x.cpu == y.cpu && (x.a == y.a && x.b == y.b)))
def callB (c : Cl) : Bool := inB c.kind 1 11 && eqC c (cleanC c)
/-- The task that is asked for. -/
def madeT (s : Sy) (c : Cl) : Tsk := if c.kind == 1 then dueNewT c.no c.cpu c.a c.b s.now else if c.kind == 2 then newT (fixT c.no c.cpu c.a c.b (s.seq + 1)) else newT (fairT c.no c.cpu c.a (floorI s c.cpu))
def madeB (s : Sy) (c : Cl) : Bool := if c.kind == 1 then dueNewB c.no c.cpu c.a c.b s.now else if c.kind == 2 then taskB (fixT c.no c.cpu c.a c.b (s.seq + 1)) else taskB (fairT c.no c.cpu c.a (floorI s c.cpu))
def roomB (s : Sy) (c : Cl) : Bool := putB s.tasks (madeT s c) && (!(c.kind == 1) || fitsL (sharesL s c.cpu ++ [(c.a, c.b)]))
def newN (s : Sy) (c : Cl) : Int :=
  if decide (s.cpus ≤ c.cpu) || !madeB s c then 1 else if thereB s.tasks c.no then 3 else if !roomB s c || (c.kind == 2 && decide (900000 < s.seq)) then 4 else 0
def newC (s : Sy) (c : Cl) : Sy := { s with tasks := putL s.tasks (madeT s c), seq := if c.kind == 2 then s.seq + 1 else s.seq }
def busyB (s : Sy) (no : Int) : Bool := ownsB s.locks no || !decide (waitAt s.locks no < 0)
def ghostOf (t : Tsk) : Gh := ⟨t.cpu, t.q, t.p, t.due⟩
def leavesB (s : Sy) (t : Tsk) : Bool := t.cls == 1 && decide (s.now < t.due)
def exitN (s : Sy) (t : Tsk) : Int := if busyB s t.no then 5 else if leavesB s t && s.ghosts.length == 12 then 4 else 0
def exitC (s : Sy) (k : Nat) (t : Tsk) : Sy := { s with ghosts := if leavesB s t then s.ghosts ++ [ghostOf t] else s.ghosts, tasks := s.tasks.eraseIdx k }
def lockN (s : Sy) (c : Cl) (t : Tsk) : Int :=
  if !inB c.a 0 4 then 2 else if t.st == 2 || (!decide (waitAt s.locks c.no < 0) || (ownerAt s.locks c.a.toNat == c.no || !sameB s c.a c.no)) then 5 else if askN s.locks c.a c.no == 4 then 6 else 0
def lockC (s : Sy) (c : Cl) : Sy := { s with locks := askL s.locks c.a c.no }
def unlockN (s : Sy) (c : Cl) (t : Tsk) : Int :=
  if !inB c.a 0 4 then 2 else if t.st == 2 || (!decide (waitAt s.locks c.no < 0) || ownerAt s.locks c.a.toNat != c.no) then 5 else 0
def unlockC (s : Sy) (c : Cl) : Sy := { s with locks := freeL s.locks c.a c.no (bestI s.tasks (waitsAt s.locks c.a.toNat)) }
def moveN (s : Sy) (c : Cl) (t : Tsk) : Int := if t.cls != 3 || busyB s t.no then 5 else if !inB c.cpu 0 (s.cpus - 1) then 1 else 0
def moveC (s : Sy) (c : Cl) (k : Nat) (t : Tsk) : Sy := { s with tasks := s.tasks.set k (fairMoveT t c.cpu (s.floors.getD t.cpu.toNat 0) (s.floors.getD c.cpu.toNat 0)) }
/-- The code of a call of a task that is there. -/
def ofTaskN (s : Sy) (c : Cl) (t : Tsk) : Int :=
  if c.kind == 4 then (if t.st == 2 || !decide (waitAt s.locks c.no < 0) then 5 else 0)
  else if c.kind == 5 then (if t.st != 2 then 5 else 0)
  else if c.kind == 6 then exitN s t
  else if c.kind == 7 then lockN s c t
  else if c.kind == 8 then unlockN s c t
  else if c.kind == 9 then (if t.cls != 3 then 5 else if !inB c.a (-4) 4 then 1 else 0)
  else if c.kind == 10 then moveN s c t
  else 0
def ofTaskC (s : Sy) (c : Cl) (k : Nat) (t : Tsk) : Sy :=
  if c.kind == 4 then { s with tasks := s.tasks.set k { t with st := 2 } }
  else if c.kind == 5 then { s with tasks := s.tasks.set k { t with st := 1 } }
  else if c.kind == 6 then exitC s k t
  else if c.kind == 7 then lockC s c
  else if c.kind == 8 then unlockC s c
  else if c.kind == 9 then { s with tasks := s.tasks.set k { t with nice := c.a } }
  else if c.kind == 10 then moveC s c k t
  else s
/-- The code of a call of a right system, and what it makes of it. -/
def doN (s : Sy) (c : Cl) : Int :=
  if c.kind ≤ 3 then newN s c
  else if c.kind == 11 then (if !inB c.a 1 50 then 1 else if ((ticksS s c.a.toNat).2 : Int) < c.a then 4 else 0)
  else if !thereB s.tasks c.no then 2
  else ofTaskN s c (tAt s.tasks c.no)
def doC (s : Sy) (c : Cl) : Sy :=
  if c.kind ≤ 3 then newC s c
  else if c.kind == 11 then (ticksS s c.a.toNat).1
  else ofTaskC s c (atFrom s.tasks c.no).toNat (tAt s.tasks c.no)
def callN (s : Sy) (c : Cl) : Int := if sysB s && callB c then doN s c else 1
def callS (s : Sy) (c : Cl) : Sy := if sysB s && callB c then (if doN s c == 0 then doC s c else s) else Sy.zero
/-- A run of calls. -/
def runS (s : Sy) : List Cl → Sy
  | [] => s
  | c :: r => if callN s c == 0 then runS (callS s c) r else runS s r
end Go.Proofs.YtpikopdfkhagmaaGreatDoor
namespace Go.Proofs.YtpikopdfkhagmaaGreatDoor
open Go.RowKit
attribute [local go_sem] Keeps.refl Keeps.alloc Keeps.drew Keeps.drewN

theorem filter_step {α : Type} (p : α → Bool) {xs : List α} {k : Nat} {x : α} (h : xs[k]? = some x) : (xs.take (k + 1)).filter p = (xs.take k).filter p ++ (if p x then [x] else []) := by
  rw [take_snoc h, List.filter_append]
  congr 1
  cases e : p x <;> simp [e]
set_option maxRecDepth 100000 in
set_option maxHeartbeats 4000000 in
theorem l10Awake_any {w : World} {v : Sv} {s : Sy} (h : SysOn w v s) (cpu : Int) :
    Calls Tryz.prog 115 #[.agg (syc s v), .int .i64 cpu] w fun e w' => ∃ u, e = .returned u ∧ Own 90 14 tc w' w.heap.size u (awakeL s cpu) ∧ Keeps w w' := by
  have hm1 : v.t.n ≤ 2000000 := by have := h.size; have := h.lay.tl; unfold sizeS at *; omega
  have Hn : Hid (s.tasks.length = v.t.n) := h.lay.tl
  have kW := blkK w (.cells (syc s v) 43)
  have hb := blkR w (syc s v) 43
  have hs1 : Hid (Ts (w.alloc (.cells (syc s v) 43)) v.t.a s.tasks) := h.lay.t.keeps kW
  clear h
  have HE : Hid (awakeL s cpu = s.tasks.filter (awakeB cpu)) := rfl
  go_enter Tryz.func115, Tryz.ntmps115
  go_wp2
  have O0 : Hid (Own 90 14 tc ((w.alloc (.cells (syc s v) 43)).alloc (.cells #[] 90)) (w.alloc (.cells (syc s v) 43)).heap.size (.slice (some ⟨(w.alloc (.cells (syc s v) 43)).heap.size, 0, none⟩) 0 0) []) := Own.new 90 14 tc _ (Nat.le_refl _)
  have hz : (w.alloc (.cells (syc s v) 43)).heap.size = w.heap.size + 1 := by simp
  rw [hz] at O0
  have HW : Hid (w.heap.size ≤ (w.alloc (.cells (syc s v) 43)).heap.size) := by show _ ≤ _; omega
  have Hz : Hid ((w.alloc (.cells (syc s v) 43)).heap.size = w.heap.size + 1) := hz
  clear hz
  generalize w.alloc (.cells (syc s v) 43) = W at *
  go_loopw [5, 6] (fun o i wr => ∃ (k : Nat) (xs : List Tsk), k ≤ v.t.n ∧ i = .int .i64 k ∧ xs.length ≤ k ∧ Hid (xs = (s.tasks.take k).filter (awakeB cpu)) ∧ Hid (Own 90 14 tc wr W.heap.size o xs) ∧ Keeps W wr) (fun _ i _ => v.t.n - (intOf i).toNat)
  case atStart => exact ⟨0, [], Nat.zero_le _, rfl, by simp, by show _ = _; simp, by show Own _ _ _ _ _ _ _; rw [Hz.out]; exact O0.out, (Keeps.refl _).alloc _⟩
  case round =>
    obtain ⟨k, xs, hk, rfl, hxl, HX, O, hK⟩ := hrel
    clear O0
    by_cases hlt : k < v.t.n
    · obtain ⟨t, ht⟩ := some_in (xs := s.tasks) (k := k) (by rw [Hn.out]; exact hlt)
      obtain ⟨b, off, ha, r0, r1⟩ := hs1.out.at ht (by omega)
      have hlt' : (k : Int) < (v.t.n : Int) := by omega
      have Hstep := filter_step (awakeB cpu) ht
      rw [← HX.out] at Hstep
      have HS : Hid ((s.tasks.take (k + 1)).filter (awakeB cpu) = xs ++ (if awakeB cpu t then [t] else [])) := Hstep
      clear ht Hstep
      cases c1 : (t.cpu == cpu)
      · have Hx : Hid (xs = (s.tasks.take (k + 1)).filter (awakeB cpu)) := by show _ = _; rw [HS.out]; simp [awakeB, c1]
        go_wp2
        exact ⟨⟨k + 1, xs, by omega, by go_num, by omega, Hx, O, hK⟩, by simp only [intOf]; omega⟩
      cases c2 : t.idle
      rotate_left
      · have Hx : Hid (xs = (s.tasks.take (k + 1)).filter (awakeB cpu)) := by show _ = _; rw [HS.out]; simp [awakeB, c1, c2]
        go_wp2
        exact ⟨⟨k + 1, xs, by omega, by go_num, by omega, Hx, O, hK⟩, by simp only [intOf]; omega⟩
      have Hx : Hid (xs ++ [t] = (s.tasks.take (k + 1)).filter (awakeB cpu)) := by show _ = _; rw [HS.out]; simp [awakeB, c1, c2]
      obtain ⟨u, rfl⟩ : ∃ u : Tsk, t = { u with idle := false } := ⟨t, by rw [← c2]⟩
      clear HS c2
      go_wp2_with (at_builtin; (refine wpList_push rfl _ _ 38 rfl W 90 (.agg (tc Tsk.zero)) 14 112 tc Tryz.underlying38 (by kernel_rfl) rfl (by decide) tc_size tc_one _ xs rfl wr O.out hK ((Keeps.refl _).alloc _) { u with idle := false } _ 1 (Blk.new _ _ _) rfl ?c1 ?c2 ?_))
      case c1 => unfold maxLen; omega
      case c2 => omega
      intro v' w5 own5 k5 _
      have HO : Hid (Own 90 14 tc w5 W.heap.size v' (xs ++ [{ u with idle := false }])) := own5
      clear own5 O
      go_wp2
      exact ⟨⟨k + 1, xs ++ [{ u with idle := false }], by omega, by go_num, by simp; omega, Hx, HO, k5⟩, by simp only [intOf]; omega⟩
    · have hlt' : decide ((k : Int) < (v.t.n : Int)) = false := by simp; omega
      have HP : Hid (awakeL s cpu = xs) := by
        have h1 := HX.out
        rw [List.take_of_length_le (by have := Hn.out; omega)] at h1
        show _ = _
        rw [HE.out, h1]
      clear HX
      go_wp2
      go_ret
      exact ⟨_, rfl, by rw [HP.out]; exact O.out.base HW.out, kW.trans hK⟩
end Go.Proofs.YtpikopdfkhagmaaGreatDoor
