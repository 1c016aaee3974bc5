/-
  Locks: all that wait; right locks are few numbers.
  In a list of tasks each is found at its place.
  What a right system is, limb by limb; it is small.
  Ticks, as plain functions: what they leave as it was.
  Drawn systems: a system of one's own beside the cursor.
  Calls: a system of one's own in a variable, and a cell for what is told; stores into it, and how a call ends.
-/
import Derived.Test.YtpikopdfkhagmaaGreatDoorLockSpec2
import Derived.Test.YtpikopdfkhagmaaGreatDoorLockPure2
import Derived.Test.YtpikopdfkhagmaaGreatDoorTasksOkS
import Derived.Test.YtpikopdfkhagmaaGreatDoorSysVar
import Derived.Test.YtpikopdfkhagmaaGreatDoorTaskNew
import Derived.Test.YtpikopdfkhagmaaGreatDoorImplCall
import Derived.Test.YtpikopdfkhagmaaGreatDoorCur
import Derived.Test.YtpikopdfkhagmaaGreatDoorOwn
import Derived.Test.YtpikopdfkhagmaaGreatDoorPickSpec2
namespace Go.Proofs.YtpikopdfkhagmaaGreatDoor
open Go.RowKit

/-- All that wait, one behind the other. -/
def allW : List Lk → List Int
  | [] => []
  | l :: r => l.waits ++ allW r
theorem mem_allW {ls : List Lk} {x : Int} : x ∈ allW ls ↔ ∃ (j : Nat) (l : Lk), ls[j]? = some l ∧ hasB l.waits x = true := by
  induction ls with
  | nil => simp [allW]
  | cons l r ih =>
    simp only [allW, List.mem_append, ih]
    constructor
    · rintro (h | ⟨j, m, h1, h2⟩)
      · exact ⟨0, l, rfl, hasB_iff.2 h⟩
      · exact ⟨j + 1, m, h1, h2⟩
    · rintro ⟨j, m, h1, h2⟩
      cases j with
      | zero => simp at h1; subst h1; exact .inl (hasB_iff.1 h2)
      | succ j => exact .inr ⟨j, m, by simpa using h1, h2⟩
theorem waitsN_all (ls : List Lk) (x : Int) : waitsN ls x = countN (allW ls) x := by
  induction ls with
  | nil => rfl
  | cons l r ih => simp only [waitsN, allW, countN_append, ih]
theorem nodup_count : ∀ {xs : List Int}, xs.Nodup ↔ ∀ x ∈ xs, countN xs x = 1
  | [] => by simp
  | y :: r => by
    rw [List.nodup_cons, nodup_count (xs := r)]
    have e : ∀ x, countN (y :: r) x = (if y == x then 1 else 0) + countN r x := by
      intro x
      have := countN_append [y] r x
      simp only [List.singleton_append] at this
      rw [this]
      congr 1
      cases c : (y == x) <;> simp [countN, c]
    constructor
    · rintro ⟨h1, h2⟩ x hx
      rw [e]
      rcases List.mem_cons.1 hx with rfl | hx
      · have := count_zero.2 (hasB_no.2 h1); simp; omega
      · have hne : y ≠ x := fun e' => h1 (e' ▸ hx)
        have := h2 x hx
        rw [if_neg (by simpa using hne)]; omega
    · intro h
      have hy : y ∉ r := fun hm => by
        have h1 := h y (List.mem_cons_self ..)
        rw [e] at h1
        have := count_pos.2 (hasB_iff.2 hm)
        simp at h1; omega
      refine ⟨hy, fun x hx => ?_⟩
      have h1 := h x (List.mem_cons_of_mem _ hx)
      have hne : y ≠ x := fun e' => hy (e' ▸ hx)
      rw [e, if_neg (by simpa using hne)] at h1
      omega

theorem sumW_all (ls : List Lk) : sumW ls = (allW ls).length := by
  induction ls with
  | nil => rfl
  | cons l r ih => simp [sumW, allW, ih]
theorem few_numbers {xs : List Int} {n : Nat} (h : xs.Nodup) (hb : ∀ x ∈ xs, 1 ≤ x ∧ x ≤ (n : Int)) : xs.length ≤ n := by
  refine inj_le n xs.length (fun i => ((xs.getD i 0) - 1).toNat) (fun i hi => ?_) (fun i j hi hj e => ?_)
  · have := hb _ (List.getElem_mem hi)
    rw [List.getD_eq_getElem?_getD, List.getElem?_eq_getElem hi, Option.getD_some]
    omega
  · have h1 := hb _ (List.getElem_mem hi)
    have h2 := hb _ (List.getElem_mem hj)
    simp only [List.getD_eq_getElem?_getD, List.getElem?_eq_getElem hi, List.getElem?_eq_getElem hj, Option.getD_some] at e
    exact (List.getElem_inj h).1 (by omega)
theorem Right.few {ls : List Lk} (R : Right ls) : sumW ls ≤ 1000 := by
  rw [sumW_all]
  refine few_numbers (n := 1000) (nodup_count.2 fun x hx => ?_) fun x hx => ?_
  · obtain ⟨j, l, hl, h⟩ := mem_allW.1 hx
    rw [← waitsN_all]; exact R.once j l x hl h
  · obtain ⟨j, l, hl, h⟩ := mem_allW.1 hx
    exact R.no j l x hl h
end Go.Proofs.YtpikopdfkhagmaaGreatDoor
namespace Go.Proofs.YtpikopdfkhagmaaGreatDoor
open Go.RowKit

theorem tasksB_task {ts : List Tsk} (h : tasksB ts = true) {i : Nat} {t : Tsk} (ht : ts[i]? = some t) : taskB t = true := by
  simp only [tasksB, Bool.and_eq_true] at h
  exact List.all_eq_true.1 h.1.1 t (List.mem_of_getElem? ht)
end Go.Proofs.YtpikopdfkhagmaaGreatDoor
namespace Go.Proofs.YtpikopdfkhagmaaGreatDoor
open Go.RowKit

structure SysR (s : Sy) : Prop where
  now : 0 ≤ s.now ∧ s.now ≤ 100000
  cpus : 1 ≤ s.cpus ∧ s.cpus ≤ 4
  tasks : tasksB s.tasks = true
  locks : sysLocksB s = true
  ghosts : ghostsB s = true
  floors : (s.floors.length : Int) = s.cpus
  seq : 0 ≤ s.seq ∧ s.seq ≤ 1000000
  missed : 0 ≤ s.missed ∧ s.missed ≤ 100000
  trace : s.trace.length ≤ 400
  on : ∀ t ∈ s.tasks, t.cpu < s.cpus
  cpu : ∀ c : Nat, (c : Int) < s.cpus → cpuB s c = true
theorem sysB_iff {s : Sy} : sysB s = true ↔ SysR s := by
  unfold sysB headSB
  simp only [Bool.and_eq_true, inB_iff, List.all_eq_true, decide_eq_true_eq, beq_iff_eq, List.mem_range]
  constructor
  · rintro ⟨⟨h1, h2, h3, h4, h5, h6, h7, h8, h9⟩, h10, h11⟩
    exact ⟨h1, h2, h3, h4, h5, h6, h7, h8, h9, h10, fun c hc => h11 c (by omega)⟩
  · intro h
    exact ⟨⟨h.now, h.cpus, h.tasks, h.locks, h.ghosts, h.floors, h.seq, h.missed, h.trace⟩, h.on, fun c hc => h.cpu c (by omega)⟩
theorem taskB_cpu {t : Tsk} (h : taskB t = true) : 0 ≤ t.cpu ∧ t.cpu ≤ 3 := by
  unfold taskB at h
  simp only [Bool.and_eq_true, inB_iff] at h
  exact h.1.1.1.2
theorem SysR.onCpus {s : Sy} (h : SysR s) : OnCpus s := by
  intro t ht
  obtain ⟨i, hi⟩ := List.mem_iff_getElem?.1 ht
  have := taskB_cpu (tasksB_task h.tasks hi)
  have := h.on t ht
  have := h.floors
  omega
theorem SysR.few {s : Sy} (h : SysR s) : s.tasks.length ≤ 12 ∧ sizeN s.locks ≤ 1005 ∧ s.ghosts.length ≤ 12 ∧ s.floors.length ≤ 4 := by
  have h1 := tasksB_len h.tasks
  have h2 := h.locks
  unfold sysLocksB at h2
  simp only [Bool.and_eq_true, beq_iff_eq] at h2
  have h3 := (right_iff.1 h2.2.1).few
  have h4 := h.ghosts
  unfold ghostsB at h4
  simp only [Bool.and_eq_true, decide_eq_true_eq] at h4
  have h5 := h.floors
  have h6 := h.cpus
  refine ⟨h1, ?_, h4.2, by omega⟩
  unfold sizeN
  omega
theorem SysR.small {s : Sy} (h : SysR s) : sizeS s ≤ 1500 := by
  obtain ⟨h1, h2, h3, h4⟩ := h.few
  have := h.trace
  unfold sizeS
  omega
end Go.Proofs.YtpikopdfkhagmaaGreatDoor
namespace Go.Proofs.YtpikopdfkhagmaaGreatDoor
open Go.RowKit

theorem turnS_facts (s : Sy) (cpu : Int) : (turnS s cpu).cpus = s.cpus ∧ (turnS s cpu).now = s.now ∧ sizeS (turnS s cpu) = sizeS s + 1 ∧ s.seq ≤ (turnS s cpu).seq ∧ (turnS s cpu).seq ≤ s.seq + 1 := by
  unfold turnS
  split
  · refine ⟨rfl, rfl, ?_, Int.le_refl _, by show s.seq ≤ s.seq + 1; omega⟩
    simp only [sizeS, List.length_append, List.length_singleton]
    omega
  · unfold turnTo
    refine ⟨rfl, rfl, ?_, ?_, ?_⟩
    · simp only [sizeS, List.length_append, List.length_singleton, List.length_set]
      omega
    · dsimp only; split <;> omega
    · dsimp only; split <;> omega
theorem turnsS_facts (s : Sy) : ∀ k : Nat, (turnsS s k).cpus = s.cpus ∧ (turnsS s k).now = s.now ∧ sizeS (turnsS s k) = sizeS s + k ∧ s.seq ≤ (turnsS s k).seq ∧ (turnsS s k).seq ≤ s.seq + k
  | 0 => ⟨rfl, rfl, rfl, Int.le_refl _, by simp [turnsS]⟩
  | k + 1 => by
    obtain ⟨h1, h2, h3, h4, h5⟩ := turnsS_facts s k
    obtain ⟨g1, g2, g3, g4, g5⟩ := turnS_facts (turnsS s k) k
    have e : turnsS s (k + 1) = turnS (turnsS s k) k := rfl
    rw [e]
    exact ⟨g1.trans h1, g2.trans h2, by omega, by omega, by omega⟩
theorem aged_size (s : Sy) : sizeS (agedS s) ≤ sizeS s := by
  have := List.length_filter_le (fun g => decide (s.now < g.til)) s.ghosts
  simp only [agedS, sizeS, List.length_map]
  omega
theorem renewOne_cpu (now : Int) (t : Tsk) : (renewOne now t).cpu = t.cpu := by
  unfold renewOne renewT
  split
  · split <;> rfl
  · rfl
theorem aged_on {s : Sy} (h : OnCpus s) : OnCpus (agedS s) := by
  intro t ht
  simp only [agedS, List.mem_map] at ht
  obtain ⟨u, hu, rfl⟩ := ht
  rw [renewOne_cpu]
  exact h u hu
theorem wake_size (s : Sy) : sizeS (wakeS s) = sizeS s := by simp [wakeS, sizeS]
theorem floored_size (s : Sy) : sizeS (flooredS s) = sizeS s := by simp [flooredS, sizeS]
end Go.Proofs.YtpikopdfkhagmaaGreatDoor
namespace Go.Proofs.YtpikopdfkhagmaaGreatDoor
open Go.RowKit
attribute [local go_sem] Keeps.refl Keeps.alloc Keeps.drew Keeps.drewN

theorem OwnS.butG {g : Nat} {w w' : World} {lo : Nat} {v : Sv} {vs : List Lv} {s : Sy} (h : OwnS w lo v vs s) (k : KeepsBut g w w') (hg : g < lo) : OwnS w' lo v vs s :=
  h.aside k.size fun i b hb => k.block b (h.blkLt hb).2 (by have := (h.blkLt hb).1; omega)
/-- A call as it is drawn: a task that is made has a small number. -/
def Few (c : Cl) : Prop := c.kind ≤ 3 → 1 ≤ c.no ∧ c.no ≤ 12
/-- A number that is drawn of the cursor in block g. -/
def DrewI (g : Nat) (w : World) (e : Ending) (w' : World) : Prop := ∃ z : Int, e = .returned (.int .i64 z) ∧ Cur w' g ∧ KeepsBut g w w'
/-- A call that is drawn of the cursor in block g. -/
def DrewC (g : Nat) (w : World) (e : Ending) (w' : World) : Prop := ∃ c : Cl, e = .returned (ck c) ∧ Few c ∧ Cur w' g ∧ KeepsBut g w w'
theorem KeepsBut.putN {g : Nat} {a : World} {b : Nat} (hb : a.heap.size ≤ b) : ∀ (L : List Value) {w : World} (k : Nat), KeepsBut g a w → KeepsBut g a (Go.Proofs.YtpikopdfkhagmaaGreatDoor.putC w b k L)
  | [], _, _, h => h
  | u :: r, _, k, h => KeepsBut.putN hb r (k + 1) (h.setNew (p := ⟨b, k, none⟩) hb u)
theorem Cur.putC {g b : Nat} (hb : g < b) : ∀ (L : List Value) {w : World} (k : Nat), Cur w g → Cur (Go.Proofs.YtpikopdfkhagmaaGreatDoor.putC w b k L) g
  | [], _, _, h => h
  | u :: r, _, k, h => Cur.putC hb r (k + 1) (h.setNew hb k u)
/-- The owner of a lock of one's own. -/
theorem OwnS.lockAt {w : World} {lo : Nat} {v : Sv} {vs : List Lv} {s : Sy} (h : OwnS w lo v vs s) {j : Nat} {l : Lk} (hl : s.locks[j]? = some l) : ∃ lb, v.l.a = some ⟨lb, 0, none⟩ ∧ w.cell? ⟨lb, j * 2, none⟩ = some (.int .i64 l.owner) ∧ lo ≤ lb ∧ lb < w.heap.size := by
  have hj := lt_of_some hl
  have hv := h.l.len
  obtain ⟨x, hx⟩ := some_in (xs := vs) (k := j) (by rw [hv]; exact hj)
  obtain ⟨b, cap, e, -, -, -⟩ := h.l.own.some lvc_size (by omega)
  have O := h.l.own
  rw [e] at O
  have h1 := O.cellAt lvc_size (i := j) (k := 0) hx (by omega)
  have h2 := O.ltb b rfl
  have h3 := (h.l.rows j x l hx hl).1
  simp only [Rw.val, Value.slice.injEq] at e
  exact ⟨b, e.1, by rw [← h3]; simpa using h1, h2.1, h2.2⟩
abbrev cc0 : Array Value := #[.int .i64 0, .int .i64 0, .int .i64 0, .int .i64 0, .int .i64 0]
/-- The end: a call is stored as what is told. -/
theorem drewC_end {g rb : Nat} {w Z wn : World} (R : Blk Z rb cc0) (hg : g < w.heap.size) (hr : w.heap.size ≤ rb) (kZ : KeepsBut g w Z) (hc : Cur wn g) (k : KeepsBut g Z wn) (c : Cl) :
    Blk (putC wn rb 0 (cc c).toList) rb (cc c) ∧ Cur (putC wn rb 0 (cc c).toList) g ∧ KeepsBut g w (putC wn rb 0 (cc c).toList) :=
  ⟨(R.but k (by omega)).putC (cc c).toList rfl, Cur.putC (by omega) _ 0 hc, KeepsBut.putN hr _ 0 (kZ.trans k)⟩
end Go.Proofs.YtpikopdfkhagmaaGreatDoor
namespace Go.Proofs.YtpikopdfkhagmaaGreatDoor
open Go.RowKit

/-- The locks are others now, and stored. -/
theorem VarG.locks {w0 w : World} {lo ob : Nat} {v0 v : Sv} {vs0 vs : List Lv} {s : Sy} {w1 : World} (h : VarG w0 lo v0 vs0 w ob v vs s) (k : Keeps w w1) {x : Rw} {vs' : List Lv} {ls : List Lk} (L : Mine w1 w.heap.size w1.heap.size x.val vs' ls) :
    VarG w0 lo v0 vs0 (w1.setCell ⟨ob, 3, none⟩ x.val) ob { v with l := x } vs' { s with locks := ls } := by
  have h1 := h.keeps k
  have hob := h.var.box.lt
  have hlo : lo ≤ w.heap.size := Nat.le_trans h.var.lob (Nat.le_of_lt hob)
  have f : ∀ b, LkBlk x.val vs' b → w.heap.size ≤ b := fun b hb => (L.blkLt hb).1
  have S2 : OwnS w1 lo { v with l := x } vs' { s with locks := ls } := h.var.own.setL (fun b hb _ => Below.block k b hb) x ls (L.widen hlo (Nat.le_refl _)) fun b hb => .inr (f b hb)
  have far2 : ∀ i, ¬ ofKind { v with l := x } vs' i ob := by
    intro i hi
    match i, hi with
    | 0, hi => exact h.var.far 0 hi
    | 1, hi => have := f ob hi; omega
    | 2, hi => exact h.var.far 2 hi
    | 3, hi => exact h.var.far 3 hi
    | 4, hi => exact h.var.far 4 hi
  have O3 : OwnS (w1.setCell ⟨ob, 3, none⟩ x.val) lo { v with l := x } vs' { s with locks := ls } := S2.far far2 _
  refine ⟨⟨h1.var.box.set 3 (by simp) x.val, O3, h.var.lob, far2⟩, h1.goes.step O3 (TurnsB.putC (.inr h.new) [x.val] 3 (TurnsB.refl _ _)) fun i b hb => ?_, h.new⟩
  match i, hb with
  | 0, hb => exact .inl ⟨0, hb⟩
  | 1, hb => exact .inr (Nat.le_trans h.goes.turn.size (f b hb))
  | 2, hb => exact .inl ⟨2, hb⟩
  | 3, hb => exact .inl ⟨3, hb⟩
  | 4, hb => exact .inl ⟨4, hb⟩
/-- The system in block ob, and the cell for what is told in block rb. -/
structure AskR (w0 : World) (lo : Nat) (v0 : Sv) (vs0 : List Lv) (w : World) (ob rb : Nat) (v : Sv) (vs : List Lv) (s : Sy) : Prop where
  g : VarG w0 lo v0 vs0 w ob v vs s
  r : Blk w rb zc
  far : ∀ i, ¬ ofKind v vs i rb
  ne : rb ≠ ob
  new : w0.heap.size ≤ rb
section
variable {w0 w : World} {lo ob rb : Nat} {v0 v : Sv} {vs0 vs : List Lv} {s : Sy}
theorem AskR.keeps {w' : World} (h : AskR w0 lo v0 vs0 w ob rb v vs s) (k : Keeps w w') : AskR w0 lo v0 vs0 w' ob rb v vs s := ⟨h.g.keeps k, h.r.keeps k, h.far, h.ne, h.new⟩
theorem AskR.locks {w1 : World} (h : AskR w0 lo v0 vs0 w ob rb v vs s) (k : Keeps w w1) {x : Rw} {vs' : List Lv} {ls : List Lk} (L : Mine w1 w.heap.size w1.heap.size x.val vs' ls) :
    AskR w0 lo v0 vs0 (w1.setCell ⟨ob, 3, none⟩ x.val) ob rb { v with l := x } vs' { s with locks := ls } := by
  have hl := h.r.lt
  refine ⟨h.g.locks k L, (h.r.keeps k).far h.ne.symm _, ?_, h.ne, h.new⟩
  intro i hi
  match i, hi with
  | 0, hi => exact h.far 0 hi
  | 1, hi => have := (L.blkLt hi).1; omega
  | 2, hi => exact h.far 2 hi
  | 3, hi => exact h.far 3 hi
  | 4, hi => exact h.far 4 hi
/-- The tasks are a new row now, and stored. -/
theorem AskR.tasks {w1 : World} (h : AskR w0 lo v0 vs0 w ob rb v vs s) (k : Keeps w w1) {x : Rw} {xs : List Tsk} (O : Own 90 14 tc w1 w.heap.size x.val xs) :
    AskR w0 lo v0 vs0 (w1.setCell ⟨ob, 2, none⟩ x.val) ob rb { v with t := x } vs { s with tasks := xs } := by
  have hl := h.r.lt
  have hob := h.g.var.box.lt
  have hlo : lo ≤ w.heap.size := Nat.le_trans h.g.var.lob (Nat.le_of_lt hob)
  have f : ∀ q, x.val.ownBlock = some q → w.heap.size ≤ q := fun q hq => (O.ltb q hq).1
  have S2 : OwnS w1 lo { v with t := x } vs { s with tasks := xs } := h.g.var.own.setT k.size (fun b hb _ => Below.block k b hb) x xs (O.base hlo) fun b hb => .inr (f b hb)
  have far2 : ∀ c, c < w.heap.size → (∀ i, ¬ ofKind v vs i c) → ∀ i, ¬ ofKind { v with t := x } vs i c := by
    intro c hc hf i hi
    match i, hi with
    | 0, hi => have := f c hi; omega
    | 1, hi => exact hf 1 hi
    | 2, hi => exact hf 2 hi
    | 3, hi => exact hf 3 hi
    | 4, hi => exact hf 4 hi
  have fo := far2 ob hob h.g.var.far
  have O3 : OwnS (w1.setCell ⟨ob, 2, none⟩ x.val) lo { v with t := x } vs { s with tasks := xs } := S2.far fo _
  refine ⟨⟨⟨(h.g.var.box.keeps k).set 2 (by simp) x.val, O3, h.g.var.lob, fo⟩, (h.g.keeps k).goes.step O3 (TurnsB.putC (.inr h.g.new) [x.val] 2 (TurnsB.refl _ _)) fun i b hb => ?_, h.g.new⟩, (h.r.keeps k).far h.ne.symm _, far2 rb hl h.far, h.ne, h.new⟩
  match i, hb with
  | 0, hb => exact .inr (Nat.le_trans h.g.goes.turn.size (f b hb))
  | 1, hb => exact .inl ⟨1, hb⟩
  | 2, hb => exact .inl ⟨2, hb⟩
  | 3, hb => exact .inl ⟨3, hb⟩
  | 4, hb => exact .inl ⟨4, hb⟩
/-- The ghosts have grown, and are stored. -/
theorem AskR.ghosts {w1 w2 : World} (h : AskR w0 lo v0 vs0 w ob rb v vs s) (k : Keeps w w1) {x : Rw} {xs : List Gh} (O : Own 129 4 ghc w2 lo x.val xs) (g : w1.grownBy w2 v.g.val.ownBlock) (f : ∀ q, x.val.ownBlock = some q → v.g.val.ownBlock = some q ∨ w1.heap.size ≤ q) :
    AskR w0 lo v0 vs0 (w2.setCell ⟨ob, 4, none⟩ x.val) ob rb { v with g := x } vs { s with ghosts := xs } := by
  have hl := (h.r.keeps k).lt
  refine ⟨h.g.ghosts k O g f, ((h.r.keeps k).grown g (fun q e e2 => h.far 2 (by rw [← e2]; exact e))).far h.ne.symm _, ?_, h.ne, h.new⟩
  intro i hi
  match i, hi with
  | 0, hi => exact h.far 0 hi
  | 1, hi => exact h.far 1 hi
  | 2, hi =>
    rcases f rb hi with h2 | h2
    · exact h.far 2 h2
    · omega
  | 3, hi => exact h.far 3 hi
  | 4, hi => exact h.far 4 hi
theorem AskR.task (h : AskR w0 lo v0 vs0 w ob rb v vs s) {tb : Nat} (ha : v.t.a = some ⟨tb, 0, none⟩) {k : Nat} (hk : k < s.tasks.length) (x : Tsk) : AskR w0 lo v0 vs0 (putC w tb (k * 14) (tc x).toList) ob rb v vs { s with tasks := s.tasks.set k x } := by
  have ho : ofKind v vs 0 tb := by show v.t.val.ownBlock = some tb; rw [Rw.val, ha]; rfl
  have hne : tb ≠ rb := fun e => h.far 0 (by rw [← e]; exact ho)
  exact ⟨h.g.task ha hk x, Blk.farC hne _ _ h.r, h.far, h.ne, h.new⟩
theorem AskR.num (h : AskR w0 lo v0 vs0 w ob rb v vs s) (now cpus seq missed : Int) {k : Nat} {x : Value} (e : (syc s v).setIfInBounds k x = syc { s with now := now, cpus := cpus, seq := seq, missed := missed } v) (hk : k < 9) : AskR w0 lo v0 vs0 (w.setCell ⟨ob, k, none⟩ x) ob rb v vs { s with now := now, cpus := cpus, seq := seq, missed := missed } :=
  ⟨h.g.num now cpus seq missed e hk, h.r.far h.ne.symm _, h.far, h.ne, h.new⟩
/-- The end: the system is stored as what is told. -/
theorem AskR.fin (h : AskR w0 lo v0 vs0 w ob rb v vs s) : Blk (putC w rb 0 (syc s v).toList) rb (syc s v) ∧ Goes w0 lo v0 vs0 (putC w rb 0 (syc s v).toList) v vs s :=
  ⟨h.r.putC (syc s v).toList rfl, (h.g.elsewhere h.far h.ne h.new (syc s v).toList 0).goes⟩
end
/-- The boxes that a call begins with. -/
abbrev boxes3 (w : World) (v : Sv) (s : Sy) (c : Cl) : World := ((w.alloc (.cells (syc s v) 43)).alloc (.cells (cc c) 25)).alloc (.cells zc 43)
abbrev boxes2 (w : World) (v : Sv) (s : Sy) : World := (w.alloc (.cells (syc s v) 43)).alloc (.cells zc 43)
theorem ask3 {w : World} {lo : Nat} {v : Sv} {vs : List Lv} {s : Sy} (h : OwnS w lo v vs s) (hl : lo ≤ w.heap.size) (c : Cl) :
    AskR w lo v vs (boxes3 w v s c) w.heap.size (w.heap.size + 2) v vs s ∧ Blk (boxes3 w v s c) (w.heap.size + 1) (cc c) ∧ Keeps w (boxes3 w v s c) := by
  refine ⟨⟨(VarG.start h hl).keeps (((Keeps.refl _).alloc _).alloc _), ?_, fun i hi => by have := (h.blkLt hi).2; omega, by omega, by omega⟩, ?_, (((Keeps.refl w).alloc _).alloc _).alloc _⟩
  · have := Blk.new ((w.alloc (.cells (syc s v) 43)).alloc (.cells (cc c) 25)) zc 43
    simpa using this
  · have := (Blk.new (w.alloc (.cells (syc s v) 43)) (cc c) 25).alloc (.cells zc 43)
    simpa using this
theorem ask2 {w : World} {lo : Nat} {v : Sv} {vs : List Lv} {s : Sy} (h : OwnS w lo v vs s) (hl : lo ≤ w.heap.size) :
    AskR w lo v vs (boxes2 w v s) w.heap.size (w.heap.size + 1) v vs s ∧ Keeps w (boxes2 w v s) := by
  refine ⟨⟨(VarG.start h hl).keeps ((Keeps.refl _).alloc _), ?_, fun i hi => by have := (h.blkLt hi).2; omega, by omega, by omega⟩, ((Keeps.refl w).alloc _).alloc _⟩
  have := Blk.new (w.alloc (.cells (syc s v) 43)) zc 43
  simpa using this
/-- What a call tells of a system of one's own, and its code. -/
def Did (w : World) (lo : Nat) (v : Sv) (vs : List Lv) (n : Int) (s0 : Sy) (e : Ending) (w' : World) : Prop := ∃ s' v' vs', e = .returned (.tuple #[.agg (syc s' v'), .int .i64 n]) ∧ (n = 0 → s' = s0) ∧ Goes w lo v vs w' v' vs' s'
theorem Did.of {w : World} {lo : Nat} {v : Sv} {vs : List Lv} {n m : Int} {s0 s' : Sy} {w' : World} {v' : Sv} {vs' : List Lv} (hm : n = m) (hs : m = 0 → s' = s0) (g : Goes w lo v vs w' v' vs' s') : Did w lo v vs n s0 (.returned (.tuple #[.agg (syc s' v'), .int .i64 m])) w' :=
  ⟨s', v', vs', by rw [hm], fun h => hs (by rw [← hm]; exact h), g⟩
/-- The same as the end of a function. -/
theorem AskR.ret {P : Program} {fn : Func} {a : Act} {w0 w : World} {lo ob rb : Nat} {v0 v : Sv} {vs0 vs : List Lv} {s s0 : Sy} {n m : Int} (h : AskR w0 lo v0 vs0 w ob rb v vs s) (hn : n = m) (hs : m = 0 → s = s0) (hd : a.defers = [])
    (hr : ∀ Q : World, (∀ k, Q.cell? ⟨rb, k, none⟩ = (syc s v)[k]?) → (results fn a.tmps).run P Q = .ok (.tuple #[.agg (syc s v), .int .i64 m]) Q) : bodyPost P fn (Did w0 lo v0 vs0 n s0) .ret a (putC w rb 0 (syc s v).toList) := by
  obtain ⟨D, GZ⟩ := h.fin
  exact bodyPost_ret (hr _ D.cells) hd (Did.of hn hs GZ)
set_option maxRecDepth 100000 in
theorem On.sWaitAt {w w' : World} {a : Option Addr} {m cap : Nat} {ls : List Lk} (h : On w a m cap ls) (x : Int) {z : Int} (hz : waitAt ls x = z) (k : Keeps w w') : Calls Tryz.prog 74 #[.slice a m cap, .int .i64 x] w' fun e w'' => e = .returned (.int .i64 z) ∧ Keeps w' w'' := by
  have h' := h.keeps k
  have := specWaitAt_any a cap ls x w' h'.small h'.lks
  rw [h'.len, hz] at this
  exact this
set_option maxRecDepth 100000 in
theorem On.sOwnsAny {w w' : World} {a : Option Addr} {m cap : Nat} {ls : List Lk} (h : On w a m cap ls) (x : Int) {z : Bool} (hz : ownsB ls x = z) (k : Keeps w w') : Calls Tryz.prog 96 #[.slice a m cap, .int .i64 x] w' fun e w'' => e = .returned (.bool z) ∧ Keeps w' w'' := by
  have h' := h.keeps k
  have := specOwnsAny_any a cap ls x w' h'.small h'.lks
  rw [h'.len, hz] at this
  exact this
theorem waitsAt_of {ls : List Lk} {i : Nat} {l : Lk} (h : ls[i]? = some l) : waitsAt ls i = l.waits := by simp [waitsAt, h]
theorem SysR.five {s : Sy} (h : SysR s) : s.locks.length = 5 := by
  have h2 := h.locks
  unfold sysLocksB at h2
  simp only [Bool.and_eq_true, beq_iff_eq] at h2
  exact h2.1
end Go.Proofs.YtpikopdfkhagmaaGreatDoor
