/-
  A struct is written over a block, cell by cell.
  Rows of locks: the laws' own helpers over them.
  Nothing old has turned, and a block holds its cells.
  What a heap's walk needs of every kind: loops of two rounds, appends in a drawn region, swaps of two elements of nine cells.
  Rows of locks: made anew, marked, and looked at again.
  Fixed priorities, as plain functions, and what holds of them.
  Fixed priorities: contracts of the model's functions.
-/
import Derived.Test.YtpikopdfkhagmaaGreatDoorCur
import Derived.Test.YtpikopdfkhagmaaGreatDoorOwn
import Derived.Deep.RegionHeld3
import Derived.Deep.RegionLaw
import Derived.BigRegion
import Derived.Test.YtpikopdfkhagmaaGreatDoorTaskSpec
namespace Go.Proofs.YtpikopdfkhagmaaGreatDoor
open Go.RowKit

/-- From the place k of the block b on stand these values. -/
def putC (w : World) (b k : Nat) : List Value → World
  | [] => w
  | v :: r => putC (w.setCell ⟨b, k, none⟩ v) b (k + 1) r
/-- The cells behind it. -/
def setL (C : Array Value) (k : Nat) : List Value → Array Value
  | [] => C
  | v :: r => setL (C.setIfInBounds k v) (k + 1) r
theorem setL_at : ∀ (L : List Value) (C : Array Value) (k i : Nat), k + L.length ≤ C.size → (setL C k L)[i]? = if k ≤ i ∧ i < k + L.length then L[i - k]? else C[i]?
  | [], C, k, i, _ => by rw [if_neg (by simp)]; rfl
  | v :: r, C, k, i, h => by
    simp only [List.length_cons] at h
    rw [setL, setL_at r _ _ _ (by simp; omega)]
    by_cases h1 : k + 1 ≤ i ∧ i < k + 1 + r.length
    · rw [if_pos h1, if_pos (by simp only [List.length_cons]; omega)]
      obtain ⟨j, hj⟩ : ∃ j, i - k = j + 1 := ⟨i - k - 1, by omega⟩
      rw [hj, List.getElem?_cons_succ]
      congr 1
      omega
    · rw [if_neg h1]
      by_cases e : k = i
      · subst e
        rw [if_pos (by simp only [List.length_cons]; omega), Array.getElem?_setIfInBounds_self_of_lt (by omega)]
        simp
      · rw [if_neg (by simp only [List.length_cons]; omega), Array.getElem?_setIfInBounds_ne e]
theorem setL_all {L : List Value} {C : Array Value} (h : L.length = C.size) : setL C 0 L = L.toArray := by
  apply Array.ext_getElem?
  intro i
  rw [setL_at _ _ _ _ (by omega)]
  by_cases hi : i < L.length
  · rw [if_pos (by omega)]; simp
  · rw [if_neg (by omega), Array.getElem?_eq_none (by omega), Array.getElem?_eq_none (by simp; omega)]
theorem Blk.putL {b : Nat} : ∀ (L : List Value) {C : Array Value} {w : World} (k : Nat), Blk w b C → k + L.length ≤ C.size → Blk (putC w b k L) b (setL C k L)
  | [], _, _, _, h, _ => h
  | v :: r, C, w, k, h, hk => by
    simp only [List.length_cons] at hk
    exact Blk.putL r (k + 1) (h.set k (by omega) v) (by simp; omega)
/-- The whole block is written. -/
theorem Blk.putC {w : World} {b : Nat} {C : Array Value} (h : Blk w b C) (L : List Value) (hl : L.length = C.size) : Blk (putC w b 0 L) b L.toArray := by
  rw [← setL_all hl]
  exact Blk.putL L 0 h (by omega)
theorem Blk.farC {b c : Nat} {C : Array Value} (hc : c ≠ b) : ∀ (L : List Value) {w : World} (k : Nat), Blk w b C → Blk (Go.Proofs.YtpikopdfkhagmaaGreatDoor.putC w c k L) b C
  | [], _, _, h => h
  | v :: r, _, k, h => Blk.farC hc r (k + 1) (h.far hc v)
theorem Keeps.putC {a : World} {b : Nat} (hp : a.heap.size ≤ b) : ∀ (L : List Value) {w : World} (k : Nat), Keeps a w → Keeps a (Go.Proofs.YtpikopdfkhagmaaGreatDoor.putC w b k L)
  | [], _, _, h => h
  | v :: r, _, k, h => Keeps.putC hp r (k + 1) (h.setCell hp v)
end Go.Proofs.YtpikopdfkhagmaaGreatDoor
namespace Go.Proofs.YtpikopdfkhagmaaGreatDoor
open Go.RowKit
variable {p p' : Bool}
attribute [local go_sem] Keeps.refl Keeps.alloc Keeps.drew Keeps.drewN

def sumW : List Lk → Nat
  | [] => 0
  | l :: r => l.waits.length + sumW r
theorem sumW_append (xs ys : List Lk) : sumW (xs ++ ys) = sumW xs + sumW ys := by
  induction xs with
  | nil => simp [sumW]
  | cons x r ih => simp only [List.cons_append, sumW, ih]; omega
theorem sumW_take {ls : List Lk} {k : Nat} {l : Lk} (h : ls[k]? = some l) : sumW (ls.take (k + 1)) = sumW (ls.take k) + l.waits.length := by
  rw [List.take_add_one, h, sumW_append]
  simp [sumW]
theorem sumW_le (ls : List Lk) (k : Nat) : sumW (ls.take k) ≤ sumW ls := by
  have := sumW_append (ls.take k) (ls.drop k)
  rw [List.take_append_drop] at this
  omega
theorem sumW_mem {ls : List Lk} {k : Nat} {l : Lk} (h : ls[k]? = some l) : l.waits.length ≤ sumW ls := by
  have := sumW_take h
  have := sumW_le ls (k + 1)
  omega
/-- How many numbers locks hold. -/
def sizeN (ls : List Lk) : Nat := ls.length + sumW ls
end Go.Proofs.YtpikopdfkhagmaaGreatDoor
namespace Go.Proofs.YtpikopdfkhagmaaGreatDoor
open Go.RowKit

/-- Nothing old has turned, and block b holds C. -/
structure Has (w : World) (b : Nat) (C : Array Value) (w' : World) : Prop where
  keeps : Keeps w w'
  box : Blk w' b C
theorem Has.go {w : World} {b : Nat} {C : Array Value} {w1 w2 : World} (h : Has w b C w1) (k : Keeps w1 w2) : Has w b C w2 := ⟨h.keeps.trans k, h.box.keeps k⟩
theorem Has.set {w : World} {b : Nat} {C : Array Value} {w1 : World} (h : Has w b C w1) {r : Nat} (hr : w.heap.size ≤ r) (hb : r ≠ b) (k : Nat) (v : Value) : Has w b C (w1.setCell ⟨r, k, none⟩ v) := ⟨h.keeps.setCell hr v, h.box.far hb v⟩
theorem Has.put {w : World} {b : Nat} {C : Array Value} {w1 : World} (h : Has w b C w1) {r : Nat} (hr : w.heap.size ≤ r) (hb : r ≠ b) (k : Nat) (L : List Value) : Has w b C (putC w1 r k L) := ⟨Keeps.putC hr L k h.keeps, Blk.farC hb L k h.box⟩
end Go.Proofs.YtpikopdfkhagmaaGreatDoor
namespace Go.Proofs.YtpikopdfkhagmaaGreatDoor
open Go.RowKit
theorem Own.free {α : Type} {e : TypeId} {sz : Nat} {c : α → Array Value} {w : World} {base b cap n : Nat} {xs : List α} (h : Own e sz c w base (.slice (Option.some ⟨b, 0, none⟩) n cap) xs) : base ≤ b ∧ b < w.heap.size ∧ ∀ k, w.frozen? ⟨b, k, none⟩ = false := by
  obtain ⟨_, ⟨e, _⟩ | ⟨b', cp, cur, e, hb, hh, _⟩⟩ := h
  · simp at e
  · simp only [Value.slice.injEq, Option.some.injEq, Addr.mk.injEq] at e
    obtain ⟨⟨rfl, -⟩, -, -⟩ := e
    have hlt : b < w.heap.size := by
      rcases Nat.lt_or_ge b w.heap.size with hlt | hge
      · exact hlt
      · rw [Array.getElem?_eq_none hge] at hh; cases hh
    exact ⟨hb, hlt, fun k => by simp [World.frozen?, hh]⟩
theorem Blk.grown {w w' : World} {b : Nat} {C : Array Value} {row : Option Nat} (h : Blk w b C) (hg : w.grownBy w' row) (hr : ∀ k, row = some k → k ≠ b) : Blk w' b C := by
  have e := hg.block b h.lt (fun e => hr b e.symm rfl)
  exact ⟨Nat.lt_of_lt_of_le h.lt hg.size, fun k => (World.cell?_of_block (w := w) e).trans (h.cells k), fun k => (World.frozen?_of_block (w := w) e).trans (h.frozens k)⟩

end Go.Proofs.YtpikopdfkhagmaaGreatDoor
namespace Go.Proofs.YtpikopdfkhagmaaGreatDoor
open Go.RowKit
variable {p p' : Bool}
attribute [local go_sem] Keeps.refl Keeps.alloc Keeps.drew Keeps.drewN

/-- One lock is another one. -/
theorem Mine.swap {w w' : World} {lo hi hi' : Nat} {v : Value} {vs : List Lv} {ls : List Lk} (h : Mine w lo hi v vs ls) {k : Nat} {x y : Lv} {l : Lk} (hx : vs[k]? = some x) (O : Own 92 2 lvc w' lo v (vs.set k y))
    (g : ∀ b, v.ownBlock ≠ some b → x.row.ownBlock ≠ some b → b < w.heap.size → w'.heap[b]? = w.heap[b]?) (he : y.o = l.owner) (ho : OwnN w' lo y.row l.waits) (hh : hi ≤ hi')
    (hb : ∀ b, y.row.ownBlock = some b → (hi ≤ b ∧ b < hi') ∨ x.row.ownBlock = some b) : Mine w' lo hi' v (vs.set k y) (ls.set k l) := by
  have hv : ∀ b, y.row.ownBlock = some b → b < hi' ∧ v.ownBlock ≠ some b := by
    intro b e
    rcases hb b e with ⟨h1, h2⟩ | h1
    · exact ⟨h2, fun e' => by have := h.out b e'; omega⟩
    · exact ⟨Nat.lt_of_lt_of_le (h.inn k x b hx h1).1 hh, (h.inn k x b hx h1).2⟩
  have ha : ∀ (j : Nat) (z : Lv) (b : Nat), j ≠ k → vs[j]? = some z → y.row.ownBlock = some b → z.row.ownBlock = some b → False := by
    intro j z b hj hz e1 e2
    rcases hb b e1 with ⟨h1, h2⟩ | h1
    · have := (h.inn j z b hz e2).1; omega
    · exact hj (h.apart j k z x b hz hx e2 h1)
  refine ⟨by simp [h.len], O, fun b e => Nat.lt_of_lt_of_le (h.out b e) hh, ?_, ?_, ?_⟩
  · intro i z m hz hm
    rcases set_at hz with ⟨rfl, rfl⟩ | ⟨hik, hz2⟩ <;> rcases set_at hm with ⟨h1, rfl⟩ | ⟨h1, hm2⟩
    · exact ⟨he, ho⟩
    · exact absurd rfl h1
    · exact absurd h1 hik
    · obtain ⟨r1, r2⟩ := h.rows i z m hz2 hm2
      exact ⟨r1, r2.same fun b e => g b (h.inn i z b hz2 e).2 (fun e' => hik (h.apart i k z x b hz2 hx e e')) (r2.ltb b e).2⟩
  · intro i z b hz e
    rcases set_at hz with ⟨rfl, rfl⟩ | ⟨hik, hz2⟩
    · exact hv b e
    · exact ⟨Nat.lt_of_lt_of_le (h.inn i z b hz2 e).1 hh, (h.inn i z b hz2 e).2⟩
  · intro i j p q b hp hq e1 e2
    rcases set_at hp with ⟨rfl, rfl⟩ | ⟨hik, hp2⟩ <;> rcases set_at hq with ⟨rfl, rfl⟩ | ⟨hjk, hq2⟩
    · rfl
    · exact (ha j q b hjk hq2 e1 e2).elim
    · exact (ha i p b hik hp2 e2 e1).elim
    · exact h.apart i j p q b hp2 hq2 e1 e2
/-- Two cells of an element are written. -/
theorem Own.setTwo {w : World} {base b n cap : Nat} {vs : List Lv} (h : Own 92 2 lvc w base (.slice (Option.some ⟨b, 0, none⟩) n cap) vs) {k : Nat} {x : Lv} (hx : vs[k]? = Option.some x) (y : Lv) :
    Own 92 2 lvc ((w.setCell ⟨b, k * 2, none⟩ (.int .i64 y.o)).setCell ⟨b, k * 2 + 1, none⟩ y.row) base (.slice (Option.some ⟨b, 0, none⟩) n cap) (vs.set k y) := by
  have h1 := h.setAt lvc_size (i := k) (j := 0) (x := x) (y := { x with o := y.o }) (u := .int .i64 y.o) hx (by omega) rfl
  have hl := lt_of_some hx
  have h2 := h1.setAt lvc_size (i := k) (j := 1) (x := { x with o := y.o }) (y := y) (u := y.row) (List.getElem?_set_self hl) (by omega) rfl
  rw [List.set_set] at h2
  exact h2

/-- What make lays, of elements of whatever size, cell by cell. -/
theorem run_make_zero {P : Program} (t e : TypeId) (z : Value) (size bytes : Nat) (ht : P.underlying t = some (.slice e)) (hinfo : (P.info? e).map (fun i => (i.zero, i.size, i.bytes)) = some (some z, size, bytes))
    (n : Nat) (hbytes : bytes * n ≤ 281474976710656) (h63 : n ≤ 9223372036854775807) :
    ∀ w : World, (Instr.makeSlice t (.int .i64 (n : Int)) (.int .i64 (n : Int))).run P w = .ok (.slice (some ⟨w.heap.size, 0, none⟩) n n) (w.alloc (.cells (madeCells z.cells (n * size)) e)) := by
  obtain ⟨i, hi, hzz⟩ := Option.map_eq_some_iff.1 hinfo
  simp only [Prod.mk.injEq] at hzz
  obtain ⟨hz, hs, hb⟩ := hzz
  intro w
  have hb' : (i.bytes : Int) * (n : Int) ≤ 281474976710656 := by
    have h : ((i.bytes * n : Nat) : Int) ≤ 281474976710656 := by rw [hb]; omega
    rwa [Int.natCast_mul] at h
  have hr := run_make (P := P) w t e i z ht hi hz .i64 .i64 n n (by omega) (Int.le_refl _) hb' (by omega)
  simp only [Int.toNat_natCast, hs] at hr
  exact hr
abbrev Lv.zero : Lv := ⟨0, none, 0, 0⟩
theorem flat_zero (n : Nat) : (madeCells #[.int .i64 0, .slice none 0 0] (n * 2)).toList = flatC lvc (List.replicate n Lv.zero) := by
  apply List.ext_getElem?
  intro j
  by_cases hj : j < n * 2
  · have hq : j / 2 < n := by omega
    have := flatC_at lvc_size (List.replicate n Lv.zero) (j / 2) Lv.zero (by simp [hq]) (j % 2) (by omega)
    rw [show j / 2 * 2 + j % 2 = j from by omega] at this
    rw [this]
    simp only [madeCells, Array.getElem?_toList, Array.getElem?_map, Array.getElem?_range, hj, if_true, Option.map_some]
    rcases (show j % 2 = 0 ∨ j % 2 = 1 by omega) with e | e <;> simp [e]
  · rw [List.getElem?_eq_none (by simpa [madeCells] using hj), List.getElem?_eq_none]
    have := flatC_length lvc_size (List.replicate n Lv.zero)
    simp at this
    omega
/-- Locks that nobody has. -/
theorem Mine.zero (w : World) (n : Nat) (hn : n ≤ maxLen) : Mine (w.alloc (.cells (madeCells #[.int .i64 0, .slice none 0 0] (n * 2)) 92)) w.heap.size (w.heap.size + 1) (.slice (some ⟨w.heap.size, 0, none⟩) n n) (List.replicate n Lv.zero) (List.replicate n ⟨0, []⟩) := by
  refine ⟨by simp, ?_, ?_, ?_, ?_, ?_⟩
  · have := World.ownsRow_lit (e := 92) (size := 2) (base := w.heap.size) w (madeCells #[.int .i64 0, .slice none 0 0] (n * 2)) n (Nat.le_refl _) hn (size_madeCells _ _)
    rw [flat_zero] at this
    unfold Own
    rw [List.length_replicate]
    exact this
  · intro b hb
    simp only [Value.ownBlock, Option.some.injEq] at hb
    omega
  · intro i x l hx hl
    have e1 := List.eq_of_mem_replicate (List.mem_of_getElem? hx)
    have e2 := List.eq_of_mem_replicate (List.mem_of_getElem? hl)
    subst e1 e2
    exact ⟨rfl, World.ownsRow_nil _ _ _ _⟩
  · intro i x b hx hb
    have e1 := List.eq_of_mem_replicate (List.mem_of_getElem? hx)
    subst e1
    simp [Value.ownBlock] at hb
  · intro i j x y b hx hy h1 h2
    have e1 := List.eq_of_mem_replicate (List.mem_of_getElem? hx)
    subst e1
    simp [Value.ownBlock] at h1

end Go.Proofs.YtpikopdfkhagmaaGreatDoor
namespace Go.Proofs.YtpikopdfkhagmaaGreatDoor
open Go.RowKit

/-- It is a task of a fixed priority. -/
def fixB (t : Tsk) : Bool := taskB t && t.cls == 2
def fixBefB (a b : Tsk) : Bool := fixB a && fixB b && (if a.prio != b.prio then decide (b.prio < a.prio) else if a.seq != b.seq then decide (a.seq < b.seq) else decide (a.no < b.no))
/-- It goes behind. -/
def turnB (t : Tsk) (seq : Int) : Bool := fixB t && !(t.round == 0) && !decide (1 < t.left) && inB seq 0 1000000
/-- What it is then. -/
def fixSpendT (t : Tsk) (seq : Int) : Tsk := if fixB t && !(t.round == 0) then (if decide (1 < t.left) then { t with left := t.left - 1 } else if inB seq 0 1000000 then { t with left := t.round, seq := seq } else t) else t

/-- What such a task holds. -/
structure IsFix (t : Tsk) : Prop where
  cls : t.cls = 2
  no : 1 ≤ t.no ∧ t.no ≤ 1000
  cpu : 0 ≤ t.cpu ∧ t.cpu ≤ 3
  st : 1 ≤ t.st ∧ t.st ≤ 2
  prio : 1 ≤ t.prio ∧ t.prio ≤ 20
  round : 0 ≤ t.round ∧ t.round ≤ 10
  left : min t.round 1 ≤ t.left ∧ t.left ≤ t.round
  seq : 0 ≤ t.seq ∧ t.seq ≤ 1000000
  none : t.q = 0 ∧ t.p = 0 ∧ t.due = 0 ∧ t.nice = 0 ∧ t.v = 0
theorem fixB_iff (t : Tsk) : fixB t = true ↔ IsFix t := by
  constructor
  · intro h
    simp only [fixB, Bool.and_eq_true, beq_iff_eq] at h
    obtain ⟨h1, h2⟩ := h
    simp [taskB, cleanB, ofClassB, h2, dueZ, fairZ, inB_iff] at h1
    obtain ⟨⟨⟨⟨hno, hcpu⟩, hst⟩, hz⟩, ⟨⟨hp, hr⟩, hl⟩, hs⟩ := h1
    exact ⟨h2, by omega, by omega, by omega, by omega, by omega, by omega, by omega, by omega, by omega, by omega, by omega, by omega⟩
  · rintro ⟨h2, hno, hcpu, hst, hp, hr, hl, hs, h0, h1, h3, h4, h5⟩
    simp [fixB, taskB, cleanB, ofClassB, h2, dueZ, fairZ, inB_iff, h0, h1, h3, h4, h5]
    omega
/-- So many ticks spent, of at most its round. -/
def turned (t : Tsk) (seq i : Int) : Tsk := if i < t.left then { t with left := t.left - i } else { t with left := t.round - (i - t.left), seq := seq }
end Go.Proofs.YtpikopdfkhagmaaGreatDoor
namespace Go.Proofs.YtpikopdfkhagmaaGreatDoor
open Go.RowKit
attribute [local go_sem] Keeps.refl Keeps.alloc Keeps.drew Keeps.drewN

set_option maxRecDepth 100000 in
theorem l5Fixed_any (t : Tsk) (w : World) :
    Calls Tryz.prog 137 #[tk t] w fun e w' => e = .returned (.bool (fixB t)) ∧ Keeps w w' := by
  go_enter Tryz.func137, Tryz.ntmps137
  go_wp2_with fail
  refine (specTaskOk_any t _).mono ?_
  rintro e w1 ⟨rfl, k1⟩
  have B1 := (Blk.new w (tc t) 90).keeps k1
  have K1 : Keeps w w1 := ((Keeps.refl w).alloc _).trans k1
  obtain ⟨_, b1, b2⟩ := B1
  clear k1
  cases hb : taskB t
  · have Hr : Hid (fixB t = false) := by show _ = _; simp [fixB, hb]
    go_wp2
    go_ret
    exact ⟨by rw [Hr.out]; rfl, K1⟩
  · have Hr : Hid (fixB t = (t.cls == 2)) := by show _ = _; simp [fixB, hb]
    go_wp2
    go_ret
    exact ⟨by rw [Hr.out]; rfl, K1⟩

set_option maxRecDepth 100000 in
set_option maxHeartbeats 4000000 in
theorem specFixedSpend_any (t : Tsk) (seq : Int) (w : World) :
    Calls Tryz.prog 129 #[tk t, .int .i64 seq] w fun e w' => e = .returned (.tuple #[tk (fixSpendT t seq), .bool (turnB t seq)]) ∧ Keeps w w' := by
  go_enter Tryz.func129, Tryz.ntmps129
  go_wp2_with fail
  refine (l5Fixed_any t _).mono ?_
  rintro e w1 ⟨rfl, k1⟩
  have B1 := ((Blk.new w (tc t) 90).alloc (.cells (tc Tsk.zero) 90)).keeps k1
  have B2 := (Blk.new (w.alloc (.cells (tc t) 90)) (tc Tsk.zero) 90).keeps k1
  have K1 : Hid (Keeps w w1) := (((Keeps.refl w).alloc _).alloc _).trans k1
  simp only [World.size_alloc] at B2
  have R : Hid (Blk w1 (w.heap.size + 1) (tc Tsk.zero)) := B2
  obtain ⟨_, b1, b2⟩ := B1
  obtain ⟨_, c1, c2⟩ := B2
  clear k1
  cases hd : fixB t
  · have Hn : Hid (fixSpendT t seq = t) := by show _ = _; simp [fixSpendT, hd]
    have Hg : Hid (turnB t seq = false) := by show _ = _; simp [turnB, hd]
    go_wp2
    have D := R.out.putC (tc (t)).toList rfl
    have K := Keeps.putC (b := w.heap.size + 1) (by omega) (tc (t)).toList 0 K1.out
    change bodyPost _ _ _ _ _ (putC w1 (w.heap.size + 1) 0 (tc (t)).toList)
    generalize putC w1 (w.heap.size + 1) 0 (tc (t)).toList = Z at D K ⊢
    exact bodyPost_ret (v := .tuple #[tk (t), .bool false]) (by simp [results, Tryz.results129, go_sem, D.cells]) rfl ⟨by rw [Hn.out, Hg.out], K⟩
  · cases hr : (t.round == 0)
    rotate_left
    · have Hn : Hid (fixSpendT t seq = t) := by show _ = _; simp [fixSpendT, hr]
      have Hg : Hid (turnB t seq = false) := by show _ = _; simp [turnB, hr]
      go_wp2
      have D := R.out.putC (tc (t)).toList rfl
      have K := Keeps.putC (b := w.heap.size + 1) (by omega) (tc (t)).toList 0 K1.out
      change bodyPost _ _ _ _ _ (putC w1 (w.heap.size + 1) 0 (tc (t)).toList)
      generalize putC w1 (w.heap.size + 1) 0 (tc (t)).toList = Z at D K ⊢
      exact bodyPost_ret (v := .tuple #[tk (t), .bool false]) (by simp [results, Tryz.results129, go_sem, D.cells]) rfl ⟨by rw [Hn.out, Hg.out], K⟩
    · have H := (fixB_iff t).1 hd
      obtain ⟨r0, r1⟩ := H.round
      obtain ⟨l0, l1⟩ := H.left
      clear H
      cases hl : decide (1 < t.left)
      rotate_left
      · have Hn : Hid (fixSpendT t seq = { t with left := t.left - 1 }) := by show _ = _; simp only [fixSpendT, hd, hr, hl, Bool.not_false, Bool.and_true, if_true]
        have Hg : Hid (turnB t seq = false) := by show _ = _; simp only [turnB, hl, Bool.not_true, Bool.and_false, Bool.false_and]
        go_wp2
        have D := (R.out.far (c := w.heap.size) (o := 7) (by omega) (.int .i64 (t.left - 1))).putC (tc ({ t with left := t.left - 1 })).toList rfl
        have K := Keeps.putC (b := w.heap.size + 1) (by omega) (tc ({ t with left := t.left - 1 })).toList 0 (K1.out.setCell (p := ⟨w.heap.size, 7, none⟩) (Nat.le_refl _) (.int .i64 (t.left - 1)))
        change bodyPost _ _ _ _ _ (putC (w1.setCell ⟨w.heap.size, 7, none⟩ (.int .i64 (t.left - 1))) (w.heap.size + 1) 0 (tc ({ t with left := t.left - 1 })).toList)
        generalize putC (w1.setCell ⟨w.heap.size, 7, none⟩ (.int .i64 (t.left - 1))) (w.heap.size + 1) 0 (tc ({ t with left := t.left - 1 })).toList = Z at D K ⊢
        exact bodyPost_ret (v := .tuple #[tk ({ t with left := t.left - 1 }), .bool false]) (by simp [results, Tryz.results129, go_sem, D.cells]) rfl ⟨by rw [Hn.out, Hg.out], K⟩
      · cases hi : inB seq 0 1000000
        · have Hn : Hid (fixSpendT t seq = t) := by show _ = _; simp only [fixSpendT, hd, hr, hl, hi, Bool.not_false, Bool.and_true, if_true, Bool.false_eq_true, if_false]
          have Hg : Hid (turnB t seq = false) := by show _ = _; simp only [turnB, hi, Bool.and_false]
          go_wp2_with (go_at_call 29; refine (l1In_any _ _ _ _).mono ?_; rintro e w' ⟨rfl, hw'⟩; have hw2 := hw'.symm; subst hw2)
          have D := R.out.putC (tc (t)).toList rfl
          have K := Keeps.putC (b := w.heap.size + 1) (by omega) (tc (t)).toList 0 K1.out
          change bodyPost _ _ _ _ _ (putC w1 (w.heap.size + 1) 0 (tc (t)).toList)
          generalize putC w1 (w.heap.size + 1) 0 (tc (t)).toList = Z at D K ⊢
          exact bodyPost_ret (v := .tuple #[tk (t), .bool false]) (by simp [results, Tryz.results129, go_sem, D.cells]) rfl ⟨by rw [Hn.out, Hg.out], K⟩
        · have Hn : Hid (fixSpendT t seq = { t with left := t.round, seq := seq }) := by show _ = _; simp only [fixSpendT, hd, hr, hl, hi, Bool.not_false, Bool.and_true, if_true, Bool.false_eq_true, if_false]
          have Hg : Hid (turnB t seq = true) := by show _ = _; simp only [turnB, hd, hr, hl, hi, Bool.not_false, Bool.and_true]
          go_wp2_with (go_at_call 29; refine (l1In_any _ _ _ _).mono ?_; rintro e w' ⟨rfl, hw'⟩; have hw2 := hw'.symm; subst hw2)
          have D := ((R.out.far (c := w.heap.size) (o := 7) (by omega) (.int .i64 (t.round))).far (c := w.heap.size) (o := 11) (by omega) (.int .i64 (seq))).putC (tc ({ t with left := t.round, seq := seq })).toList rfl
          have K := Keeps.putC (b := w.heap.size + 1) (by omega) (tc ({ t with left := t.round, seq := seq })).toList 0 ((K1.out.setCell (p := ⟨w.heap.size, 7, none⟩) (Nat.le_refl _) (.int .i64 (t.round))).setCell (p := ⟨w.heap.size, 11, none⟩) (Nat.le_refl _) (.int .i64 (seq)))
          change bodyPost _ _ _ _ _ (putC ((w1.setCell ⟨w.heap.size, 7, none⟩ (.int .i64 (t.round))).setCell ⟨w.heap.size, 11, none⟩ (.int .i64 (seq))) (w.heap.size + 1) 0 (tc ({ t with left := t.round, seq := seq })).toList)
          generalize putC ((w1.setCell ⟨w.heap.size, 7, none⟩ (.int .i64 (t.round))).setCell ⟨w.heap.size, 11, none⟩ (.int .i64 (seq))) (w.heap.size + 1) 0 (tc ({ t with left := t.round, seq := seq })).toList = Z at D K ⊢
          exact bodyPost_ret (v := .tuple #[tk ({ t with left := t.round, seq := seq }), .bool true]) (by simp [results, Tryz.results129, go_sem, D.cells]) rfl ⟨by rw [Hn.out, Hg.out], K⟩

set_option maxRecDepth 100000 in
set_option maxHeartbeats 2000000 in
theorem specFixedBefore_any (a b : Tsk) (w : World) :
    Calls Tryz.prog 133 #[tk a, tk b] w fun e w' => e = .returned (.bool (fixBefB a b)) ∧ Keeps w w' := by
  go_enter Tryz.func133, Tryz.ntmps133
  go_wp2_with fail
  have kW : Keeps w ((w.alloc (.cells (tc a) 90)).alloc (.cells (tc b) 90)) := ((Keeps.refl w).alloc _).alloc _
  have r1 : ∀ w', Keeps ((w.alloc (.cells (tc a) 90)).alloc (.cells (tc b) 90)) w' → ∀ k, w'.cell? ⟨w.heap.size, k, none⟩ = (tc a)[k]? := fun w' h => (((Blk.new w (tc a) 90).alloc _).keeps h).cells
  have r2 : ∀ w', Keeps ((w.alloc (.cells (tc a) 90)).alloc (.cells (tc b) 90)) w' → ∀ k, w'.cell? ⟨w.heap.size + 1, k, none⟩ = (tc b)[k]? := fun w' h => by
    have := (Blk.new (w.alloc (.cells (tc a) 90)) (tc b) 90).keeps h
    simp only [World.size_alloc] at this
    exact this.cells
  generalize (w.alloc (.cells (tc a) 90)).alloc (.cells (tc b) 90) = W at *
  refine (l5Fixed_any a _).mono ?_
  rintro e w1 ⟨rfl, k1⟩
  cases ha : fixB a
  · have Hr : Hid (fixBefB a b = false) := by show _ = _; simp [fixBefB, ha]
    go_wp2
    go_ret
    exact ⟨by rw [Hr.out]; rfl, kW.trans k1⟩
  · go_wp2_with fail
    refine (l5Fixed_any b _).mono ?_
    rintro e w2 ⟨rfl, k2⟩
    have K2 := k1.trans k2
    cases hb : fixB b
    · have Hr : Hid (fixBefB a b = false) := by show _ = _; simp [fixBefB, hb]
      go_wp2
      go_ret
      exact ⟨by rw [Hr.out]; rfl, kW.trans K2⟩
    · cases h1 : (a.prio != b.prio)
      · cases h2 : (a.seq != b.seq)
        · have Hr : Hid (fixBefB a b = decide (a.no < b.no)) := by show _ = _; simp only [fixBefB, ha, hb, h1, h2, Bool.true_and, Bool.false_eq_true, if_false]
          go_wp2
          go_ret
          exact ⟨by rw [Hr.out]; rfl, kW.trans K2⟩
        · have Hr : Hid (fixBefB a b = decide (a.seq < b.seq)) := by show _ = _; simp only [fixBefB, ha, hb, h1, h2, Bool.true_and, Bool.false_eq_true, if_false, if_true]
          go_wp2
          go_ret
          exact ⟨by rw [Hr.out]; rfl, kW.trans K2⟩
      · have Hr : Hid (fixBefB a b = decide (b.prio < a.prio)) := by show _ = _; simp only [fixBefB, ha, hb, h1, Bool.true_and, if_true]
        go_wp2
        go_ret
        exact ⟨by rw [Hr.out]; rfl, kW.trans K2⟩
end Go.Proofs.YtpikopdfkhagmaaGreatDoor
