/-
  Numbers in digits as the library writes them; the places of a call's numbers; which calls have a line: plain facts.
-/
import Derived.Test.YtpikopdfkhagmaaDoorDeskParseP
import Derived.Test.YtpikopdfkhagmaaDoorDeskShelf
import Derived.Test.YtpikopdfkhagmaaDoorCallSpec
namespace Go.Proofs.YtpikopdfkhagmaaDoor
open Go.RowKit

theorem dec_digs : ∀ (f n : Nat), n ≤ f → 0 < n → Lib.decDigits n = digs n
  | 0, n, h, h0 => by omega
  | f + 1, n, h, h0 => by
    rw [Lib.decDigits, digs_pos h0]
    by_cases hl : n < 10
    · rw [dif_pos hl, show n / 10 = 0 from by omega, show n % 10 = n from by omega]
      rfl
    · rw [dif_neg hl, dec_digs f (n / 10) (by omega) (by omega)]
      rfl
theorem itoa_numL (n : Int) : Lib.itoa n = numL n := by
  unfold Lib.itoa numL
  by_cases h : n < 0
  · rw [if_pos h, if_pos h, dec_digs n.natAbs n.natAbs (Nat.le_refl _) (by omega)]
  · rw [if_neg h, if_neg h]
    by_cases h0 : n = 0
    · subst h0
      rw [if_pos rfl]
      show Lib.decDigits 0 = [48]
      rw [Lib.decDigits, dif_pos (by omega)]
      rfl
    · rw [if_neg h0, show n.toNat = n.natAbs from by omega, dec_digs n.natAbs n.natAbs (Nat.le_refl _) (by omega)]
/-- The table of the library's that a number is written by. -/
def GlobT (w : World) : Prop := Lib.TabIs Tryd.prog w "internal/strconv.uint64pow10" .u64 Lib.pow10Tab
set_option maxRecDepth 100000 in
theorem globT_at : Tryd.prog.globalNamed "internal/strconv.uint64pow10" = some 1 := by kernel_rfl
theorem GlobT.keeps {w w' : World} (h : GlobT w) (k : Keeps w w') : GlobT w' := by
  unfold GlobT Lib.TabIs at h ⊢
  rw [← h]
  unfold World.var?
  unfold World.var? at h
  rw [globT_at] at h ⊢
  simp only [Option.bind_some] at h ⊢
  have hlt : 1 < w.heap.size := by
    rcases Nat.lt_or_ge 1 w.heap.size with h1 | h1
    · exact h1
    · rw [Array.getElem?_eq_none h1] at h
      cases h
  rw [Below.block k _ hlt]
theorem keeps_grow (w : World) (n : Nat) (os : Array Obj) : Keeps w (Sort.grow (w.drewN n) os) := by
  refine ⟨rfl, rfl, rfl, ?_, fun b hb => ?_⟩
  · rw [Sort.size_grow]
    exact Nat.le_add_right _ _
  · show (w.heap ++ os)[b]? = _
    rw [Array.getElem?_append_left hb]
set_option maxRecDepth 100000 in
theorem itoa_any (n : Int) (w : World) (hg : GlobT w) (h0 : -99999999 ≤ n) (h1 : n ≤ 99999999) :
    Calls Tryd.prog 25 #[.int .i64 n] w fun e w' => e = .returned (strV (numL n)) ∧ Keeps w w' := by
  refine (Any.strconv_Itoa Tryd.lays171 n (by omega) (by omega) w hg).mono ?_
  rintro e w' ⟨rfl, k, os, rfl⟩
  exact ⟨by rw [itoa_numL], keeps_grow w k os⟩
/-- The places of a kind's numbers in a call. -/
def placesO (k : Int) : List Nat :=
  if k == 1 || k == 2 then [1, 2, 3, 4] else if k == 3 then [1, 2, 3] else if k == 7 || k == 8 || k == 9 then [1, 3]
  else if k == 10 then [1, 2] else if k == 11 then [3] else [1]
theorem places_length (c : Cl) : (placesO c.kind).length = (numsL c).length := by
  unfold placesO numsL
  repeat' split
  all_goals simp
theorem places_at {c : Cl} {i : Nat} {x : Int} (h : (numsL c)[i]? = some x) : ∃ o, (placesO c.kind)[i]? = some o ∧ (cc c)[o]? = some (.int .i64 x) := by
  unfold numsL at h
  unfold placesO
  have hi : i < 4 := by
    rcases Nat.lt_or_ge i 4 with h1 | h1
    · exact h1
    · repeat' split at h
      all_goals rw [List.getElem?_eq_none (by simp; omega)] at h
      all_goals cases h
  have h4 : i = 0 ∨ i = 1 ∨ i = 2 ∨ i = 3 := by omega
  repeat' split at h
  all_goals rcases h4 with rfl | rfl | rfl | rfl
  all_goals simp at h
  all_goals subst h
  all_goals simp_all
/-- What the program asks of a call that has a line. -/
def leastK (c : Cl) : Int := if c.kind == 3 || c.kind == 9 then -9 else 0
def hasLB (c : Cl) : Bool := callB c && (inB c.no 0 9999999 && (inB c.cpu 0 9999999 && (inB c.a (leastK c) 9999999 && inB c.b 0 9999999)))
theorem has_line (c : Cl) : hasLB c = lineB c := by
  unfold hasLB lineB
  cases h : callB c
  · rfl
  obtain ⟨k, no, cpu, a, b⟩ := c
  unfold callB at h
  rw [Bool.and_eq_true] at h
  have hk := inB_iff.1 h.1
  simp only at hk
  have h2 : k = 1 ∨ k = 2 ∨ k = 3 ∨ k = 4 ∨ k = 5 ∨ k = 6 ∨ k = 7 ∨ k = 8 ∨ k = 9 ∨ k = 10 ∨ k = 11 := by omega
  have he := h.2
  clear h hk
  rcases h2 with rfl | rfl | rfl | rfl | rfl | rfl | rfl | rfl | rfl | rfl | rfl <;> simp [eqC, cleanC] at he <;> simp [firstsB, numOkB, leastI, leastK, numsL, inB, he, Bool.and_assoc]
/-- What a call that has a line is like. -/
theorem lineB_parts {c : Cl} (h : lineB c = true) : (1 ≤ c.kind ∧ c.kind ≤ 11) ∧ callB c = true ∧ firstsB c (numsL c).length = true := by
  unfold lineB at h
  rw [Bool.and_eq_true] at h
  refine ⟨?_, h.1, h.2⟩
  have h1 := h.1
  unfold callB at h1
  rw [Bool.and_eq_true] at h1
  exact inB_iff.1 h1.1
end Go.Proofs.YtpikopdfkhagmaaDoor
