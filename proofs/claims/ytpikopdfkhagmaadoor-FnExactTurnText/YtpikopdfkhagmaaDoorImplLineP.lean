/-
  Numbers in digits as the library writes them; the places of a call's numbers; which calls have a line: plain facts.
-/
import Derived.Test.YtpikopdfkhagmaaDoorSysPure2
import Derived.Test.YtpikopdfkhagmaaDoorDeskShelf
namespace Go.Proofs.YtpikopdfkhagmaaDoor
open Go.RowKit

theorem dec_digs : ∀ (f n : Nat), n ≤ f → 0 < n → Lib.decDigits n = digs n
  | 0, n, h, h0 => by omega
  | f + 1, n, h, h0 => by
    rw [Lib.decDigits, digs_pos h0]
    by_cases hl : n < 10
    · rw [dif_pos hl, show n / 10 = 0 from by omega, show n % 10 = n from by omega]
      rfl
    · rw [dif_neg hl, dec_digs f (n / 10) (by omega) (by omega)]
      rfl
theorem itoa_numL (n : Int) : Lib.itoa n = numL n := by
  unfold Lib.itoa numL
  by_cases h : n < 0
  · rw [if_pos h, if_pos h, dec_digs n.natAbs n.natAbs (Nat.le_refl _) (by omega)]
  · rw [if_neg h, if_neg h]
    by_cases h0 : n = 0
    · subst h0
      rw [if_pos rfl]
      show Lib.decDigits 0 = [48]
      rw [Lib.decDigits, dif_pos (by omega)]
      rfl
    · rw [if_neg h0, show n.toNat = n.natAbs from by omega, dec_digs n.natAbs n.natAbs (Nat.le_refl _) (by omega)]
/-- The table of the library's that a number is written by. -/
def GlobT (w : World) : Prop := Lib.TabIs Tryd.prog w "internal/strconv.uint64pow10" .u64 Lib.pow10Tab
set_option maxRecDepth 100000 in
theorem globT_at : Tryd.prog.globalNamed "internal/strconv.uint64pow10" = some 1 := by kernel_rfl
theorem GlobT.keeps {w w' : World} (h : GlobT w) (k : Keeps w w') : GlobT w' := by
  unfold GlobT Lib.TabIs at h ⊢
  rw [← h]
  unfold World.var?
  unfold World.var? at h
  rw [globT_at] at h ⊢
  simp only [Option.bind_some] at h ⊢
  have hlt : 1 < w.heap.size := by
    rcases Nat.lt_or_ge 1 w.heap.size with h1 | h1
    · exact h1
    · rw [Array.getElem?_eq_none h1] at h
      cases h
  rw [Below.block k _ hlt]
theorem keeps_grow (w : World) (n : Nat) (os : Array Obj) : Keeps w (Sort.grow (w.drewN n) os) := by
  refine ⟨rfl, rfl, rfl, ?_, fun b hb => ?_⟩
  · rw [Sort.size_grow]
    exact Nat.le_add_right _ _
  · show (w.heap ++ os)[b]? = _
    rw [Array.getElem?_append_left hb]
set_option maxRecDepth 100000 in
theorem itoa_any (n : Int) (w : World) (hg : GlobT w) (h0 : -99999999 ≤ n) (h1 : n ≤ 99999999) :
    Calls Tryd.prog 25 #[.int .i64 n] w fun e w' => e = .returned (strV (numL n)) ∧ Keeps w w' := by
  refine (Any.strconv_Itoa Tryd.lays171 n (by omega) (by omega) w hg).mono ?_
  rintro e w' ⟨rfl, k, os, rfl⟩
  exact ⟨by rw [itoa_numL], keeps_grow w k os⟩
end Go.Proofs.YtpikopdfkhagmaaDoor
