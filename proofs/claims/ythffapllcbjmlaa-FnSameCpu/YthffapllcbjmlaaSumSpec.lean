/-
  Sums of parts of time: contracts of the model's SumOf and Fits.
-/
import Derived.Test.YthffapllcbjmlaaSum
namespace Go.Proofs.Ythffapllcbjmlaa
open Go.RowKit Plain
attribute [local go_sem] Keeps.refl Keeps.alloc Keeps.drew Keeps.drewN

set_option maxRecDepth 100000 in
set_option maxHeartbeats 1600000 in
theorem specSumOf_any (a : Option Addr) (cap : Nat) (xs : List (Int × Int)) (w : World) (hl : xs.length ≤ maxLen) (hs : Sh w a xs) :
    Calls Try.prog 68 #[.slice a xs.length cap] w fun e w' => e = .returned (.tuple #[.int .i64 (sumOfV xs).1, .int .i64 (sumOfV xs).2.1, .bool (sumOfV xs).2.2]) ∧ Keeps w w' := by
  unfold maxLen at hl
  generalize hn : xs.length = n at hl
  have Hn : Hid (xs.length = n) := hn
  by_cases h7 : 7 < n
  · have Hr : Hid (sumOfV xs = (0, 0, false)) := sumOfV_no (by simp [canSumB, hn]; omega)
    clear hn
    go_enter Try.func68, Try.ntmps68
    go_wp2
    go_ret3
    exact ⟨by rw [Hr.out]; rfl, Keeps.refl _⟩
  · clear hn
    have h7' : n ≤ 7 := by omega
    go_enter Try.func68, Try.ntmps68
    go_wp2
    go_loopw [5, 6, 7] (fun s t i wr => ∃ k : Nat, k ≤ n ∧ i = .int .i64 k ∧ ∃ nn dd : Int, s = .int .i64 nn ∧ t = .int .i64 dd ∧ Hid (sumI (xs.take k) = (nn, dd)) ∧ Inv k (nn, dd) ∧ Hid (okAll (xs.take k) = true) ∧ Keeps w wr) (fun _ _ i _ => n - (intOf i).toNat)
    case atStart => exact ⟨0, Nat.zero_le _, rfl, 0, 1, rfl, rfl, rfl, inv_zero, by simp [Hid, okAll], Keeps.refl _⟩
    case round =>
      obtain ⟨k, hk, rfl, nn, dd, rfl, rfl, hsum, hI, hok, hK⟩ := hrel
      by_cases hlt : k < n
      · obtain ⟨b, off, q, p, rfl, e, c0, c1⟩ := hs.at (by rw [Hn.out]; exact hlt)
        have E : Hid (xs.getD k (0, 0) = (q, p)) := e
        clear e
        have r0 := Keeps.has c0
        have r1 := Keeps.has c1
        have hlt' : (k : Int) < (n : Int) := by omega
        clear c0 c1 hs
        cases ho : okB q p
        · have Hf : Hid (sumOfV xs = (0, 0, false)) := by
            refine sumOfV_no ?_
            have := okAll_no (k := k) (by rw [Hn.out]; exact hlt) (by rw [E.out]; exact ho)
            simp [canSumB, this]
          go_wp2_with (go_at_call 63; refine (specShareOk_k _ _ _).mono ?_; rintro e w1 ⟨rfl, hb⟩; have kk : Keeps w w1 := hK.trans hb)
          go_ret3
          exact ⟨by rw [Hf.out]; rfl, kk⟩
        · have Hf : Hid (okAll (xs.take (k + 1)) = true) := by
            show _ = _
            rw [okAll_snoc xs k (by rw [Hn.out]; exact hlt), hok.out, E.out]; exact ho
          obtain ⟨⟨hp1, hp2⟩, hq1, hq2⟩ := okB_iff.1 ho
          obtain ⟨b1, b2, b3, b4, b5, b6, b7, b8⟩ := step_bd hI (by omega) hp1 hp2 hq1 hq2
          have hI' := step_next hI hp1 hp2 hq1 hq2
          have Hs : Hid (sumI (xs.take (k + 1)) = stepI (nn, dd) (q, p)) := by
            show _ = _
            rw [sumI_take xs k (by rw [Hn.out]; exact hlt), hsum.out, E.out]
          clear hI
          go_wp2_with (go_at_call 63; refine (specShareOk_k _ _ _).mono ?_; rintro e w1 ⟨rfl, hb⟩; have kk : Keeps w w1 := hK.trans hb)
          go_quiet (fail)
          go_wp2_with (go_at_call 78; refine (l1Gcd_int _ _ _ ?_ ?_ ?_ ?_).mono ?_; omega; omega; omega; omega; rintro e w1 ⟨rfl, m, rfl⟩)
          refine ⟨⟨k + 1, by omega, by go_num, _, _, rfl, rfl, Hs, hI', Hf, kk.drewN _⟩, by simp only [intOf]; omega⟩
      · have Hf : Hid (sumOfV xs = (nn, dd, true)) := by
          have h1 := hsum.out
          have h2 := hok.out
          rw [List.take_of_length_le (by rw [Hn.out]; omega)] at h1 h2
          show _ = _
          rw [sumOfV_yes (canSumB_iff.2 ⟨by rw [Hn.out]; exact h7', h2⟩), h1]
        go_wp2
        go_ret3
        exact ⟨by rw [Hf.out]; rfl, hK⟩

set_option maxRecDepth 100000 in
set_option maxHeartbeats 1000000 in
theorem specFits_any (a : Option Addr) (cap : Nat) (xs : List (Int × Int)) (w : World) (hl : xs.length ≤ maxLen) (hs : Sh w a xs) :
    Calls Try.prog 51 #[.slice a xs.length cap] w fun e w' => e = .returned (.bool (canSumB xs && decide ((sumI xs).1 ≤ (sumI xs).2))) ∧ Keeps w w' := by
  cases hc : canSumB xs
  · have Hr : Hid (sumOfV xs = (0, 0, false)) := sumOfV_no hc
    go_enter Try.func51, Try.ntmps51
    go_wp2_with (go_at_call 68; refine (specSumOf_any _ _ _ _ hl hs).mono ?_; rintro e w1 ⟨rfl, hb⟩; rw [Hr.out])
    go_ret
    exact ⟨rfl, hb⟩
  · have Hr : Hid (sumOfV xs = ((sumI xs).1, (sumI xs).2, true)) := sumOfV_yes hc
    generalize (sumI xs).1 = s1 at *
    generalize (sumI xs).2 = s2 at *
    go_enter Try.func51, Try.ntmps51
    go_wp2_with (go_at_call 68; refine (specSumOf_any _ _ _ _ hl hs).mono ?_; rintro e w1 ⟨rfl, hb⟩; rw [Hr.out])
    go_ret
    exact ⟨rfl, hb⟩
end Go.Proofs.Ythffapllcbjmlaa
