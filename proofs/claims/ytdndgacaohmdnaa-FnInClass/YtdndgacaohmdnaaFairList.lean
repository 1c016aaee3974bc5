/-
  Fair shares over lists: contracts of the model's functions.
-/
import Derived.Test.YtdndgacaohmdnaaFairSpec
import Derived.Test.YtdndgacaohmdnaaTaskList
namespace Go.Proofs.Ytdndgacaohmdnaa
open Go.RowKit
attribute [local go_sem] Keeps.refl Keeps.alloc Keeps.drew Keeps.drewN

theorem foldl_take {α β : Type} (f : β → α → β) (a : β) {ts : List α} {k : Nat} {t : α} (h : ts[k]? = some t) : (ts.take (k + 1)).foldl f a = f ((ts.take k).foldl f a) t := by
  have hk : k < ts.length := by
    rcases Nat.lt_or_ge k ts.length with h' | h'
    · exact h'
    · simp [List.getElem?_eq_none h'] at h
  rw [List.getElem?_eq_getElem hk] at h
  rw [List.take_succ_eq_append_getElem hk, List.foldl_append]
  simp only [Option.some.injEq] at h
  rw [h]
  rfl
theorem foldl_all {α β : Type} (f : β → α → β) (a : β) {ts : List α} {k : Nat} (h : ts.length ≤ k) : (ts.take k).foldl f a = ts.foldl f a := by rw [List.take_of_length_le h]

set_option maxRecDepth 100000 in
set_option maxHeartbeats 2000000 in
theorem specFairFloor_any (a : Option Addr) (cap : Nat) (ts : List Tsk) (floor : Int) (w : World) (hl : ts.length ≤ maxLen) (hs : Ts w a ts) :
    Calls Try.prog 34 #[.slice a ts.length cap, .int .i64 floor] w fun e w' => e = .returned (.int .i64 (fairFloorI ts floor)) ∧ Keeps w w' := by
  unfold maxLen at hl
  generalize hn : ts.length = n at hl
  have Hn : Hid (ts.length = n) := hn
  clear hn
  go_enter Try.func34, Try.ntmps34
  go_wp2
  go_loopw [5, 6] (fun l i wr => ∃ k : Nat, k ≤ n ∧ i = .int .i64 k ∧ l = .int .i64 ((ts.take k).foldl leastS (-1)) ∧ Keeps w wr) (fun _ i _ => n - (intOf i).toNat)
  case atStart => exact ⟨0, Nat.zero_le _, rfl, rfl, Keeps.refl _⟩
  case round =>
    obtain ⟨k, hk, rfl, rfl, hK⟩ := hrel
    by_cases hlt : k < n
    · obtain ⟨t, ht⟩ := some_at (xs := ts) (k := k) (by rw [Hn.out]; exact hlt)
      obtain ⟨b, off, rfl, r0, r1⟩ := hs.at ht (by omega)
      have hlt' : (k : Int) < (n : Int) := by omega
      have Ht : Hid ((ts.take (k + 1)).foldl leastS (-1) = leastS ((ts.take k).foldl leastS (-1)) t) := foldl_take _ _ ht
      clear hs ht
      generalize (ts.take k).foldl leastS (-1) = L at *
      cases hf : fairB t
      · have HL : Hid (leastS L t = L) := by show _ = _; simp [leastS, hf]
        go_wp2_with (go_at_call 61; refine (l6Fair_any t _).mono ?_; rintro e w1 ⟨rfl, k1⟩; have K1 := hK.trans k1; rw [hf])
        exact ⟨⟨k + 1, by omega, by go_num, by rw [Ht.out, HL.out], K1⟩, by simp only [intOf]; omega⟩
      · cases h1 : decide (L < 0)
        · cases h2 : decide (t.v < L)
          · have HL : Hid (leastS L t = L) := by show _ = _; simp only [leastS, hf, h1, h2, Bool.or_false, Bool.and_false, Bool.false_eq_true, if_false]
            go_wp2_with (go_at_call 61; refine (l6Fair_any t _).mono ?_; rintro e w1 ⟨rfl, k1⟩; have K1 := hK.trans k1; rw [hf])
            exact ⟨⟨k + 1, by omega, by go_num, by rw [Ht.out, HL.out], K1⟩, by simp only [intOf]; omega⟩
          · have HL : Hid (leastS L t = t.v) := by show _ = _; simp only [leastS, hf, h2, Bool.or_true, Bool.and_true, if_true]
            go_wp2_with (go_at_call 61; refine (l6Fair_any t _).mono ?_; rintro e w1 ⟨rfl, k1⟩; have K1 := hK.trans k1; rw [hf])
            exact ⟨⟨k + 1, by omega, by go_num, by rw [Ht.out, HL.out], K1⟩, by simp only [intOf]; omega⟩
        · have HL : Hid (leastS L t = t.v) := by show _ = _; simp only [leastS, hf, h1, Bool.true_or, Bool.and_true, if_true]
          go_wp2_with (go_at_call 61; refine (l6Fair_any t _).mono ?_; rintro e w1 ⟨rfl, k1⟩; have K1 := hK.trans k1; rw [hf])
          exact ⟨⟨k + 1, by omega, by go_num, by rw [Ht.out, HL.out], K1⟩, by simp only [intOf]; omega⟩
    · have hlt' : decide ((k : Int) < (n : Int)) = false := by simp; omega
      rw [foldl_all leastS (-1) (show ts.length ≤ k by have := Hn.out; omega)]
      have HV : Hid (fairFloorI ts floor = if ts.foldl leastS (-1) < 0 then floor else max floor (ts.foldl leastS (-1))) := rfl
      generalize ts.foldl leastS (-1) = L at *
      clear hs
      cases h1 : decide (L < 0)
      · have HL : Hid (fairFloorI ts floor = max floor L) := by show _ = _; rw [HV.out, if_neg (of_decide_eq_false h1)]
        go_wp2_with (go_at_call 73; refine (l1Max_any _ _ _).mono ?_; rintro e w' ⟨rfl, hw'⟩; have hw2 := hw'.symm; subst hw2)
        go_ret
        exact ⟨by rw [HL.out]; rfl, hK⟩
      · have HL : Hid (fairFloorI ts floor = floor) := by show _ = _; rw [HV.out, if_pos (of_decide_eq_true h1)]
        go_wp2
        go_ret
        exact ⟨by rw [HL.out]; rfl, hK⟩

set_option maxRecDepth 100000 in
set_option maxHeartbeats 2000000 in
theorem specFairSpread_any (a : Option Addr) (cap : Nat) (ts : List Tsk) (w : World) (hl : ts.length ≤ maxLen) (hs : Ts w a ts) :
    Calls Try.prog 35 #[.slice a ts.length cap] w fun e w' => e = .returned (.int .i64 (fairSpreadI ts)) ∧ Keeps w w' := by
  unfold maxLen at hl
  generalize hn : ts.length = n at hl
  have Hn : Hid (ts.length = n) := hn
  clear hn
  go_enter Try.func35, Try.ntmps35
  go_wp2
  go_loopw [3, 4, 5] (fun l m i wr => ∃ k : Nat, k ≤ n ∧ i = .int .i64 k ∧ l = .int .i64 ((ts.take k).foldl leastS (-1)) ∧ m = .int .i64 ((ts.take k).foldl mostS (-1)) ∧ Keeps w wr) (fun _ _ i _ => n - (intOf i).toNat)
  case atStart => exact ⟨0, Nat.zero_le _, rfl, rfl, rfl, Keeps.refl _⟩
  case round =>
    obtain ⟨k, hk, rfl, rfl, rfl, hK⟩ := hrel
    by_cases hlt : k < n
    · obtain ⟨t, ht⟩ := some_at (xs := ts) (k := k) (by rw [Hn.out]; exact hlt)
      obtain ⟨b, off, rfl, r0, r1⟩ := hs.at ht (by omega)
      have hlt' : (k : Int) < (n : Int) := by omega
      have Ht : Hid ((ts.take (k + 1)).foldl leastS (-1) = leastS ((ts.take k).foldl leastS (-1)) t) := foldl_take _ _ ht
      have Hu : Hid ((ts.take (k + 1)).foldl mostS (-1) = mostS ((ts.take k).foldl mostS (-1)) t) := foldl_take _ _ ht
      clear hs ht
      generalize (ts.take k).foldl leastS (-1) = L at *
      generalize (ts.take k).foldl mostS (-1) = M at *
      cases hf : fairB t
      · have HL : Hid (leastS L t = L) := by show _ = _; simp [leastS, hf]
        have HM : Hid (mostS M t = M) := by show _ = _; simp [mostS, hf]
        go_wp2_with (go_at_call 61; refine (l6Fair_any t _).mono ?_; rintro e w1 ⟨rfl, k1⟩; have K1 := hK.trans k1; rw [hf])
        exact ⟨⟨k + 1, by omega, by go_num, by rw [Ht.out, HL.out], by rw [Hu.out, HM.out], K1⟩, by simp only [intOf]; omega⟩
      · have HM : Hid (mostS M t = max M t.v) := by show _ = _; simp [mostS, hf]
        cases h1 : decide (L < 0)
        · cases h2 : decide (t.v < L)
          · have HL : Hid (leastS L t = L) := by show _ = _; simp only [leastS, hf, h1, h2, Bool.or_false, Bool.and_false, Bool.false_eq_true, if_false]
            go_wp2_with (first | (go_at_call 61; refine (l6Fair_any t _).mono ?_; rintro e w1 ⟨rfl, k1⟩; have K1 := hK.trans k1; rw [hf]) | (go_at_call 73; refine (l1Max_any _ _ _).mono ?_; rintro e w' ⟨rfl, hw'⟩; have hw2 := hw'.symm; subst hw2))
            exact ⟨⟨k + 1, by omega, by go_num, by rw [Ht.out, HL.out], by rw [Hu.out, HM.out], K1⟩, by simp only [intOf]; omega⟩
          · have HL : Hid (leastS L t = t.v) := by show _ = _; simp only [leastS, hf, h2, Bool.or_true, Bool.and_true, if_true]
            go_wp2_with (first | (go_at_call 61; refine (l6Fair_any t _).mono ?_; rintro e w1 ⟨rfl, k1⟩; have K1 := hK.trans k1; rw [hf]) | (go_at_call 73; refine (l1Max_any _ _ _).mono ?_; rintro e w' ⟨rfl, hw'⟩; have hw2 := hw'.symm; subst hw2))
            exact ⟨⟨k + 1, by omega, by go_num, by rw [Ht.out, HL.out], by rw [Hu.out, HM.out], K1⟩, by simp only [intOf]; omega⟩
        · have HL : Hid (leastS L t = t.v) := by show _ = _; simp only [leastS, hf, h1, Bool.true_or, Bool.and_true, if_true]
          go_wp2_with (first | (go_at_call 61; refine (l6Fair_any t _).mono ?_; rintro e w1 ⟨rfl, k1⟩; have K1 := hK.trans k1; rw [hf]) | (go_at_call 73; refine (l1Max_any _ _ _).mono ?_; rintro e w' ⟨rfl, hw'⟩; have hw2 := hw'.symm; subst hw2))
          exact ⟨⟨k + 1, by omega, by go_num, by rw [Ht.out, HL.out], by rw [Hu.out, HM.out], K1⟩, by simp only [intOf]; omega⟩
    · have hlt' : decide ((k : Int) < (n : Int)) = false := by simp; omega
      rw [foldl_all leastS (-1) (show ts.length ≤ k by have := Hn.out; omega), foldl_all mostS (-1) (show ts.length ≤ k by have := Hn.out; omega)]
      have HV : Hid (fairSpreadI ts = ts.foldl mostS (-1) - ts.foldl leastS (-1)) := rfl
      obtain ⟨l0, l1⟩ := least_bd ts (-1) (by omega) (by omega)
      obtain ⟨m0, m1⟩ := most_bd ts (-1) (by omega) (by omega)
      generalize ts.foldl leastS (-1) = L at *
      generalize ts.foldl mostS (-1) = M at *
      have e1 : IntKind.i64.wrap (M - L) = M - L := Go.IntWalk.i64_in _ (by omega)
      clear hs
      go_wp2
      go_ret
      exact ⟨by rw [HV.out]; rfl, hK⟩
end Go.Proofs.Ytdndgacaohmdnaa
