/-
  What the program reads of a line, as plain functions: runes that are skipped, numbers that may run over, the call that is filled place by place; a line is read by it just if it is one.
-/
import Derived.Test.YtpikopdfkhagmaaDoorDeskWords
import Derived.Test.YtpikopdfkhagmaaDoorImplLineP
import Derived.Laws.RangeAny
import Derived.Lib.OthersKept
namespace Go.Proofs.YtpikopdfkhagmaaDoor
open Go.RowKit

theorem get_list (l : List UInt8) (k : Nat) : (⟨l.toArray⟩ : ByteArray).get! k = l.getD k 0 := by
  show l.toArray[k]! = _
  rw [List.getD_eq_getElem?_getD]
  simp [Array.getElem!_eq_getD]
  rfl
theorem size_list (l : List UInt8) : (⟨l.toArray⟩ : ByteArray).size = l.length := by simp [ByteArray.size]
/-- What a rune of several bytes is made of: no byte below 128. -/
theorem decode_skip (s : ByteArray) (i j : Nat) (h1 : 1 ≤ j) (h2 : j < (Utf8.decode s i).2) : i + j < s.size ∧ 128 ≤ (s.get! (i + j)).toNat := by
  unfold Utf8.decode at h2
  simp only at h2
  split at h2
  · simp at h2; omega
  split at h2
  · rename_i hc
    simp only [Bool.and_eq_true, decide_eq_true_eq, beq_iff_eq] at hc
    split at h2
    · obtain rfl : j = 1 := by simp at h2; omega
      exact ⟨hc.2.1, by omega⟩
    · simp at h2; omega
  split at h2
  · rename_i hc
    simp only [Bool.and_eq_true, decide_eq_true_eq, beq_iff_eq] at hc
    split at h2
    · have : j = 1 ∨ j = 2 := by simp at h2; omega
      rcases this with rfl | rfl
      · exact ⟨hc.1.2.1, by omega⟩
      · exact ⟨hc.2.1, by omega⟩
    · simp at h2; omega
  split at h2
  · rename_i hc
    simp only [Bool.and_eq_true, decide_eq_true_eq, beq_iff_eq] at hc
    split at h2
    · have : j = 1 ∨ j = 2 ∨ j = 3 := by simp at h2; omega
      rcases this with rfl | rfl | rfl
      · exact ⟨hc.1.1.2.1, by omega⟩
      · exact ⟨hc.1.2.1, by omega⟩
      · exact ⟨hc.2.1, by omega⟩
    · simp at h2; omega
  · simp at h2; omega
theorem split_skip {l : List UInt8} {p : Nat} : ∀ (m k : Nat), p ≤ k → k + m ≤ l.length → (∀ j, j < m → (l.getD (k + j) 0 == 32) = false) → splitF (curF l p k) (l.drop k) = splitF (curF l p (k + m)) (l.drop (k + m))
  | 0, k, _, _, _ => rfl
  | m + 1, k, hp, hl, h => by
    have hk : l[k]? = some (l.getD k 0) := by
      rw [List.getD_eq_getElem?_getD, List.getElem?_eq_getElem (by omega)]
      rfl
    have h0 := h 0 (by omega)
    rw [Nat.add_zero] at h0
    rw [split_go _ hk, h0, if_neg (by simp), ← curF_step hp hk, split_skip m (k + 1) (by omega) (by omega) (fun j hj => by have := h (j + 1) (by omega); rw [show k + (j + 1) = k + 1 + j from by omega] at this; exact this)]
    rw [show k + 1 + m = k + (m + 1) from by omega]
/-- A rune that is no blank is passed over whole. -/
theorem rune_skip {l : List UInt8} {k p : Nat} (hp : p ≤ k) (hk : k < l.length) (h : (Utf8.decode ⟨l.toArray⟩ k).1 ≠ 32) :
    k + (Utf8.decode ⟨l.toArray⟩ k).2 ≤ l.length ∧ 1 ≤ (Utf8.decode ⟨l.toArray⟩ k).2 ∧ splitF (curF l p k) (l.drop k) = splitF (curF l p (k + (Utf8.decode ⟨l.toArray⟩ k).2)) (l.drop (k + (Utf8.decode ⟨l.toArray⟩ k).2)) := by
  have hs : k < (⟨l.toArray⟩ : ByteArray).size := by rw [size_list]; exact hk
  have hb : ((⟨l.toArray⟩ : ByteArray)[k]'hs) = l.getD k 0 := by
    rw [List.getD_eq_getElem?_getD, List.getElem?_eq_getElem hk]
    rfl
  have hw1 : 1 ≤ (Utf8.decode ⟨l.toArray⟩ k).2 := by
    by_cases ha : ((⟨l.toArray⟩ : ByteArray)[k]'hs).toNat < 128
    · rw [decode_ascii _ k hs ha]
      exact Nat.le_refl _
    · exact (decode_high _ k hs (by omega)).2
  have hall : ∀ j, 1 ≤ j → j < (Utf8.decode ⟨l.toArray⟩ k).2 → k + j < l.length ∧ 128 ≤ (l.getD (k + j) 0).toNat := fun j h1 h2 => by
    have := decode_skip ⟨l.toArray⟩ k j h1 h2
    rw [size_list, get_list] at this
    exact this
  have hle : k + (Utf8.decode ⟨l.toArray⟩ k).2 ≤ l.length := by
    by_cases e : (Utf8.decode ⟨l.toArray⟩ k).2 = 1
    · rw [e]; omega
    · have := (hall ((Utf8.decode ⟨l.toArray⟩ k).2 - 1) (by omega) (by omega)).1
      omega
  refine ⟨hle, hw1, split_skip _ k hp hle fun j hj => ?_⟩
  rw [beq_eq_false_iff_ne]
  intro e
  by_cases h0 : j = 0
  · subst h0
    apply h
    rw [Nat.add_zero] at e
    have ha : ((⟨l.toArray⟩ : ByteArray)[k]'hs).toNat < 128 := by rw [hb, e]; decide
    rw [decode_ascii _ k hs ha, hb, e]
    rfl
  · have := (hall j (by omega) hj).2
    rw [e] at this
    exact absurd this (by decide)
/-- A blank is one byte. -/
theorem rune_blank {l : List UInt8} {k : Nat} (hk : k < l.length) (h : (Utf8.decode ⟨l.toArray⟩ k).1 = 32) : (Utf8.decode ⟨l.toArray⟩ k).2 = 1 ∧ l[k]? = some 32 := by
  have hs : k < (⟨l.toArray⟩ : ByteArray).size := by rw [size_list]; exact hk
  have hb : ((⟨l.toArray⟩ : ByteArray)[k]'hs) = l[k] := rfl
  by_cases ha : ((⟨l.toArray⟩ : ByteArray)[k]'hs).toNat < 128
  · rw [decode_ascii _ k hs ha] at h ⊢
    refine ⟨rfl, ?_⟩
    rw [List.getElem?_eq_getElem hk, ← hb]
    congr 1
    apply UInt8.toNat_inj.1
    exact h
  · have := (decode_high _ k hs (by omega)).1
    omega
/-- A number as the program reads it: it may run over. -/
def numStep (acc : Int) (b : UInt8) : Int := wrap64 (wrap64 (acc * 10) + ((b.toNat : Int) - 48))
def numGo : Bool → Int → Int → List UInt8 → Option Int
  | _, acc, sign, [] => some (wrap64 (sign * acc))
  | first, acc, sign, b :: r => if first && b == 45 then numGo false acc (-1) r else if digB b then numGo false (numStep acc b) sign r else none
def numO (s : List UInt8) : Option Int := numGo true 0 1 s
theorem wrap_small {x : Int} (h0 : -9223372036854775808 ≤ x) (h1 : x ≤ 9223372036854775807) : wrap64 x = x := by unfold wrap64; omega
def valG (acc : Int) (s : List UInt8) : Int := s.foldl (fun x b => 10 * x + (b.toNat : Int) - 48) acc
theorem digB_parts {b : UInt8} (h : digB b = true) : 48 ≤ b.toNat ∧ b.toNat ≤ 57 := by
  unfold digB at h
  simpa using h
theorem valG_le : ∀ (s : List UInt8) (acc : Int), s.all digB = true → 0 ≤ acc → acc ≤ valG acc s
  | [], acc, _, _ => Int.le_refl _
  | b :: r, acc, h, h0 => by
    simp only [List.all_cons, Bool.and_eq_true] at h
    have hb := digB_parts h.1
    have := valG_le r (10 * acc + (b.toNat : Int) - 48) h.2 (by omega)
    show acc ≤ valG (10 * acc + (b.toNat : Int) - 48) r
    omega
theorem numGo_digs (sign : Int) : ∀ (s : List UInt8) (f : Bool) (acc : Int), s.all digB = true → 0 ≤ acc → valG acc s ≤ 99999999 → numGo f acc sign s = some (wrap64 (sign * valG acc s))
  | [], f, acc, _, _, _ => rfl
  | b :: r, f, acc, h, h0, hv => by
    simp only [List.all_cons, Bool.and_eq_true] at h
    have hb := digB_parts h.1
    have hv2 : valG (10 * acc + (b.toNat : Int) - 48) r ≤ 99999999 := hv
    have hle := valG_le r (10 * acc + (b.toNat : Int) - 48) h.2 (by omega)
    have h45 : (b == 45) = false := by
      rw [beq_eq_false_iff_ne]
      intro e
      rw [e] at hb
      exact absurd hb.1 (by decide)
    have hs : numStep acc b = 10 * acc + (b.toNat : Int) - 48 := by
      unfold numStep
      rw [wrap_small (x := acc * 10) (by omega) (by omega), wrap_small (by omega) (by omega)]
      omega
    rw [numGo, h45, Bool.and_false, if_neg (by simp), if_pos h.1, hs, numGo_digs sign r false _ h.2 (by omega) hv2]
    rfl
/-- A number that stands in a line is read as it was. -/
theorem numO_num {x : Int} (h0 : -9 ≤ x) (h1 : x ≤ 9999999) : numO (numL x) = some x := by
  rcases Int.lt_trichotomy x 0 with h | rfl | h
  · obtain ⟨m, rfl⟩ : ∃ m : Nat, x = -(m : Int) := ⟨x.natAbs, by omega⟩
    have e0 : numL (-(m : Int)) = 45 :: digs m := by rw [numL_neg h, Int.natAbs_neg]; rfl
    have hv : valG 0 (digs m) = m := digs_val m m (Nat.le_refl _)
    rw [e0]
    unfold numO
    rw [numGo, if_pos (by rfl), numGo_digs (-1) (digs m) false 0 (digs_all m m (Nat.le_refl _)) (by omega) (by rw [hv]; omega), hv, wrap_small (by omega) (by omega)]
    congr 1
    omega
  · rw [numL_zero]
    unfold numO
    rw [numGo_digs 1 [48] true 0 (by decide) (by omega) (by decide), show valG 0 [48] = 0 from by decide, wrap_small (by omega) (by omega)]
    rfl
  · obtain ⟨m, rfl⟩ : ∃ m : Nat, x = (m : Int) := ⟨x.toNat, by omega⟩
    have hv : valG 0 (digs m) = m := digs_val m m (Nat.le_refl _)
    rw [numL_pos (by omega)]
    unfold numO
    rw [numGo_digs 1 (digs m) true 0 (digs_all m m (Nat.le_refl _)) (by omega) (by rw [hv]; omega), hv, wrap_small (by omega) (by omega)]
    congr 1
    omega
/-- The number of a text, or nought. -/
def numV (s : List UInt8) : Int := (numO s).getD 0
/-- A call is filled place by place. -/
theorem fill_at {k : Int} (hk : 1 ≤ k ∧ k ≤ 11) {vs : List Int} {j o : Nat} {v : Int} (ho : (placesO k)[j]? = some o) (hv : vs[j]? = some v) :
    (cc (ofF k (vs.take j))).setIfInBounds o (.int .i64 v) = cc (ofF k (vs.take (j + 1))) := by
  have h2 : k = 1 ∨ k = 2 ∨ k = 3 ∨ k = 4 ∨ k = 5 ∨ k = 6 ∨ k = 7 ∨ k = 8 ∨ k = 9 ∨ k = 10 ∨ k = 11 := by omega
  have hj : j < 4 := by
    rcases Nat.lt_or_ge j 4 with h | h
    · exact h
    · unfold placesO at ho
      repeat' split at ho
      all_goals rw [List.getElem?_eq_none (by simp; omega)] at ho
      all_goals cases ho
  have h4 : j = 0 ∨ j = 1 ∨ j = 2 ∨ j = 3 := by omega
  match vs, hv with
  | [], hv => simp at hv
  | [a], hv =>
    rcases h4 with rfl | rfl | rfl | rfl <;> simp at hv
    subst hv
    rcases h2 with rfl | rfl | rfl | rfl | rfl | rfl | rfl | rfl | rfl | rfl | rfl <;> simp [placesO] at ho <;> subst ho <;> simp [ofF]
  | [a, b], hv =>
    rcases h4 with rfl | rfl | rfl | rfl <;> simp at hv <;> subst hv <;> rcases h2 with rfl | rfl | rfl | rfl | rfl | rfl | rfl | rfl | rfl | rfl | rfl <;> simp [placesO] at ho <;> subst ho <;> simp [ofF]
  | [a, b, c], hv =>
    rcases h4 with rfl | rfl | rfl | rfl <;> simp at hv <;> subst hv <;> rcases h2 with rfl | rfl | rfl | rfl | rfl | rfl | rfl | rfl | rfl | rfl | rfl <;> simp [placesO] at ho <;> subst ho <;> simp [ofF]
  | a :: b :: c :: d :: r, hv =>
    rcases h4 with rfl | rfl | rfl | rfl <;> simp at hv <;> subst hv <;> rcases h2 with rfl | rfl | rfl | rfl | rfl | rfl | rfl | rfl | rfl | rfl | rfl <;> simp [placesO] at ho <;> subst ho <;> simp [ofF]
theorem cc_at (c : Cl) {o : Nat} (h : o < 5) : ∃ q : Int, (cc c)[o]? = some (Value.int .i64 q) := by
  have h2 : o = 0 ∨ o = 1 ∨ o = 2 ∨ o = 3 ∨ o = 4 := by omega
  rcases h2 with rfl | rfl | rfl | rfl | rfl
  · exact ⟨c.kind, rfl⟩
  · exact ⟨c.no, rfl⟩
  · exact ⟨c.cpu, rfl⟩
  · exact ⟨c.a, rfl⟩
  · exact ⟨c.b, rfl⟩
theorem fill_none {k : Int} : ofF k [] = ⟨k, 0, 0, 0, 0⟩ := by
  unfold ofF
  repeat' split
  all_goals rfl
/-- What is known of a line that is the line of a call. -/
theorem line_known {l w0 : List UInt8} {ws : List (List UInt8)} {c : Cl} (hw : wordsF l = w0 :: ws) (h : parseO l = some c) :
    w0 = wordL c.kind ∧ (1 ≤ c.kind ∧ c.kind ≤ 11) ∧ ws.length = (placesO c.kind).length ∧ (∀ s ∈ ws, numO s ≠ none) ∧ ofF c.kind (ws.map numV) = c ∧ lineB c = true ∧ lineL c = l := by
  obtain ⟨h1, h2⟩ := parse_is.1 h
  have hp := lineB_parts h1
  have hwl := words_line h1
  rw [h2, hw] at hwl
  simp only [List.cons.injEq] at hwl
  obtain ⟨rfl, rfl⟩ := hwl
  have hr : ∀ x ∈ numsL c, numO (numL x) = some x := fun x hx => by
    obtain ⟨k, hk⟩ := List.mem_iff_getElem?.1 hx
    have hlt : k < (numsL c).length := by
      rcases Nat.lt_or_ge k (numsL c).length with h | h
      · exact h
      · simp [List.getElem?_eq_none h] at hk
    have h3 := firstsB_at _ k hp.2.2 hlt
    rw [List.getD_eq_getElem?_getD, hk] at h3
    unfold numOkB at h3
    have h4 := inB_iff.1 h3
    have h5 : leastI c k = -9 ∨ leastI c k = 0 := by unfold leastI; split <;> simp
    simp only [Option.getD_some] at h4
    exact numO_num (by omega) h4.2
  refine ⟨rfl, hp.1, by rw [List.length_map, places_length], ?_, ?_, h1, h2⟩
  · intro s hs
    obtain ⟨x, hx, rfl⟩ := List.mem_map.1 hs
    rw [hr x hx]
    simp
  · have e2 : ((numsL c).map numL).map numV = numsL c := by
      rw [List.map_map]
      conv => rhs; rw [← List.map_id (numsL c)]
      exact List.map_congr_left fun x hx => by show numV (numL x) = x; unfold numV; rw [hr x hx]; rfl
    rw [e2, of_nums hp.2.1]
end Go.Proofs.YtpikopdfkhagmaaDoor
