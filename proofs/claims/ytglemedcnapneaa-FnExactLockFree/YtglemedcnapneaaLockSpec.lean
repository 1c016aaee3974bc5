/-
  Locks: contracts of the model's functions that only read.
-/
import Derived.Test.YtglemedcnapneaaLockS
import Derived.Test.YtglemedcnapneaaIn
namespace Go.Proofs.Ytglemedcnapneaa
open Go.RowKit
variable {p : Bool}
attribute [local go_sem] Keeps.refl Keeps.alloc Keeps.drew Keeps.drewN

theorem hasB_at {xs : List Int} {x : Int} {k : Nat} {y : Int} (hy : xs[k]? = some y) (h : (y == x) = true) : hasB xs x = true := by
  rw [hasB_iff]
  have := List.mem_of_getElem? hy
  simp at h
  rw [← h]; exact this
theorem hasB_none {xs : List Int} {x : Int} (h : ∀ (j : Nat) (y : Int), xs[j]? = some y → (y == x) = false) : hasB xs x = false := by
  rw [hasB_no]
  intro hm
  obtain ⟨j, hj, e⟩ := List.mem_iff_getElem.1 hm
  have := h j _ (List.getElem?_eq_getElem hj)
  simp [e] at this

set_option maxRecDepth 100000 in
set_option maxHeartbeats 1000000 in
theorem specHas_any (a : Option Addr) (cap : Nat) (xs : List Int) (x : Int) (w : World) (hl : xs.length ≤ maxLen) (hs : Ns w a xs) :
    Calls Try.prog 52 #[.slice a xs.length cap, .int .i64 x] w fun e w' => e = .returned (.bool (hasB xs x)) ∧ Keeps w w' := by
  unfold maxLen at hl
  generalize hn : xs.length = n at hl
  have Hn : Hid (xs.length = n) := hn
  clear hn
  go_enter Try.func52, Try.ntmps52
  go_wp2
  go_loopw [5] (fun i wr => ∃ k : Nat, k ≤ n ∧ i = .int .i64 k ∧ Keeps w wr ∧ Hid (∀ (j : Nat) (y : Int), j < k → xs[j]? = some y → (y == x) = false)) (fun i _ => n - (intOf i).toNat)
  case atStart => exact ⟨0, Nat.zero_le _, rfl, Keeps.refl _, fun j y hj => by omega⟩
  case round =>
    obtain ⟨k, hk, rfl, hK, H⟩ := hrel
    by_cases hlt : k < n
    · obtain ⟨y, hy⟩ := some_in (xs := xs) (k := k) (by rw [Hn.out]; exact hlt)
      obtain ⟨b, off, rfl, r0⟩ := hs.at hy
      have hlt' : (k : Int) < (n : Int) := by omega
      have Hy : Hid (xs[k]? = some y) := hy
      clear hs hy
      cases hq : (y == x)
      · go_wp2
        exact ⟨⟨k + 1, by omega, by go_num, hK, fun j s hj hs => by
          by_cases e : j = k
          · subst e; rw [Hy.out] at hs; cases hs; exact hq
          · exact H.out j s (by omega) hs⟩, by simp only [intOf]; omega⟩
      · have Hr : Hid (hasB xs x = true) := hasB_at Hy.out hq
        go_wp2
        go_ret
        exact ⟨by rw [Hr.out]; rfl, hK⟩
    · have Hr : Hid (hasB xs x = false) := hasB_none fun j y hy => H.out j y (by have := lt_of_some hy; rw [Hn.out] at this; omega) hy
      go_wp2
      go_ret
      exact ⟨by rw [Hr.out]; rfl, hK⟩

set_option maxRecDepth 100000 in
set_option maxHeartbeats 1000000 in
theorem within_any (a : Option Addr) (cap : Nat) (xs : List Int) (x : Int) (w : World) (hl : xs.length ≤ maxLen) (hs : Ns w a xs) :
    Calls Try.prog 36 #[.slice a xs.length cap, .int .i64 x] w fun e w' => e = .returned (.bool (hasB xs x)) ∧ Keeps w w' := by
  unfold maxLen at hl
  generalize hn : xs.length = n at hl
  have Hn : Hid (xs.length = n) := hn
  clear hn
  go_enter Try.func36, Try.ntmps36
  go_wp2
  go_loopw [5] (fun i wr => ∃ k : Nat, k ≤ n ∧ i = .int .i64 k ∧ Keeps w wr ∧ Hid (∀ (j : Nat) (y : Int), j < k → xs[j]? = some y → (y == x) = false)) (fun i _ => n - (intOf i).toNat)
  case atStart => exact ⟨0, Nat.zero_le _, rfl, Keeps.refl _, fun j y hj => by omega⟩
  case round =>
    obtain ⟨k, hk, rfl, hK, H⟩ := hrel
    by_cases hlt : k < n
    · obtain ⟨y, hy⟩ := some_in (xs := xs) (k := k) (by rw [Hn.out]; exact hlt)
      obtain ⟨b, off, rfl, r0⟩ := hs.at hy
      have hlt' : (k : Int) < (n : Int) := by omega
      have Hy : Hid (xs[k]? = some y) := hy
      clear hs hy
      cases hq : (y == x)
      · go_wp2
        exact ⟨⟨k + 1, by omega, by go_num, hK, fun j s hj hs => by
          by_cases e : j = k
          · subst e; rw [Hy.out] at hs; cases hs; exact hq
          · exact H.out j s (by omega) hs⟩, by simp only [intOf]; omega⟩
      · have Hr : Hid (hasB xs x = true) := hasB_at Hy.out hq
        go_wp2
        go_ret
        exact ⟨by rw [Hr.out]; rfl, hK⟩
    · have Hr : Hid (hasB xs x = false) := hasB_none fun j y hy => H.out j y (by have := lt_of_some hy; rw [Hn.out] at this; omega) hy
      go_wp2
      go_ret
      exact ⟨by rw [Hr.out]; rfl, hK⟩

set_option maxRecDepth 100000 in
set_option maxHeartbeats 1000000 in
theorem specWaitAt_any (a : Option Addr) (cap : Nat) (ls : List Lk) (no : Int) (w : World) (hl : ls.length ≤ maxLen) (hs : Lks p w a ls) :
    Calls Try.prog 18 #[.slice a ls.length cap, .int .i64 no] w fun e w' => e = .returned (.int .i64 (waitAt ls no)) ∧ Keeps w w' := by
  unfold maxLen at hl
  generalize hn : ls.length = n at hl
  have Hn : Hid (ls.length = n) := hn
  clear hn
  go_enter Try.func18, Try.ntmps18
  go_wp2
  go_loopw [5] (fun i wr => ∃ k : Nat, k ≤ n ∧ i = .int .i64 k ∧ Keeps w wr ∧ Hid (∀ (j : Nat) (m : Lk), j < k → ls[j]? = some m → hasB m.waits no = false)) (fun i _ => n - (intOf i).toNat)
  case atStart => exact ⟨0, Nat.zero_le _, rfl, Keeps.refl _, fun j y hj => by omega⟩
  case round =>
    obtain ⟨k, hk, rfl, hK, H⟩ := hrel
    by_cases hlt : k < n
    · obtain ⟨l, hl1⟩ := some_in (xs := ls) (k := k) (by rw [Hn.out]; exact hlt)
      obtain ⟨b, off, a', cap', rfl, r0, r1, hle, hns⟩ := hs.at hl1
      have hlt' : (k : Int) < (n : Int) := by omega
      have Hl : Hid (ls[k]? = some l) := hl1
      have Hle : Hid (l.waits.length ≤ maxLen) := hle
      have N1 : Hid (Ns w a' l.waits) := hns
      clear hs hl1 hle hns
      cases hq : hasB l.waits no
      · go_wp2_with (go_at_call 52; refine (specHas_any _ _ l.waits no _ Hle.out (N1.out.keeps hK)).mono ?_; rintro e w1 ⟨rfl, k1⟩; rw [hq])
        exact ⟨⟨k + 1, by omega, by go_num, hK.trans k1, fun j s hj hs => by
          by_cases e : j = k
          · subst e; rw [Hl.out] at hs; cases hs; exact hq
          · exact H.out j s (by omega) hs⟩, by simp only [intOf]; omega⟩
      · have Hr : Hid (waitAt ls no = k) := by
          show _ = _
          unfold waitAt
          rw [waitIx_of Hl.out hq H.out]
        go_wp2_with (go_at_call 52; refine (specHas_any _ _ l.waits no _ Hle.out (N1.out.keeps hK)).mono ?_; rintro e w1 ⟨rfl, k1⟩; rw [hq])
        go_ret
        exact ⟨by rw [Hr.out]; rfl, hK.trans k1⟩
    · have Hr : Hid (waitAt ls no = -1) := by
        show _ = _
        unfold waitAt
        rw [waitIx_of_none fun j m hm => H.out j m (by have := lt_of_some hm; rw [Hn.out] at this; omega) hm]
      go_wp2
      go_ret
      exact ⟨by rw [Hr.out]; rfl, hK⟩

theorem countN_append (xs ys : List Int) (no : Int) : countN (xs ++ ys) no = countN xs no + countN ys no := by simp [countN]
theorem countN_le (xs : List Int) (no : Int) : countN xs no ≤ xs.length := List.length_filter_le _ _
theorem countN_take {xs : List Int} {k : Nat} {x no : Int} (h : xs[k]? = some x) : countN (xs.take (k + 1)) no = countN (xs.take k) no + (if x == no then 1 else 0) := by
  rw [List.take_add_one, h, countN_append]
  congr 1
  cases hx : (x == no) <;> simp [countN, hx]
theorem waitsN_append (xs ys : List Lk) (no : Int) : waitsN (xs ++ ys) no = waitsN xs no + waitsN ys no := by
  induction xs with
  | nil => simp [waitsN]
  | cons x r ih => simp only [List.cons_append, waitsN, ih]; omega
theorem waitsN_take {ls : List Lk} {k : Nat} {l : Lk} (h : ls[k]? = some l) (no : Int) : waitsN (ls.take (k + 1)) no = waitsN (ls.take k) no + countN l.waits no := by
  rw [List.take_add_one, h, waitsN_append]
  simp [waitsN]
theorem waitsN_le (ls : List Lk) (no : Int) : waitsN ls no ≤ sumW ls := by
  induction ls with
  | nil => simp [waitsN]
  | cons l r ih => have := countN_le l.waits no; simp only [waitsN, sumW]; omega
theorem waitsN_take_le (ls : List Lk) (k : Nat) (no : Int) : waitsN (ls.take k) no ≤ sumW ls := Nat.le_trans (waitsN_le _ _) (sumW_le ls k)

set_option maxRecDepth 100000 in
set_option maxHeartbeats 2000000 in
theorem specWaits_any (a : Option Addr) (cap : Nat) (ls : List Lk) (no : Int) (w : World) (hl : sizeN ls ≤ 2097152) (hs : Lks p w a ls) :
    Calls Try.prog 45 #[.slice a ls.length cap, .int .i64 no] w fun e w' => e = .returned (.int .i64 (waitsN ls no)) ∧ Keeps w w' := by
  have HL : Hid (sizeN ls ≤ 2097152) := hl
  have hl0 : ls.length ≤ 2097152 := by unfold sizeN at hl; omega
  clear hl
  generalize hn : ls.length = n at hl0
  have Hn : Hid (ls.length = n) := hn
  clear hn
  go_enter Try.func45, Try.ntmps45
  go_wp2
  go_loopw [5, 6] (fun c i wr => ∃ (k q : Nat), k ≤ n ∧ i = .int .i64 k ∧ c = .int .i64 q ∧ Hid (waitsN (ls.take k) no = q) ∧ q ≤ 2097152 ∧ Keeps w wr) (fun _ i _ => n - (intOf i).toNat)
  case atStart => exact ⟨0, 0, Nat.zero_le _, rfl, rfl, by show _ = _; simp [waitsN], by omega, Keeps.refl _⟩
  case round =>
    obtain ⟨k, q, hk, rfl, rfl, Hq, hq1, hK⟩ := hrel
    by_cases hlt : k < n
    · obtain ⟨l, hl1⟩ := some_in (xs := ls) (k := k) (by rw [Hn.out]; exact hlt)
      obtain ⟨b, off, a', cap', rfl, r0, r1, hle, hns⟩ := hs.at hl1
      have hlt' : (k : Int) < (n : Int) := by omega
      have Hl : Hid (ls[k]? = some l) := hl1
      have Hle : Hid (l.waits.length ≤ maxLen) := hle
      have hw1 : Hid (l.waits.length ≤ 2097152) := by show _ ≤ _; have := sumW_mem hl1; have := HL.out; unfold sizeN at this; omega
      have hw2 : Hid (q + l.waits.length ≤ 2097152) := by
        show _ ≤ _
        have h1 := sumW_take hl1
        have h2 := sumW_le ls (k + 1)
        have h3 := waitsN_le (ls.take k) no
        have h4 := HL.out
        rw [Hq.out] at h3
        unfold sizeN at h4
        omega
      clear hl1 hle
      obtain ⟨m, Hm⟩ : ∃ m : Nat, Hid (l.waits.length = m) := ⟨_, rfl⟩
      have hm1 : m ≤ 2097152 := by rw [← Hm.out]; exact hw1.out
      have hm2 : q + m ≤ 2097152 := by rw [← Hm.out]; exact hw2.out
      rw [Hm.out] at r1
      go_wp2
      go_loopw [5, 7] (fun c i wr => ∃ (j p : Nat), j ≤ m ∧ i = .int .i64 j ∧ c = .int .i64 p ∧ Hid (q + countN (l.waits.take j) no = p) ∧ p ≤ 2097152 ∧ Keeps w wr) (fun _ i _ => m - (intOf i).toNat)
      case atStart => exact ⟨0, q, Nat.zero_le _, rfl, rfl, by show _ = _; simp [countN], hq1, hK⟩
      case round =>
        obtain ⟨j, p, hj, rfl, rfl, Hp, hp1, hK⟩ := hrel
        by_cases hlt2 : j < m
        · obtain ⟨x, hx⟩ := some_in (xs := l.waits) (k := j) (by rw [Hm.out]; exact hlt2)
          obtain ⟨b2, off2, rfl, x0⟩ := hns.at hx
          have hlt3 : (j : Int) < (m : Int) := by omega
          have Hx : Hid (l.waits[j]? = some x) := hx
          have hp2 : p < 2097152 := by
            have h1 := countN_le (l.waits.take j) no
            have h2 : (l.waits.take j).length ≤ j := by simp; omega
            have h3 := Hp.out
            omega
          clear hns hx
          cases hq : (x == no)
          · go_wp2
            refine ⟨⟨j + 1, p, by omega, by go_num, rfl, ?_, hp1, hK⟩, by simp only [intOf]; omega⟩
            show _ = _
            rw [countN_take Hx.out, hq, ← Hp.out]
            simp
          · go_wp2
            refine ⟨⟨j + 1, p + 1, by omega, by go_num, by go_num, ?_, by omega, hK⟩, by simp only [intOf]; omega⟩
            show _ = _
            rw [countN_take Hx.out, hq, ← Hp.out]
            simp
            omega
        · have e : j = m := by omega
          subst e
          go_wp2
          refine ⟨⟨k + 1, p, by omega, by go_num, rfl, ?_, hp1, hK⟩, by simp only [intOf]; omega⟩
          show _ = _
          rw [waitsN_take Hl.out, Hq.out, ← Hp.out, ← Hm.out, List.take_length]
    · have e : k = n := by omega
      subst e
      have Hr : Hid (waitsN ls no = q) := by show _ = _; rw [← Hq.out, ← Hn.out, List.take_length]
      go_wp2
      go_ret
      exact ⟨by rw [Hr.out]; rfl, hK⟩

theorem ownsB_at {ls : List Lk} {no : Int} {k : Nat} {l : Lk} (hl : ls[k]? = some l) (h0 : (no != 0) = true) (h1 : (l.owner == no) = true) : ownsB ls no = true := by
  unfold ownsB
  rw [List.any_eq_true]
  exact ⟨l, List.mem_of_getElem? hl, by rw [h0, h1]; rfl⟩
theorem ownsB_none {ls : List Lk} {no : Int} (h : ∀ (j : Nat) (l : Lk), ls[j]? = some l → (no != 0 && l.owner == no) = false) : ownsB ls no = false := by
  unfold ownsB
  rw [List.any_eq_false]
  intro l hl
  obtain ⟨j, hj, rfl⟩ := List.mem_iff_getElem.1 hl
  simpa using h j _ (List.getElem?_eq_getElem hj)

set_option maxRecDepth 100000 in
set_option maxHeartbeats 1000000 in
theorem specOwnsAny_any (a : Option Addr) (cap : Nat) (ls : List Lk) (no : Int) (w : World) (hl : ls.length ≤ maxLen) (hs : Lks p w a ls) :
    Calls Try.prog 26 #[.slice a ls.length cap, .int .i64 no] w fun e w' => e = .returned (.bool (ownsB ls no)) ∧ Keeps w w' := by
  unfold maxLen at hl
  generalize hn : ls.length = n at hl
  have Hn : Hid (ls.length = n) := hn
  clear hn
  go_enter Try.func26, Try.ntmps26
  go_wp2
  go_loopw [5] (fun i wr => ∃ k : Nat, k ≤ n ∧ i = .int .i64 k ∧ Keeps w wr ∧ Hid (∀ (j : Nat) (l : Lk), j < k → ls[j]? = some l → (no != 0 && l.owner == no) = false)) (fun i _ => n - (intOf i).toNat)
  case atStart => exact ⟨0, Nat.zero_le _, rfl, Keeps.refl _, fun j y hj => by omega⟩
  case round =>
    obtain ⟨k, hk, rfl, hK, H⟩ := hrel
    by_cases hlt : k < n
    · obtain ⟨l, hl1⟩ := some_in (xs := ls) (k := k) (by rw [Hn.out]; exact hlt)
      obtain ⟨b, off, a', cap', rfl, r0, r1, -, -⟩ := hs.at hl1
      have hlt' : (k : Int) < (n : Int) := by omega
      have Hl : Hid (ls[k]? = some l) := hl1
      clear hs hl1
      cases h0 : (no != 0)
      · go_wp2
        exact ⟨⟨k + 1, by omega, by go_num, hK, fun j s hj hs => rfl⟩, by simp only [intOf]; omega⟩
      · cases hq : (l.owner == no)
        · go_wp2
          exact ⟨⟨k + 1, by omega, by go_num, hK, fun j s hj hs => by
            by_cases e : j = k
            · subst e; rw [Hl.out] at hs; cases hs; rw [hq]; simp
            · have := H.out j s (by omega) hs; rw [h0] at this; exact this⟩, by simp only [intOf]; omega⟩
        · have Hr : Hid (ownsB ls no = true) := ownsB_at Hl.out h0 hq
          go_wp2
          go_ret
          exact ⟨by rw [Hr.out]; rfl, hK⟩
    · have Hr : Hid (ownsB ls no = false) := ownsB_none fun j y hy => H.out j y (by have := lt_of_some hy; rw [Hn.out] at this; omega) hy
      go_wp2
      go_ret
      exact ⟨by rw [Hr.out]; rfl, hK⟩
end Go.Proofs.Ytglemedcnapneaa
