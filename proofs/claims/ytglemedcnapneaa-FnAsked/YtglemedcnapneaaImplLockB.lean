/-
  The program's locks: what is right of them, chains, owners.
-/
import Derived.Test.YtglemedcnapneaaImplLockA
import Derived.Test.YtglemedcnapneaaLockSpec3
namespace Go.Proofs.Ytglemedcnapneaa
open Go.RowKit
variable {p : Bool}
attribute [local go_sem] Keeps.refl Keeps.alloc Keeps.drew Keeps.drewN

theorem rightL_no {l : Lk} {k : Nat} {x : Int} (hx : l.waits[k]? = some x) (h : inB x 1 1000 = false) : rightL l = false := by
  unfold rightL
  have : l.waits.all (fun x => inB x 1 1000) = false := by
    rw [List.all_eq_false]
    exact ⟨x, List.mem_of_getElem? hx, by rw [h]; simp⟩
  rw [this]; rfl
theorem rightL_of {l : Lk} (H : ∀ (j : Nat) (x : Int), l.waits[j]? = some x → inB x 1 1000 = true) : rightL l = (inB l.owner 0 1000 && (!(l.owner == 0) || l.waits.length == 0)) := by
  unfold rightL
  have : l.waits.all (fun x => inB x 1 1000) = true := by
    rw [List.all_eq_true]
    intro x hx
    obtain ⟨j, hj, rfl⟩ := List.mem_iff_getElem.1 hx
    exact H j _ (List.getElem?_eq_getElem hj)
  rw [this]; rfl

set_option maxRecDepth 100000 in
set_option maxHeartbeats 2000000 in
theorem isRight_any (o : Int) (a : Option Addr) (cap : Nat) (xs : List Int) (w : World) (hl : xs.length ≤ maxLen) (hs : Ns w a xs) :
    Calls Try.prog 67 #[.agg #[.int .i64 o, .slice a xs.length cap]] w fun e w' => e = .returned (.bool (rightL ⟨o, xs⟩)) ∧ Keeps w w' := by
  unfold maxLen at hl
  generalize hn : xs.length = n at hl
  have Hn : Hid (xs.length = n) := hn
  clear hn
  go_enter Try.func67, Try.ntmps67
  go_wp2
  go_loopw [8] (fun i wr => ∃ k : Nat, k ≤ n ∧ i = .int .i64 k ∧ wr = w.alloc (.cells #[.int .i64 o, .slice a n cap] 47) ∧ Hid (∀ (j : Nat) (y : Int), j < k → xs[j]? = some y → inB y 1 1000 = true)) (fun i _ => n - (intOf i).toNat)
  case atStart => exact ⟨0, Nat.zero_le _, rfl, rfl, fun j y hj => by omega⟩
  case round =>
    obtain ⟨k, hk, rfl, rfl, H⟩ := hrel
    by_cases hlt : k < n
    · obtain ⟨y, hy⟩ := some_in (xs := xs) (k := k) (by rw [Hn.out]; exact hlt)
      obtain ⟨b, off, rfl, r0⟩ := hs.at hy
      have hlt' : (k : Int) < (n : Int) := by omega
      have Hy : Hid (xs[k]? = some y) := hy
      clear hs hy
      cases hq : inB y 1 1000
      · have Hr : Hid (rightL ⟨o, xs⟩ = false) := rightL_no (l := ⟨o, xs⟩) Hy.out hq
        go_wp2_with (go_at_call 68; refine (isWithin_any _ _ _ _).mono ?_; rintro e w' ⟨rfl, hw'⟩; have hw2 := hw'.symm; subst hw2; rw [hq])
        go_ret
        exact ⟨by rw [Hr.out]; rfl, (Keeps.refl _).alloc _⟩
      · go_wp2_with (go_at_call 68; refine (isWithin_any _ _ _ _).mono ?_; rintro e w' ⟨rfl, hw'⟩; have hw2 := hw'.symm; subst hw2; rw [hq])
        exact ⟨⟨k + 1, by omega, by go_num, by first | rfl | trivial, fun j s hj hs => by
          by_cases e : j = k
          · subst e; rw [Hy.out] at hs; cases hs; exact hq
          · exact H.out j s (by omega) hs⟩, by simp only [intOf]; omega⟩
    · have Hr : Hid (rightL ⟨o, xs⟩ = (inB o 0 1000 && (!(o == 0) || n == 0))) := by
        show _ = _
        rw [rightL_of (l := ⟨o, xs⟩) fun j y hy => H.out j y (by have := lt_of_some hy; rw [Hn.out] at this; omega) hy]
        simp only [Hn.out]
      clear H
      cases hq : inB o 0 1000
      · have Hz : Hid (rightL ⟨o, xs⟩ = false) := by show _ = _; rw [Hr.out, hq]; rfl
        go_wp2_with (go_at_call 68; refine (isWithin_any _ _ _ _).mono ?_; rintro e w' ⟨rfl, hw'⟩; have hw2 := hw'.symm; subst hw2; rw [hq])
        go_ret
        exact ⟨by rw [Hz.out]; rfl, (Keeps.refl _).alloc _⟩
      · have eq0 : (o == 0) = !(o != 0) := by simp [bne]
        cases h0 : (o != 0)
        · cases h1 : ((n : Int) == 0)
          · have Hz : Hid (rightL ⟨o, xs⟩ = false) := by show _ = _; rw [Hr.out, hq, eq0, h0]; simp at h1 ⊢; omega
            go_wp2_with (go_at_call 68; refine (isWithin_any _ _ _ _).mono ?_; rintro e w' ⟨rfl, hw'⟩; have hw2 := hw'.symm; subst hw2; rw [hq])
            go_ret
            exact ⟨by rw [Hz.out]; rfl, (Keeps.refl _).alloc _⟩
          · have Hz : Hid (rightL ⟨o, xs⟩ = true) := by show _ = _; rw [Hr.out, hq, eq0, h0]; simp at h1 ⊢; omega
            go_wp2_with (go_at_call 68; refine (isWithin_any _ _ _ _).mono ?_; rintro e w' ⟨rfl, hw'⟩; have hw2 := hw'.symm; subst hw2; rw [hq])
            go_ret
            exact ⟨by rw [Hz.out]; rfl, (Keeps.refl _).alloc _⟩
        · have Hz : Hid (rightL ⟨o, xs⟩ = true) := by show _ = _; rw [Hr.out, hq, eq0, h0]; rfl
          go_wp2_with (go_at_call 68; refine (isWithin_any _ _ _ _).mono ?_; rintro e w' ⟨rfl, hw'⟩; have hw2 := hw'.symm; subst hw2; rw [hq])
          go_ret
          exact ⟨by rw [Hz.out]; rfl, (Keeps.refl _).alloc _⟩

def eachB (ls : List Lk) : Bool := ls.all rightL
theorem eachB_no {ls : List Lk} {k : Nat} {l : Lk} (hl : ls[k]? = some l) (h : rightL l = false) : eachB ls = false := by
  unfold eachB
  rw [List.all_eq_false]
  exact ⟨l, List.mem_of_getElem? hl, by rw [h]; simp⟩
theorem eachB_of {ls : List Lk} (H : ∀ (j : Nat) (l : Lk), ls[j]? = some l → rightL l = true) : eachB ls = true := by
  unfold eachB
  rw [List.all_eq_true]
  intro l hl
  obtain ⟨j, hj, rfl⟩ := List.mem_iff_getElem.1 hl
  exact H j _ (List.getElem?_eq_getElem hj)

set_option maxRecDepth 100000 in
set_option maxHeartbeats 2000000 in
theorem eachRight_any (a : Option Addr) (cap : Nat) (ls : List Lk) (w : World) (hl : ls.length ≤ maxLen) (hs : Lks p w a ls) :
    Calls Try.prog 47 #[.slice a ls.length cap] w fun e w' => e = .returned (.bool (eachB ls)) ∧ Keeps w w' := by
  unfold maxLen at hl
  generalize hn : ls.length = n at hl
  have Hn : Hid (ls.length = n) := hn
  clear hn
  go_enter Try.func47, Try.ntmps47
  go_wp2
  go_loopw [7] (fun i wr => ∃ k : Nat, k ≤ n ∧ i = .int .i64 k ∧ Keeps w wr ∧ Hid (∀ (j : Nat) (m : Lk), j < k → ls[j]? = some m → rightL m = true)) (fun i _ => n - (intOf i).toNat)
  case atStart => exact ⟨0, Nat.zero_le _, rfl, Keeps.refl _, fun j y hj => by omega⟩
  case round =>
    obtain ⟨k, hk, rfl, hK, H⟩ := hrel
    by_cases hlt : k < n
    · obtain ⟨l, hl1⟩ := some_in (xs := ls) (k := k) (by rw [Hn.out]; exact hlt)
      obtain ⟨b, off, a', cap', rfl, r0, r1, hle, hns⟩ := hs.at hl1
      have hlt' : (k : Int) < (n : Int) := by omega
      have Hl : Hid (ls[k]? = some l) := hl1
      have Hle : Hid (l.waits.length ≤ maxLen) := hle
      have N1 : Hid (Ns w a' l.waits) := hns
      clear hs hl1 hle hns
      obtain ⟨q, Hq⟩ : ∃ q, Hid (rightL l = q) := ⟨_, rfl⟩
      have C1 : ∀ o, Calls Try.prog 67 #[.agg #[.int .i64 l.owner, .slice a' l.waits.length cap']] (wr.alloc o) fun e w' => e = .returned (.bool q) ∧ Keeps (wr.alloc o) w' := fun o => by
        have := isRight_any l.owner a' cap' l.waits (wr.alloc o) Hle.out (N1.out.keeps (hK.alloc o))
        rwa [show (⟨l.owner, l.waits⟩ : Lk) = l from rfl, Hq.out] at this
      have HC1 : Hid (∀ o, Calls Try.prog 67 #[.agg #[.int .i64 l.owner, .slice a' l.waits.length cap']] (wr.alloc o) fun e w' => e = .returned (.bool q) ∧ Keeps (wr.alloc o) w') := C1
      clear C1
      cases q
      · have Hr : Hid (eachB ls = false) := eachB_no Hl.out Hq.out
        go_wp2_with (go_at_call 67; refine (HC1.out _).mono ?_; rintro e w1 ⟨rfl, k1⟩)
        go_ret
        exact ⟨by rw [Hr.out]; rfl, (hK.alloc _).trans k1⟩
      · go_wp2_with (go_at_call 67; refine (HC1.out _).mono ?_; rintro e w1 ⟨rfl, k1⟩)
        exact ⟨⟨k + 1, by omega, by go_num, (hK.alloc _).trans k1, fun j s hj hs => by
          by_cases e : j = k
          · subst e; rw [Hl.out] at hs; cases hs; exact Hq.out
          · exact H.out j s (by omega) hs⟩, by simp only [intOf]; omega⟩
    · have Hr : Hid (eachB ls = true) := eachB_of fun j m hm => H.out j m (by have := lt_of_some hm; rw [Hn.out] at this; omega) hm
      go_wp2
      go_ret
      exact ⟨by rw [Hr.out]; rfl, hK⟩

def endsAllB (ls : List Lk) : Bool := ls.all fun l => (chainN ls (ls.length + 1) l.owner).2
theorem endsAllB_no {ls : List Lk} {k : Nat} {l : Lk} (hl : ls[k]? = some l) (h : (chainN ls (ls.length + 1) l.owner).2 = false) : endsAllB ls = false := by
  unfold endsAllB
  rw [List.all_eq_false]
  exact ⟨l, List.mem_of_getElem? hl, by rw [h]; simp⟩
theorem endsAllB_of {ls : List Lk} (H : ∀ (j : Nat) (l : Lk), ls[j]? = some l → (chainN ls (ls.length + 1) l.owner).2 = true) : endsAllB ls = true := by
  unfold endsAllB
  rw [List.all_eq_true]
  intro l hl
  obtain ⟨j, hj, rfl⟩ := List.mem_iff_getElem.1 hl
  exact H j _ (List.getElem?_eq_getElem hj)

set_option maxRecDepth 100000 in
set_option maxHeartbeats 2000000 in
theorem everyEnds_any (B : Nat) (a : Option Addr) (cap : Nat) (ls : List Lk) (w : World) (hl : ls.length ≤ 2097152) (hs : Lks p w a ls) (hm : MapI w B (placesL ls)) :
    Calls Try.prog 50 #[.slice a ls.length cap, .map (some B)] w fun e w' => e = .returned (.bool (endsAllB ls)) ∧ Keeps w w' := by
  have HS : Hid (Lks p w a ls) := hs
  have CF : Hid (∀ no w', Keeps w w' → Calls Try.prog 53 #[.map (some B), .int .i64 no, .slice a ls.length cap] w' fun e w'' => ∃ v, e = .returned (.tuple #[v, .bool (chainN ls (ls.length + 1) no).2]) ∧ ((chainN ls (ls.length + 1) no).2 = true → OwnN w'' w'.heap.size v (chainN ls (ls.length + 1) no).1) ∧ Keeps w' w'') := fun no w' k => chainFrom_any B a cap ls no w' hl (hs.keeps k) (hm.keeps k)
  clear hs hm
  have HE : Hid (∀ (k : Nat) (l : Lk), ls[k]? = some l → (chainN ls (ls.length + 1) l.owner).2 = false → endsAllB ls = false) := fun k l => endsAllB_no
  have HO : Hid ((∀ (j : Nat) (l : Lk), ls[j]? = some l → (chainN ls (ls.length + 1) l.owner).2 = true) → endsAllB ls = true) := endsAllB_of
  generalize hn : ls.length = n at *
  have Hn : Hid (ls.length = n) := hn
  clear hn
  go_enter Try.func50, Try.ntmps50
  go_wp2
  go_loopw [11] (fun i wr => ∃ k : Nat, k ≤ n ∧ i = .int .i64 k ∧ Keeps w wr ∧ Hid (∀ (j : Nat) (m : Lk), j < k → ls[j]? = some m → (chainN ls (n + 1) m.owner).2 = true)) (fun i _ => n - (intOf i).toNat)
  case atStart => exact ⟨0, Nat.zero_le _, rfl, Keeps.refl _, fun j y hj => by omega⟩
  case round =>
    obtain ⟨k, hk, rfl, hK, H⟩ := hrel
    by_cases hlt : k < n
    · obtain ⟨l, hl1⟩ := some_in (xs := ls) (k := k) (by rw [Hn.out]; exact hlt)
      obtain ⟨b, off, a', cap', rfl, r0, r1, -, -⟩ := HS.out.at hl1
      have hlt' : (k : Int) < (n : Int) := by omega
      have Hl : Hid (ls[k]? = some l) := hl1
      clear hl1
      obtain ⟨q, Hq⟩ : ∃ q, Hid ((chainN ls (n + 1) l.owner).2 = q) := ⟨_, rfl⟩
      have C1 : Hid (∀ o, Calls Try.prog 53 #[.map (some B), .int .i64 l.owner, .slice (some ⟨b, off, none⟩) n cap] (wr.alloc o) fun e w' => ∃ v, e = .returned (.tuple #[v, .bool q]) ∧ Keeps (wr.alloc o) w') := fun o => by
        refine (CF.out l.owner (wr.alloc o) (hK.alloc o)).mono ?_
        rintro e w' ⟨v, rfl, -, k'⟩
        rw [Hq.out]
        exact ⟨v, rfl, k'⟩
      cases q
      · have Hr : Hid (endsAllB ls = false) := HE.out k l Hl.out Hq.out
        go_wp2_with (go_at_call 53; refine (C1.out _).mono ?_; rintro e w1 ⟨v, rfl, k1⟩)
        go_ret
        exact ⟨by rw [Hr.out]; rfl, (hK.alloc _).trans k1⟩
      · go_wp2_with (go_at_call 53; refine (C1.out _).mono ?_; rintro e w1 ⟨v, rfl, k1⟩)
        exact ⟨⟨k + 1, by omega, by go_num, (hK.alloc _).trans k1, fun j s hj hs => by
          by_cases e : j = k
          · subst e; rw [Hl.out] at hs; cases hs; exact Hq.out
          · exact H.out j s (by omega) hs⟩, by simp only [intOf]; omega⟩
    · have Hr : Hid (endsAllB ls = true) := HO.out fun j m hm => H.out j m (by have := lt_of_some hm; rw [Hn.out] at this; omega) hm
      go_wp2
      go_ret
      exact ⟨by rw [Hr.out]; rfl, hK⟩

theorem locks_parts (ls : List Lk) : (decide (ls.length ≤ 5) && (eachB ls && (decide ((placesL ls).length = sumW ls) && endsAllB ls))) = locksB ls := locks_by_map ls

set_option maxRecDepth 100000 in
set_option maxHeartbeats 2000000 in
theorem implLocksOk_all (a : Option Addr) (cap : Nat) (ls : List Lk) (w : World) (hl : sizeN ls ≤ 2097152) (hs : Lks p w a ls) :
    Calls Try.prog 16 #[.slice a ls.length cap] w fun e w' => e = .returned (.bool (locksB ls)) ∧ Keeps w w' := by
  have hl0 : ls.length ≤ 2097152 := by unfold sizeN at hl; omega
  have E1 : Hid (∀ w', Keeps w w' → Calls Try.prog 47 #[.slice a ls.length cap] w' fun e w'' => e = .returned (.bool (eachB ls)) ∧ Keeps w' w'') := fun w' k => eachRight_any a cap ls w' (by unfold maxLen; omega) (hs.keeps k)
  have E2 : Hid (∀ w', Keeps w w' → Calls Try.prog 48 #[.slice a ls.length cap] w' fun e w'' => e = .returned (.map (some w'.heap.size)) ∧ MapI w'' w'.heap.size (placesL ls) ∧ Keeps w' w'') := fun w' k => places_any a cap ls w' hl (hs.keeps k)
  have E3 : Hid (∀ w', Keeps w w' → Calls Try.prog 49 #[.slice a ls.length cap] w' fun e w'' => e = .returned (.int .i64 (sumW ls)) ∧ Keeps w' w'') := fun w' k => countWaits_any a cap ls w' hl (hs.keeps k)
  have E4 : Hid (∀ B w', Keeps w w' → MapI w' B (placesL ls) → Calls Try.prog 50 #[.slice a ls.length cap, .map (some B)] w' fun e w'' => e = .returned (.bool (endsAllB ls)) ∧ Keeps w' w'') := fun B w' k m => everyEnds_any B a cap ls w' hl0 (hs.keeps k) m
  have HP : Hid ((decide (ls.length ≤ 5) && (eachB ls && (decide ((placesL ls).length = sumW ls) && endsAllB ls))) = locksB ls) := locks_parts ls
  have Hsum : Hid (sumW ls ≤ 2097152) := by show _ ≤ _; unfold sizeN at hl; omega
  have Hpl : Hid ((placesL ls).length ≤ sumW ls) := (placesL_len ls).1
  clear hl hs
  generalize hn : ls.length = n at *
  obtain ⟨g1, G1⟩ : ∃ g, Hid (eachB ls = g) := ⟨_, rfl⟩
  obtain ⟨g2, G2⟩ : ∃ g, Hid (endsAllB ls = g) := ⟨_, rfl⟩
  obtain ⟨s, Hs⟩ : ∃ s, Hid (sumW ls = s) := ⟨_, rfl⟩
  obtain ⟨m, Hm⟩ : ∃ m, Hid ((placesL ls).length = m) := ⟨_, rfl⟩
  obtain ⟨E, HE⟩ : ∃ E, Hid (placesL ls = E) := ⟨_, rfl⟩
  rw [G1.out] at E1
  rw [HE.out] at E2 E4
  rw [Hs.out] at E3 Hsum
  rw [G2.out] at E4
  rw [G1.out, G2.out, Hs.out, Hm.out] at HP
  have HmE : Hid (E.length = m) := by show _ = _; rw [← HE.out]; exact Hm.out
  have hs0 : s ≤ 2097152 := Hsum.out
  have hm0 : m ≤ 2097152 := by have := Hpl.out; rw [Hm.out, Hs.out] at this; omega
  clear hn Hpl
  by_cases h5 : n ≤ 5
  · have h5' : decide ((5 : Int) < (n : Int)) = false := by simp; omega
    have d5 : decide (n ≤ 5) = true := decide_eq_true h5
    cases g1
    · have Hr : Hid (locksB ls = false) := by show _ = _; rw [← HP.out, d5]; rfl
      go_enter Try.func16, Try.ntmps16
      go_wp2_with (go_at_call 47; refine (E1.out _ (Keeps.refl _)).mono ?_; rintro e w1 ⟨rfl, k1⟩)
      go_ret
      exact ⟨by rw [Hr.out]; rfl, k1⟩
    · by_cases hms : m = s
      · have Hr : Hid (locksB ls = g2) := by show _ = _; rw [← HP.out, d5, decide_eq_true hms]; rfl
        subst hms
        have hee : ((m : Int) == (m : Int)) = true := by simp
        go_enter Try.func16, Try.ntmps16
        go_wp2_with (first
          | (go_at_call 47; refine (E1.out _ (Keeps.refl _)).mono ?_; rintro e w1 ⟨rfl, k1⟩)
          | (go_at_call 48; refine (E2.out _ k1).mono ?_; rintro e w2 ⟨rfl, m2, k2⟩; have K2 : Keeps w w2 := k1.trans k2; have M2 : Hid (MapI w2 w1.heap.size E) := m2; have hlen : ∀ ty, (Builtin.len_ #[59] ty #[.map (some w1.heap.size)]).run Try.prog w2 = .ok (.int .i64 m) w2 := (fun ty => by have h := MapI.len m2 (P := Try.prog) (t := 59) Try.underlying59 ty; rw [HmE.out] at h; exact h); clear m2)
          | (go_at_call 49; refine (E3.out _ K2).mono ?_; rintro e w3 ⟨rfl, k3⟩; have K3 : Keeps w w3 := K2.trans k3)
          | (go_at_call 50; refine (E4.out _ _ K3 (M2.out.keeps k3)).mono ?_; rintro e w4 ⟨rfl, k4⟩))
        go_ret
        exact ⟨by rw [Hr.out]; rfl, K3.trans k4⟩
      · have Hr : Hid (locksB ls = false) := by show _ = _; rw [← HP.out, d5, decide_eq_false hms]; rfl
        have hne : ((m : Int) == (s : Int)) = false := by simp; omega
        go_enter Try.func16, Try.ntmps16
        go_wp2_with (first
          | (go_at_call 47; refine (E1.out _ (Keeps.refl _)).mono ?_; rintro e w1 ⟨rfl, k1⟩)
          | (go_at_call 48; refine (E2.out _ k1).mono ?_; rintro e w2 ⟨rfl, m2, k2⟩; have K2 : Keeps w w2 := k1.trans k2; have M2 : Hid (MapI w2 w1.heap.size E) := m2; have hlen : ∀ ty, (Builtin.len_ #[59] ty #[.map (some w1.heap.size)]).run Try.prog w2 = .ok (.int .i64 m) w2 := (fun ty => by have h := MapI.len m2 (P := Try.prog) (t := 59) Try.underlying59 ty; rw [HmE.out] at h; exact h); clear m2)
          | (go_at_call 49; refine (E3.out _ K2).mono ?_; rintro e w3 ⟨rfl, k3⟩; have K3 : Keeps w w3 := K2.trans k3))
        go_ret
        exact ⟨by rw [Hr.out]; rfl, K3⟩
  · have h5' : (5 : Int) < (n : Int) := by omega
    have Hr : Hid (locksB ls = false) := by show _ = _; rw [← HP.out, decide_eq_false h5]; rfl
    go_enter Try.func16, Try.ntmps16
    go_wp2
    go_ret
    exact ⟨by rw [Hr.out]; rfl, Keeps.refl _⟩

set_option maxRecDepth 100000 in
set_option maxHeartbeats 1000000 in
theorem implWaitAt_all (a : Option Addr) (cap : Nat) (ls : List Lk) (no : Int) (w : World) (hl : sizeN ls ≤ 2097152) (hs : Lks p w a ls) :
    Calls Try.prog 19 #[.slice a ls.length cap, .int .i64 no] w fun e w' => e = .returned (.int .i64 (waitAt ls no)) ∧ Keeps w w' := by
  have E2 := places_any a cap ls w hl hs
  cases hx : waitIx ls no with
  | none =>
    have HQ : Hid (hasM (placesL ls) no = false) := placesL_none hx
    obtain ⟨v, Hv⟩ : ∃ v, Hid (valM (placesL ls) no = v) := ⟨_, rfl⟩
    have Hr : Hid (waitAt ls no = -1) := by show _ = _; unfold waitAt; rw [hx]
    go_enter Try.func19, Try.ntmps19
    go_wp2_with (first
      | (go_at_call 48; refine E2.mono ?_; rintro e w2 ⟨rfl, m2, k2⟩; have M2 : Hid (MapI w2 w.heap.size (placesL ls)) := m2; clear m2)
      | (at_lookup; refine wpList_lookI rfl _ _ 59 rfl 3 3 Try.underlying59 Try.underlying3 (zeroI _) w.heap.size (placesL ls) rfl M2.out no rfl v false Hv.out HQ.out ?_))
    go_ret
    exact ⟨by rw [Hr.out]; rfl, k2⟩
  | some i =>
    have HQ : Hid (hasM (placesL ls) no = true) := (placesL_some hx).1
    have Hv : Hid (valM (placesL ls) no = (i : Int)) := (placesL_some hx).2
    have Hr : Hid (waitAt ls no = (i : Int)) := by show _ = _; unfold waitAt; rw [hx]
    go_enter Try.func19, Try.ntmps19
    go_wp2_with (first
      | (go_at_call 48; refine E2.mono ?_; rintro e w2 ⟨rfl, m2, k2⟩; have M2 : Hid (MapI w2 w.heap.size (placesL ls)) := m2; clear m2)
      | (at_lookup; refine wpList_lookI rfl _ _ 59 rfl 3 3 Try.underlying59 Try.underlying3 (zeroI _) w.heap.size (placesL ls) rfl M2.out no rfl (i : Int) true Hv.out HQ.out ?_))
    go_ret
    exact ⟨by rw [Hr.out]; rfl, k2⟩

set_option maxRecDepth 100000 in
set_option maxHeartbeats 1000000 in
theorem implOwnsAny_all (a : Option Addr) (cap : Nat) (ls : List Lk) (no : Int) (w : World) (hl : ls.length ≤ maxLen) (hs : Lks p w a ls) :
    Calls Try.prog 27 #[.slice a ls.length cap, .int .i64 no] w fun e w' => e = .returned (.bool (ownsB ls no)) ∧ Keeps w w' := by
  unfold maxLen at hl
  generalize hn : ls.length = n at hl
  have Hn : Hid (ls.length = n) := hn
  clear hn
  cases h00 : (no == 0)
  rotate_left
  · have Hr : Hid (ownsB ls no = false) := ownsB_none fun j l _ => by simp at h00; simp [h00]
    go_enter Try.func27, Try.ntmps27
    go_wp2
    go_ret
    exact ⟨by rw [Hr.out]; rfl, Keeps.refl _⟩
  have h0 : Hid ((no != 0) = true) := by show _ = _; simp [bne, h00]
  go_enter Try.func27, Try.ntmps27
  go_wp2
  go_loopw [11] (fun i wr => ∃ k : Nat, k ≤ n ∧ i = .int .i64 k ∧ Keeps w wr ∧ Hid (∀ (j : Nat) (l : Lk), j < k → ls[j]? = some l → (no != 0 && l.owner == no) = false)) (fun i _ => n - (intOf i).toNat)
  case atStart => exact ⟨0, Nat.zero_le _, rfl, Keeps.refl _, fun j y hj => by omega⟩
  case round =>
    obtain ⟨k, hk, rfl, hK, H⟩ := hrel
    by_cases hlt : k < n
    · obtain ⟨l, hl1⟩ := some_in (xs := ls) (k := k) (by rw [Hn.out]; exact hlt)
      obtain ⟨b, off, a', cap', rfl, r0, r1, -, -⟩ := hs.at hl1
      have hlt' : (k : Int) < (n : Int) := by omega
      have Hl : Hid (ls[k]? = some l) := hl1
      clear hs hl1
      cases hq : (l.owner == no)
      · go_wp2
        exact ⟨⟨k + 1, by omega, by go_num, hK.alloc _, fun j s hj hs => by
          by_cases e : j = k
          · subst e; rw [Hl.out] at hs; cases hs; rw [hq]; simp
          · exact H.out j s (by omega) hs⟩, by simp only [intOf]; omega⟩
      · have Hr : Hid (ownsB ls no = true) := ownsB_at Hl.out h0.out hq
        go_wp2
        go_ret
        exact ⟨by rw [Hr.out]; rfl, hK.alloc _⟩
    · have Hr : Hid (ownsB ls no = false) := ownsB_none fun j y hy => H.out j y (by have := lt_of_some hy; rw [Hn.out] at this; omega) hy
      go_wp2
      go_ret
      exact ⟨by rw [Hr.out]; rfl, hK⟩

set_option maxRecDepth 100000 in
set_option maxHeartbeats 1000000 in
theorem implChainOf_all (a : Option Addr) (cap : Nat) (ls : List Lk) (no : Int) (w : World) (hl : sizeN ls ≤ 2097152) (hs : Lks p w a ls) :
    Calls Try.prog 21 #[.slice a ls.length cap, .int .i64 no] w fun e w' => ∃ v, e = .returned v ∧ OwnN w' w.heap.size v (chainL ls no) ∧ Keeps w w' := by
  have hl0 : ls.length ≤ 2097152 := by unfold sizeN at hl; omega
  have E1 := implLocksOk_all a cap ls w hl hs
  have E2 : Hid (∀ w', Keeps w w' → Calls Try.prog 48 #[.slice a ls.length cap] w' fun e w'' => e = .returned (.map (some w'.heap.size)) ∧ MapI w'' w'.heap.size (placesL ls) ∧ Keeps w' w'') := fun w' k => places_any a cap ls w' hl (hs.keeps k)
  have CF : Hid (∀ B w', Keeps w w' → MapI w' B (placesL ls) → Calls Try.prog 53 #[.map (some B), .int .i64 no, .slice a ls.length cap] w' fun e w'' => ∃ v, e = .returned (.tuple #[v, .bool (chainN ls (ls.length + 1) no).2]) ∧ ((chainN ls (ls.length + 1) no).2 = true → OwnN w'' w'.heap.size v (chainN ls (ls.length + 1) no).1) ∧ Keeps w' w'') := fun B w' k m => chainFrom_any B a cap ls no w' hl0 (hs.keeps k) m
  clear hs hl
  cases hb : locksB ls
  · rw [hb] at E1
    have Hr : Hid (chainL ls no = []) := by show _ = _; unfold chainL; rw [hb]; rfl
    obtain ⟨n, Hn⟩ : ∃ n, Hid (ls.length = n) := ⟨_, rfl⟩
    rw [Hn.out] at E1 ⊢
    go_enter Try.func21, Try.ntmps21
    go_wp2_with (go_at_call 16; refine E1.mono ?_; rintro e w1 ⟨rfl, k1⟩)
    go_ret
    exact ⟨_, rfl, by rw [Hr.out]; exact World.ownsRow_nil _ _ _ _, k1⟩
  · rw [hb] at E1
    have R := right_iff.1 hb
    have Ht : Hid ((chainN ls (ls.length + 1) no).2 = true) := by
      show _ = _
      obtain ⟨d, hd⟩ := R.chain no
      exact chainN_iff.2 ⟨d, hd⟩
    have Hr : Hid (chainL ls no = (chainN ls (ls.length + 1) no).1) := by show _ = _; unfold chainL; rw [hb]; rfl
    clear R
    obtain ⟨n, Hn⟩ : ∃ n, Hid (ls.length = n) := ⟨_, rfl⟩
    rw [Hn.out] at E1 E2 CF Ht Hr ⊢
    obtain ⟨C, HC⟩ : ∃ C, Hid (chainN ls (n + 1) no = C) := ⟨_, rfl⟩
    rw [HC.out] at CF Ht Hr
    rw [Ht.out] at CF
    go_enter Try.func21, Try.ntmps21
    go_wp2_with (first
      | (go_at_call 16; refine E1.mono ?_; rintro e w1 ⟨rfl, k1⟩)
      | (go_at_call 48; refine (E2.out _ k1).mono ?_; rintro e w2 ⟨rfl, m2, k2⟩; have K2 : Keeps w w2 := k1.trans k2; have M2 : Hid (MapI w2 w1.heap.size (placesL ls)) := m2; clear m2)
      | (go_at_call 53; refine (CF.out _ _ K2 M2.out).mono ?_; rintro e w3 ⟨v, rfl, o3, k3⟩; have O3 : Hid (OwnN w3 w2.heap.size v C.1) := o3 (by trivial); clear o3))
    go_ret
    exact ⟨_, rfl, by rw [Hr.out]; exact O3.out.base K2.size, K2.trans k3⟩
end Go.Proofs.Ytglemedcnapneaa
