/-
  The law FnOrder's walk: for every text.
-/
import Derived.Test.YtdfhoflmjcdkkaaDrawLess
import Derived.Test.YtdfhoflmjcdkkaaPlain2
namespace Go.Proofs.Ytdfhoflmjcdkkaa
open Go.RowKit Plain
attribute [local go_sem] Keeps.refl Keeps.alloc Keeps.drew Keeps.drewN

theorem lessB_self (q p : Int) : lessB q p q p = false := by
  simp [lessB]
theorem lessB_asymm {q p q' p' : Int} (h : lessB q p q' p' = true) : lessB q' p' q p = false := by
  simp only [lessB, Bool.and_eq_true, decide_eq_true_eq] at h
  have : decide (q' * p < q * p') = false := by simp; omega
  simp [lessB, this]
theorem lessB_iff {q p q' p' : Int} : lessB q p q' p' = true ↔ (okB q p = true ∧ okB q' p' = true) ∧ q * p' < q' * p := by simp [lessB]
theorem good_of {q p : Int} (h : okB q p = true) : Plain.Good (q, p) := okB_iff.1 h

def fitsB (xs : List (Int × Int)) : Bool := canB xs && decide ((sumI xs).1 ≤ (sumI xs).2)
theorem good_all {xs : List (Int × Int)} (h : okAll xs = true) : ∀ x ∈ xs, Plain.Good x := fun x hx => okB_iff.1 (List.all_eq_true.1 h x hx)
theorem fitsB_iff {xs : List (Int × Int)} : fitsB xs = true ↔ (xs.length ≤ 7 ∧ okAll xs = true) ∧ rawN xs ≤ rawD xs := by
  simp only [fitsB, Bool.and_eq_true, decide_eq_true_eq, canB_iff]
  constructor
  · rintro ⟨h, hf⟩; exact ⟨h, (fits_iff (good_all h.2)).1 hf⟩
  · rintro ⟨h, hf⟩; exact ⟨h, (fits_iff (good_all h.2)).2 hf⟩
theorem fits_less {q p q' p' c : Int} (hc : 2 ≤ c) (hc' : c ≤ 6) (hl : lessB q p q' p' = true) (hf : fitsB [(q', p'), (1, c)] = true) : fitsB [(q, p), (1, c)] = true := by
  obtain ⟨⟨h1, h2⟩, h3⟩ := lessB_iff.1 hl
  obtain ⟨_, hf⟩ := fitsB_iff.1 hf
  have ho : okB 1 c = true := okB_iff.2 ⟨⟨by omega, by omega⟩, by omega, by omega⟩
  exact fitsB_iff.2 ⟨⟨by simp, by simp [okAll, h1, ho]⟩, raw_less (good_of h1) (good_of h2) (by omega) h3 hf⟩

theorem implFits_n (b : Nat) (n cap : Nat) (xs : List (Int × Int)) (w : World) (hn : xs.length = n) (hl : n ≤ 8) (hs : Sh w (some ⟨b, 0, none⟩) xs) :
    Calls Try.prog 13 #[.slice (some ⟨b, 0, none⟩) n cap] w fun e w' => e = .returned (.bool (fitsB xs)) ∧ Keeps w w' := by
  subst hn
  exact implFits_any _ cap xs w (by unfold maxLen; omega) hs

theorem at_any (a : Option Addr) (n cap : Nat) (i : Int) (w : World) (hn : n ≤ 1048576) (h0 : 0 ≤ i) (hi : i ≤ 1000) (hb : ∀ g, w.heap.size ≤ g → Bytes g w a n) :
    Calls Try.prog 23 #[.slice a n cap, .int .i64 i] w fun e w' => ∃ x : Int, e = .returned (.int .i64 x) ∧ 0 ≤ x ∧ x ≤ 255 ∧ w' = w := by
  obtain ⟨i, rfl⟩ := Int.eq_ofNat_of_zero_le h0
  by_cases hlt : i < n
  · rcases hb w.heap.size (Nat.le_refl _) with h0 | ⟨b, off, rfl, hg, hz⟩
    · omega
    obtain ⟨z, hz0, hz1, hcz⟩ := hz i hlt
    have hlt' : (i : Int) < (n : Int) := by omega
    clear hz hb
    go_enter Try.func23, Try.ntmps23
    go_wp2
    go_ret
    exact ⟨z, rfl, hz0, hz1, rfl⟩
  · clear hb
    go_enter Try.func23, Try.ntmps23
    go_wp2
    go_ret
    exact ⟨_, rfl, by omega, by omega, rfl⟩

theorem sh_pair (w : World) (q p q' p' : Int) (t : TypeId) : Sh (w.alloc (.cells #[.int .i64 q, .int .i64 p, .int .i64 q', .int .i64 p'] t)) (some ⟨w.heap.size, 0, none⟩) [(q, p), (q', p')] := by
  refine .inr ⟨_, _, rfl, fun i hi => ?_⟩
  have : i = 0 ∨ i = 1 := by simp at hi; omega
  rcases this with rfl | rfl <;> simp [go_sem]

set_option maxHeartbeats 1600000 in
theorem orderLaw_walk (a : Option Addr) (n cap : Nat) (w : World) (hm : n ≤ maxLen) (hb : ∀ g, w.heap.size ≤ g → Bytes g w a n) :
    Calls Try.prog 4 #[.slice a n cap] w fun e w' => e = .returned (.bool true) ∧ Keeps w w' := by
  by_cases hn : n ≤ 1048576
  · have hd : decide (1048576 < (n : Int)) = false := by simp; omega
    have HB : Hid (∀ g, w.heap.size ≤ g → Bytes g w a n) := hb
    clear hb
    go_enter Try.func4, Try.ntmps4
    go_wp2_with fail
    refine (big_any _ _ _ _ hm).mono ?_
    rintro e w0 ⟨rfl, rfl⟩
    go_wp2_with fail
    refine (drawShareLess_any _ _ _ _ hn HB.out).mono ?_
    rintro e w1 ⟨q, p, q', p', rfl, k1⟩
    go_wp2_with fail
    have kW := (k1.alloc (.cells #[.int .i64 q, .int .i64 p] 31)).alloc (.cells #[.int .i64 q', .int .i64 p'] 31)
    have T0 := (Two.new w1 (.int .i64 q) (.int .i64 p) 31).alloc (.cells #[.int .i64 q', .int .i64 p'] 31)
    have T1 := Two.new (w1.alloc (.cells #[.int .i64 q, .int .i64 p] 31)) (.int .i64 q') (.int .i64 p') 31
    rw [show (w1.alloc (.cells #[.int .i64 q, .int .i64 p] 31)).heap.size = w1.heap.size + 1 from by simp] at T1
    generalize (w1.alloc (.cells #[.int .i64 q, .int .i64 p] 31)).alloc (.cells #[.int .i64 q', .int .i64 p'] 31) = W at *
    generalize w1.heap.size = s at *
    clear k1
    obtain ⟨r1, r2, r3, r4⟩ := T0.rules
    obtain ⟨r5, r6, r7, r8⟩ := T1.rules
    clear T0 T1 r3 r4 r7 r8
    refine (implShareLess_any _ _ _ _ _).mono ?_
    rintro e w2 ⟨rfl, k2⟩
    have s1 : lessB q p q p = false := lessB_self q p
    have okn : (okB q p != okB q p) = false := by simp
    cases hl : lessB q p q' p'
    · have K2 : Keeps W w2 := k2
      go_wp2
      refine wp_region_held_drew (S := (fun w' => Keeps W w')) (by kernel_rfl) ?_ (fun hHeld => ?_)
      · exact K2.drew
      refine wpAnyH_take (i := 0) (v := ?_) (by simp only [List.getElem?_toArray, List.getElem?_cons_zero]; rfl) (by kernel_rfl) (by kernel_rfl) (by kernel_rfl) (by exact fun _ _ _ h => h) (Or.inl ⟨by rfl, ?_⟩) (by assumption) ?_
      rotate_left
      · (intro w hSw; (try dsimp only at hSw); go_simp; try (with_reducible rfl))
      try simp only [Act.put, List.setIfInBounds_toArray, List.set_cons_zero, List.set_cons_succ]
      refine wpAnyH_take (i := 1) (v := ?_) (by simp only [List.getElem?_toArray, List.getElem?_cons_succ, List.getElem?_cons_zero]; rfl) (by kernel_rfl) (by kernel_rfl) (by kernel_rfl) (by exact fun _ _ _ h => h) (Or.inl ⟨by rfl, ?_⟩) (by assumption) ?_
      rotate_left
      · (intro w hSw; (try dsimp only at hSw); go_simp; try (with_reducible rfl))
      try simp only [Act.put, List.setIfInBounds_toArray, List.set_cons_zero, List.set_cons_succ]
      refine wpAnyH_take (i := 2) (v := ?_) (by simp only [List.getElem?_toArray, List.getElem?_cons_succ, List.getElem?_cons_zero]; rfl) (by kernel_rfl) (by kernel_rfl) (by kernel_rfl) (by exact fun _ _ _ h => h) (Or.inl ⟨by rfl, ?_⟩) (by assumption) ?_
      rotate_left
      · (intro w hSw; (try dsimp only at hSw); go_simp; try (with_reducible rfl))
      try simp only [Act.put, List.setIfInBounds_toArray, List.set_cons_zero, List.set_cons_succ]
      refine wpAnyH_ready (rs := [3]) (by kernel_rfl) (by simp) ?_
      refine AllReadyH.cons (by simp only [List.getElem?_toArray, List.getElem?_cons_succ, List.getElem?_cons_zero]; rfl) (fun K hK => ?_) AllReadyH.nil
      go_simp
      first
        | (go_at_call 20; refine (specShareLess_any _ _ _ _ _).mono ?_; rintro e w' ⟨rfl, hb⟩; rw [hl])
        | (go_at_call 19; refine (implShareLess_any _ _ _ _ _).mono ?_; rintro e w' ⟨rfl, hb⟩; rw [s1])
        | (go_at_call 21; refine (implShareOk_any _ _ _).mono ?_; rintro e w' ⟨rfl, hb⟩)
        | (go_at_call 22; refine (specShareOk_k _ _ _).mono ?_; rintro e w' ⟨rfl, hb⟩)
      try go_wp2_with fail
      refine hK.out _ _ ?_ (fun hHeld => ?_)
      · exact Keeps.trans (by assumption) (by assumption)
      clear hK K
      try simp only [Act.put, List.setIfInBounds_toArray, List.set_cons_zero, List.set_cons_succ]
      refine wpAnyH_take (i := 4) (v := ?_) (by simp only [List.getElem?_toArray, List.getElem?_cons_succ, List.getElem?_cons_zero]; rfl) (by kernel_rfl) (by kernel_rfl) (by kernel_rfl) (by exact fun _ _ _ h => h) (Or.inl ⟨by rfl, ?_⟩) (by assumption) ?_
      rotate_left
      · (intro w hSw; (try dsimp only at hSw); go_simp; try (with_reducible rfl))
      try simp only [Act.put, List.setIfInBounds_toArray, List.set_cons_zero, List.set_cons_succ]
      refine wpAnyH_take (i := 5) (v := ?_) (by simp only [List.getElem?_toArray, List.getElem?_cons_succ, List.getElem?_cons_zero]; rfl) (by kernel_rfl) (by kernel_rfl) (by kernel_rfl) (by exact fun _ _ _ h => h) (Or.inl ⟨by rfl, ?_⟩) (by assumption) ?_
      rotate_left
      · (intro w hSw; (try dsimp only at hSw); go_simp; try (with_reducible rfl))
      try simp only [Act.put, List.setIfInBounds_toArray, List.set_cons_zero, List.set_cons_succ]
      refine wpAnyH_take (i := 6) (v := ?_) (by simp only [List.getElem?_toArray, List.getElem?_cons_succ, List.getElem?_cons_zero]; rfl) (by kernel_rfl) (by kernel_rfl) (by kernel_rfl) (by exact fun _ _ _ h => h) (Or.inl ⟨by rfl, ?_⟩) (by assumption) ?_
      rotate_left
      · (intro w hSw; (try dsimp only at hSw); go_simp; try (with_reducible rfl))
      try simp only [Act.put, List.setIfInBounds_toArray, List.set_cons_zero, List.set_cons_succ]
      refine wpAnyH_take (i := 7) (v := ?_) (by simp only [List.getElem?_toArray, List.getElem?_cons_succ, List.getElem?_cons_zero]; rfl) (by kernel_rfl) (by kernel_rfl) (by kernel_rfl) (by exact fun _ _ _ h => h) (Or.inl ⟨by rfl, ?_⟩) (by assumption) ?_
      rotate_left
      · (intro w hSw; (try dsimp only at hSw); go_simp; try (with_reducible rfl))
      try simp only [Act.put, List.setIfInBounds_toArray, List.set_cons_zero, List.set_cons_succ]
      refine wpAnyH_take (i := 8) (v := undef) (by simp only [List.getElem?_toArray, List.getElem?_cons_succ, List.getElem?_cons_zero]; rfl) (by kernel_rfl) (by kernel_rfl) (by kernel_rfl) (by exact fun _ _ _ h => h) (Or.inr ⟨by rfl, rfl⟩) (by assumption) ?_
      try simp only [Act.put, List.setIfInBounds_toArray, List.set_cons_zero, List.set_cons_succ]
      refine wpAnyH_take (i := 9) (v := undef) (by simp only [List.getElem?_toArray, List.getElem?_cons_succ, List.getElem?_cons_zero]; rfl) (by kernel_rfl) (by kernel_rfl) (by kernel_rfl) (by exact fun _ _ _ h => h) (Or.inr ⟨by rfl, rfl⟩) (by assumption) ?_
      try simp only [Act.put, List.setIfInBounds_toArray, List.set_cons_zero, List.set_cons_succ]
      refine wpAnyH_take (i := 10) (v := undef) (by simp only [List.getElem?_toArray, List.getElem?_cons_succ, List.getElem?_cons_zero]; rfl) (by kernel_rfl) (by kernel_rfl) (by kernel_rfl) (by exact fun _ _ _ h => h) (Or.inr ⟨by rfl, rfl⟩) (by assumption) ?_
      try simp only [Act.put, List.setIfInBounds_toArray, List.set_cons_zero, List.set_cons_succ]
      refine wpAnyH_take (i := 11) (v := ?_) (by simp only [List.getElem?_toArray, List.getElem?_cons_succ, List.getElem?_cons_zero]; rfl) (by kernel_rfl) (by kernel_rfl) (by kernel_rfl) (by exact fun _ _ _ h => h) (Or.inl ⟨by rfl, ?_⟩) (by assumption) ?_
      rotate_left
      · (intro w hSw; (try dsimp only at hSw); go_simp; try (with_reducible rfl))
      try simp only [Act.put, List.setIfInBounds_toArray, List.set_cons_zero, List.set_cons_succ]
      refine wpAnyH_take (i := 12) (v := ?_) (by simp only [List.getElem?_toArray, List.getElem?_cons_succ, List.getElem?_cons_zero]; rfl) (by kernel_rfl) (by kernel_rfl) (by kernel_rfl) (by exact fun _ _ _ h => h) (Or.inl ⟨by rfl, ?_⟩) (by assumption) ?_
      rotate_left
      · (intro w hSw; (try dsimp only at hSw); go_simp; try (with_reducible rfl))
      try simp only [Act.put, List.setIfInBounds_toArray, List.set_cons_zero, List.set_cons_succ]
      refine wpAnyH_take (i := 13) (v := ?_) (by simp only [List.getElem?_toArray, List.getElem?_cons_succ, List.getElem?_cons_zero]; rfl) (by kernel_rfl) (by kernel_rfl) (by kernel_rfl) (by exact fun _ _ _ h => h) (Or.inl ⟨by rfl, ?_⟩) (by assumption) ?_
      rotate_left
      · (intro w hSw; (try dsimp only at hSw); go_simp; try (with_reducible rfl))
      try simp only [Act.put, List.setIfInBounds_toArray, List.set_cons_zero, List.set_cons_succ]
      refine wpAnyH_take (i := 14) (v := ?_) (by simp only [List.getElem?_toArray, List.getElem?_cons_succ, List.getElem?_cons_zero]; rfl) (by kernel_rfl) (by kernel_rfl) (by kernel_rfl) (by exact fun _ _ _ h => h) (Or.inl ⟨by rfl, ?_⟩) (by assumption) ?_
      rotate_left
      · (intro w hSw; (try dsimp only at hSw); go_simp; try (with_reducible rfl))
      try simp only [Act.put, List.setIfInBounds_toArray, List.set_cons_zero, List.set_cons_succ]
      refine wpAnyH_take (i := 15) (v := ?_) (by simp only [List.getElem?_toArray, List.getElem?_cons_succ, List.getElem?_cons_zero]; rfl) (by kernel_rfl) (by kernel_rfl) (by kernel_rfl) (by exact fun _ _ _ h => h) (Or.inl ⟨by rfl, ?_⟩) (by assumption) ?_
      rotate_left
      · (intro w hSw; (try dsimp only at hSw); go_simp; try (with_reducible rfl))
      try simp only [Act.put, List.setIfInBounds_toArray, List.set_cons_zero, List.set_cons_succ]
      refine wpAnyH_ready (rs := [16]) (by kernel_rfl) (by simp) ?_
      refine AllReadyH.cons (by simp only [List.getElem?_toArray, List.getElem?_cons_succ, List.getElem?_cons_zero]; rfl) (fun K hK => ?_) AllReadyH.nil
      go_simp
      first
        | (go_at_call 20; refine (specShareLess_any _ _ _ _ _).mono ?_; rintro e w' ⟨rfl, hb⟩; rw [hl])
        | (go_at_call 19; refine (implShareLess_any _ _ _ _ _).mono ?_; rintro e w' ⟨rfl, hb⟩; rw [s1])
        | (go_at_call 21; refine (implShareOk_any _ _ _).mono ?_; rintro e w' ⟨rfl, hb⟩)
        | (go_at_call 22; refine (specShareOk_k _ _ _).mono ?_; rintro e w' ⟨rfl, hb⟩)
      try go_wp2_with fail
      refine hK.out _ _ ?_ (fun hHeld => ?_)
      · exact Keeps.trans (by assumption) (by assumption)
      clear hK K
      try simp only [Act.put, List.setIfInBounds_toArray, List.set_cons_zero, List.set_cons_succ]
      refine wpAnyH_take (i := 17) (v := ?_) (by simp only [List.getElem?_toArray, List.getElem?_cons_succ, List.getElem?_cons_zero]; rfl) (by kernel_rfl) (by kernel_rfl) (by kernel_rfl) (by exact fun _ _ _ h => h) (Or.inl ⟨by rfl, ?_⟩) (by assumption) ?_
      rotate_left
      · (intro w hSw; (try dsimp only at hSw); go_simp; try (with_reducible rfl))
      try simp only [Act.put, List.setIfInBounds_toArray, List.set_cons_zero, List.set_cons_succ]
      refine wpAnyH_take (i := 18) (v := ?_) (by simp only [List.getElem?_toArray, List.getElem?_cons_succ, List.getElem?_cons_zero]; rfl) (by kernel_rfl) (by kernel_rfl) (by kernel_rfl) (by exact fun _ _ _ h => h) (Or.inl ⟨by rfl, ?_⟩) (by assumption) ?_
      rotate_left
      · (intro w hSw; (try dsimp only at hSw); go_simp; try (with_reducible rfl))
      try simp only [Act.put, List.setIfInBounds_toArray, List.set_cons_zero, List.set_cons_succ]
      refine wpAnyH_take (i := 19) (v := ?_) (by simp only [List.getElem?_toArray, List.getElem?_cons_succ, List.getElem?_cons_zero]; rfl) (by kernel_rfl) (by kernel_rfl) (by kernel_rfl) (by exact fun _ _ _ h => h) (Or.inl ⟨by rfl, ?_⟩) (by assumption) ?_
      rotate_left
      · (intro w hSw; (try dsimp only at hSw); go_simp; try (with_reducible rfl))
      try simp only [Act.put, List.setIfInBounds_toArray, List.set_cons_zero, List.set_cons_succ]
      refine wpAnyH_take (i := 21) (v := ?_) (by simp only [List.getElem?_toArray, List.getElem?_cons_succ, List.getElem?_cons_zero]; rfl) (by kernel_rfl) (by kernel_rfl) (by kernel_rfl) (by exact fun _ _ _ h => h) (Or.inl ⟨by rfl, ?_⟩) (by assumption) ?_
      rotate_left
      · (intro w hSw; (try dsimp only at hSw); go_simp; try (with_reducible rfl))
      try simp only [Act.put, List.setIfInBounds_toArray, List.set_cons_zero, List.set_cons_succ]
      refine wpAnyH_ready (rs := [20]) (by kernel_rfl) (by simp) ?_
      refine AllReadyH.cons (by simp only [List.getElem?_toArray, List.getElem?_cons_succ, List.getElem?_cons_zero]; rfl) (fun K hK => ?_) AllReadyH.nil
      go_simp
      first
        | (go_at_call 20; refine (specShareLess_any _ _ _ _ _).mono ?_; rintro e w' ⟨rfl, hb⟩; rw [hl])
        | (go_at_call 19; refine (implShareLess_any _ _ _ _ _).mono ?_; rintro e w' ⟨rfl, hb⟩; rw [s1])
        | (go_at_call 21; refine (implShareOk_any _ _ _).mono ?_; rintro e w' ⟨rfl, hb⟩)
        | (go_at_call 22; refine (specShareOk_k _ _ _).mono ?_; rintro e w' ⟨rfl, hb⟩)
      try go_wp2_with fail
      refine hK.out _ _ ?_ (fun hHeld => ?_)
      · exact Keeps.trans (by assumption) (by assumption)
      clear hK K
      try simp only [Act.put, List.setIfInBounds_toArray, List.set_cons_zero, List.set_cons_succ]
      refine wpAnyH_ready (rs := [22]) (by kernel_rfl) (by simp) ?_
      refine AllReadyH.cons (by simp only [List.getElem?_toArray, List.getElem?_cons_succ, List.getElem?_cons_zero]; rfl) (fun K hK => ?_) AllReadyH.nil
      go_simp
      first
        | (go_at_call 20; refine (specShareLess_any _ _ _ _ _).mono ?_; rintro e w' ⟨rfl, hb⟩; rw [hl])
        | (go_at_call 19; refine (implShareLess_any _ _ _ _ _).mono ?_; rintro e w' ⟨rfl, hb⟩; rw [s1])
        | (go_at_call 21; refine (implShareOk_any _ _ _).mono ?_; rintro e w' ⟨rfl, hb⟩)
        | (go_at_call 22; refine (specShareOk_k _ _ _).mono ?_; rintro e w' ⟨rfl, hb⟩)
      try go_wp2_with fail
      refine hK.out _ _ ?_ (fun hHeld => ?_)
      · exact Keeps.trans (by assumption) (by assumption)
      clear hK K
      try simp only [Act.put, List.setIfInBounds_toArray, List.set_cons_zero, List.set_cons_succ]
      refine wpAnyH_take (i := 23) (v := ?_) (by simp only [List.getElem?_toArray, List.getElem?_cons_succ, List.getElem?_cons_zero]; rfl) (by kernel_rfl) (by kernel_rfl) (by kernel_rfl) (by exact fun _ _ _ h => h) (Or.inl ⟨by rfl, ?_⟩) (by assumption) ?_
      rotate_left
      · (intro w hSw; (try dsimp only at hSw); go_simp; try (with_reducible rfl))
      try simp only [Act.put, List.setIfInBounds_toArray, List.set_cons_zero, List.set_cons_succ]
      refine wpAnyH_take (i := 24) (v := ?_) (by simp only [List.getElem?_toArray, List.getElem?_cons_succ, List.getElem?_cons_zero]; rfl) (by kernel_rfl) (by kernel_rfl) (by kernel_rfl) (by exact fun _ _ _ h => h) (Or.inl ⟨by rfl, ?_⟩) (by assumption) ?_
      rotate_left
      · (intro w hSw; (try dsimp only at hSw); go_simp; try (with_reducible rfl))
      try simp only [Act.put, List.setIfInBounds_toArray, List.set_cons_zero, List.set_cons_succ]
      refine wpAnyH_done (by kernel_rfl) ?_ _
      go_wp2
      go_ret
      exact ⟨rfl, kW.trans (by assumption)⟩
    · have s2 : lessB q' p' q p = false := lessB_asymm hl
      go_wp2
      go_region_held3 (fun w' => Keeps W w') (first | exact Keeps.drew (by assumption) | exact Keeps.trans (by assumption) (by assumption))
        (first
        | (go_at_call 20; refine (specShareLess_any _ _ _ _ _).mono ?_; rintro e w' ⟨rfl, hb⟩; rw [hl])
        | (go_at_call 19; refine (implShareLess_any _ _ _ _ _).mono ?_; rintro e w' ⟨rfl, hb⟩; first | rw [s1] | rw [s2])
        | (go_at_call 21; refine (implShareOk_any _ _ _).mono ?_; rintro e w' ⟨rfl, hb⟩)
        | (go_at_call 22; refine (specShareOk_k _ _ _).mono ?_; rintro e w' ⟨rfl, hb⟩))
      go_wp2_with fail
      refine (at_any _ _ _ _ _ hn (by decide) (by decide) (fun g hg => ?_)).mono ?_
      · have kk : Keeps w0 _ := kW.trans (by assumption)
        exact (HB.out g (Nat.le_trans kk.size hg)).but (.of kk)
      rintro e w3 ⟨x, rfl, hx0, hx1, rfl⟩
      have hc0 : 2 ≤ 2 + x % 5 := by omega
      have hc1 : 2 + x % 5 ≤ 6 := by omega
      have K3 : Keeps W w3 := by assumption
      go_wp2_with fail
      generalize 2 + x % 5 = c at *
      have kW3 := K3.alloc (.cells #[.int .i64 1, .int .i64 c] 31)
      have T3 := Two.new w3 (.int .i64 1) (.int .i64 c) 31
      generalize w3.alloc (.cells #[.int .i64 1, .int .i64 c] 31) = W3 at *
      generalize w3.heap.size = s3 at *
      obtain ⟨v1, v2, _, _⟩ := T3.rules
      obtain ⟨⟨ho, ho'⟩, hlt⟩ := lessB_iff.1 hl
      clear T3 hlt
      refine (implShareOk_any _ _ _).mono ?_
      rintro e w4 ⟨rfl, b4⟩
      rw [ho]
      have m4 : Keeps W3 w4 := b4
      have n4 : Keeps W w4 := kW3.trans m4
      go_wp2_with fail
      refine (implShareOk_any _ _ _).mono ?_
      rintro e w5 ⟨rfl, b5⟩
      rw [ho']
      have m5 : Keeps W3 w5 := m4.trans b5
      have n5 : Keeps W w5 := kW3.trans m5
      clear m4 n4 b4 b5
      have HF : Hid (fitsB [(q', p'), (1, c)] = true → fitsB [(q, p), (1, c)] = true) := fits_less hc0 hc1 hl
      cases hf : fitsB [(q', p'), (1, c)]
      · go_wp2_with fail
        refine (implFits_n _ 2 2 [(q', p'), (1, c)] _ rfl (by decide) (sh_pair _ _ _ _ _ _)).mono ?_
        rintro e w6 ⟨rfl, b6⟩
        rw [hf]
        go_wp2
        go_ret
        exact ⟨rfl, kW.trans ((n5.alloc _).trans b6)⟩
      · have hf2 := HF.out hf
        go_wp2_with fail
        refine (implFits_n _ 2 2 [(q', p'), (1, c)] _ rfl (by decide) (sh_pair _ _ _ _ _ _)).mono ?_
        rintro e w6 ⟨rfl, b6⟩
        rw [hf]
        have m6 : Keeps W3 w6 := (m5.alloc _).trans b6
        have n6 : Keeps W w6 := kW3.trans m6
        clear b6
        go_wp2_with fail
        refine (implFits_n _ 2 2 [(q, p), (1, c)] _ rfl (by decide) (sh_pair _ _ _ _ _ _)).mono ?_
        rintro e w7 ⟨rfl, b7⟩
        rw [hf2]
        go_wp2
        go_ret
        exact ⟨rfl, kW.trans ((n6.alloc _).trans b7)⟩
  · have hd : decide (1048576 < (n : Int)) = true := by simp; omega
    go_enter Try.func4, Try.ntmps4
    go_wp2_with (go_at_call 11; refine (big_any _ _ _ _ hm).mono ?_; rintro e w1 ⟨rfl, rfl⟩)
    go_ret
    exact ⟨rfl, Keeps.refl _⟩
end Go.Proofs.Ytdfhoflmjcdkkaa
