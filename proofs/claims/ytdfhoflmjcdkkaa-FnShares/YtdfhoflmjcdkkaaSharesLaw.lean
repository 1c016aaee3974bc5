/-
  The law FnShares' walk: for every text.
-/
import Derived.Test.YtdfhoflmjcdkkaaDrawList
import Derived.Test.YtdfhoflmjcdkkaaOrderLaw
namespace Go.Proofs.Ytdfhoflmjcdkkaa
open Go.RowKit Plain
attribute [local go_sem] Keeps.refl Keeps.alloc Keeps.drew Keeps.drewN

theorem drawFits_any (a : Option Addr) (n cap : Nat) (w : World) (hn : n ≤ 1048576) (hb : ∀ g, w.heap.size ≤ g → Bytes g w a n) :
    Calls Try.prog 12 #[.slice a n cap] w fun e w' => ∃ a cap xs, e = .returned (.slice a xs.length cap) ∧ Sh w' a xs ∧ xs.length ≤ 8 ∧ xs.length ≤ cap ∧ cap ≤ maxLen ∧ (∀ b, a = some b → ∃ h, b = ⟨h, 0, none⟩) ∧ Keeps w w' := by
  go_enter Try.func12, Try.ntmps12
  go_wp2_with fail
  refine (l1New_any a n cap _ hn hb).mono ?_
  rintro e w1 ⟨g, rfl, hg, hc1, k1⟩
  go_wp2_with fail
  refine (drawShares_any g _ hc1).mono ?_
  rintro e w2 ⟨a', cap', xs, rfl, hs, h8, hl1, hl2, ha, hc2, k2⟩
  go_wp2
  go_ret
  exact ⟨a', cap', xs, rfl, hs, h8, hl1, hl2, ha, k2.keeps k1 hg⟩

theorem step_cop {n d q p : Int} (hn : 0 ≤ n * p + q * d) (hd : 1 ≤ d * p) : Int.gcd (stepI (n, d) (q, p)).1 (stepI (n, d) (q, p)).2 = 1 := by
  show Int.gcd ((n * p + q * d) / (Int.gcd (n * p + q * d) (d * p) : Int)) ((d * p) / (Int.gcd (n * p + q * d) (d * p) : Int)) = 1
  generalize n * p + q * d = a at *
  generalize d * p = b at *
  obtain ⟨x, rfl⟩ := Int.eq_ofNat_of_zero_le hn
  obtain ⟨y, rfl⟩ := Int.eq_ofNat_of_zero_le (show 0 ≤ b by omega)
  have hy : 0 < y := by omega
  have e : Int.gcd (x : Int) (y : Int) = Nat.gcd x y := rfl
  rw [e, ← Int.natCast_ediv, ← Int.natCast_ediv]
  exact Nat.coprime_div_gcd_div_gcd (Nat.gcd_pos_of_pos_right x hy)
theorem sum_cop {xs : List (Int × Int)} (h : ∀ x ∈ xs, Plain.Good x) : Int.gcd (sumI xs).1 (sumI xs).2 = 1 := by
  rcases List.eq_nil_or_concat xs with rfl | ⟨ys, x, rfl⟩
  · decide
  · rw [List.concat_eq_append] at *
    rw [sumI_snoc]
    obtain ⟨q, p⟩ := x
    obtain ⟨⟨a, _⟩, c, _⟩ := h (q, p) (by simp)
    obtain ⟨s1, s2⟩ := sum_pos (xs := ys) (fun y hy => h y (by simp [hy]))
    simp only at a c
    generalize sumI ys = s at *
    obtain ⟨n, d⟩ := s
    simp only at s1 s2
    have e1 : 0 ≤ n * p := Int.mul_nonneg s1 (by omega)
    have e2 : 0 ≤ q * d := Int.mul_nonneg (by omega) (by omega)
    have e3 : 1 * 1 ≤ d * p := Int.mul_le_mul s2 a (by omega) (by omega)
    exact step_cop (by omega) (by omega)

theorem gcdI_cop {n d : Int} (h0 : 0 ≤ n) (h1 : 1 ≤ d) (hn : n ≤ 1000000) (hd : d ≤ 1000000) (h : Int.gcd n d = 1) : gcdI n d = 1 := by
  rw [gcdI_in (inB_yes (by omega) hn) (inB_yes (by omega) hd)]
  exact congrArg (Nat.cast : Nat → Int) h

/-- What is known of a sum. -/
theorem sumOf_facts {xs : List (Int × Int)} (hc : canB xs = true) : 0 ≤ (sumI xs).1 ∧ 1 ≤ (sumI xs).2 ∧ Int.gcd (sumI xs).1 (sumI xs).2 = 1 := by
  have hg := good_all (canB_iff.1 hc).2
  exact ⟨(sum_pos hg).1, (sum_pos hg).2, sum_cop hg⟩
theorem fits_tail {x : Int × Int} {xs : List (Int × Int)} (h : fitsB (x :: xs) = true) : fitsB xs = true := by
  obtain ⟨⟨h1, h2⟩, h3⟩ := fitsB_iff.1 h
  have hg := good_all h2
  refine fitsB_iff.2 ⟨⟨by simp at h1; omega, by simp [okAll] at h2 ⊢; exact h2.2⟩, raw_tail hg h3⟩
theorem fits_init {x : Int × Int} {xs : List (Int × Int)} (h : fitsB (xs ++ [x]) = true) : fitsB xs = true := by
  obtain ⟨⟨h1, h2⟩, h3⟩ := fitsB_iff.1 h
  have hg := good_all h2
  refine fitsB_iff.2 ⟨⟨by simp at h1; omega, by simp [okAll] at h2 ⊢; exact h2.1⟩, raw_init hg h3⟩
theorem Sh.tail {w : World} {h off : Nat} {x : Int × Int} {xs : List (Int × Int)} (hs : Sh w (some ⟨h, off, none⟩) (x :: xs)) : Sh w (some ⟨h, off + 2, none⟩) xs := by
  rcases hs with hs | ⟨b, o, e, hs⟩
  · simp at hs
  · simp only [Option.some.injEq, Addr.mk.injEq, and_true] at e
    obtain ⟨rfl, rfl⟩ := e
    refine .inr ⟨h, off + 2, rfl, fun i hi => ?_⟩
    have := hs (i + 1) (by simp; omega)
    rw [show off + (i + 1) * 2 = off + 2 + i * 2 from by omega] at this
    simpa using this
theorem Sh.init {w : World} {a : Option Addr} {x : Int × Int} {xs : List (Int × Int)} (hs : Sh w a (xs ++ [x])) : Sh w a xs := by
  rcases hs with hs | ⟨b, o, e, hs⟩
  · simp at hs
  · refine .inr ⟨b, o, e, fun i hi => ?_⟩
    have h := hs i (by simp; omega)
    simpa [List.getElem?_append_left hi] using h
theorem implFits_m (a : Option Addr) (n cap : Nat) (xs : List (Int × Int)) (w : World) (hn : xs.length = n) (hl : n ≤ 8) (hs : Sh w a xs) :
    Calls Try.prog 13 #[.slice a n cap] w fun e w' => e = .returned (.bool (fitsB xs)) ∧ Keeps w w' := by
  subst hn
  exact implFits_any _ cap xs w (by unfold maxLen; omega) hs

set_option maxHeartbeats 3200000 in
theorem sharesLaw_walk (a : Option Addr) (n cap : Nat) (w : World) (hm : n ≤ maxLen) (hb : ∀ g, w.heap.size ≤ g → Bytes g w a n) :
    Calls Try.prog 3 #[.slice a n cap] w fun e w' => e = .returned (.bool true) ∧ Keeps w w' := by
  by_cases hn : n ≤ 1048576
  · have hd : decide (1048576 < (n : Int)) = false := by simp; omega
    go_enter Try.func3, Try.ntmps3
    go_wp2_with fail
    refine (big_any _ _ _ _ hm).mono ?_
    rintro e w0 ⟨rfl, rfl⟩
    go_wp2_with fail
    refine (drawFits_any _ _ _ _ hn hb).mono ?_
    rintro e w1 ⟨a', cap', xs, rfl, hs, h8, hl1, hl2, ha, k1⟩
    clear hb
    have hmx : xs.length ≤ maxLen := by omega
    go_wp2_with fail
    refine (implFits_any _ _ xs _ hmx hs).mono ?_
    rintro e w2 ⟨rfl, k2⟩
    rw [show (canB xs && decide ((sumI xs).1 ≤ (sumI xs).2)) = fitsB xs from rfl]
    go_wp2_with fail
    refine (implSumOf_any _ _ xs _ hmx (hs.keeps k2)).mono ?_
    rintro e w3 ⟨rfl, k3⟩
    go_wp2_with fail
    refine (specSumOf_any _ _ xs _ hmx (hs.keeps (k2.trans k3))).mono ?_
    rintro e w4 ⟨rfl, k4⟩
    go_wp2_with fail
    refine (specFits_any _ _ xs _ hmx (hs.keeps ((k2.trans k3).trans k4))).mono ?_
    rintro e w5 ⟨rfl, k5⟩
    rw [show (canB xs && decide ((sumI xs).1 ≤ (sumI xs).2)) = fitsB xs from rfl]
    have kk := ((k2.trans k3).trans k4).trans k5
    have hs5 := hs.keeps kk
    have kw := k1.trans kk
    clear k1 k2 k3 k4 k5 kk hs
    have u1 : (fitsB xs != fitsB xs) = false := by simp
    cases hc : canB xs
    · have Hf : Hid (fitsB xs = false) := by show _ = _; simp [fitsB, hc]
      have Hv : Hid (sumOfV xs = (0, 0, false)) := sumOfV_no hc
      rw [Hf.out, Hv.out]
      go_wp2
      go_ret
      exact ⟨rfl, kw⟩
    · have Hv : Hid (sumOfV xs = ((sumI xs).1, (sumI xs).2, true)) := sumOfV_yes hc
      have Hfe : Hid (fitsB xs = decide ((sumI xs).1 ≤ (sumI xs).2)) := by show _ = _; simp [fitsB, hc]
      obtain ⟨s0, s1, sg⟩ := sumOf_facts hc
      have HG : Hid ((sumI xs).1 ≤ 1000000 → (sumI xs).2 ≤ 1000000 → gcdI (sumI xs).1 (sumI xs).2 = 1) := fun h h' => gcdI_cop s0 s1 h h' sg
      have HE : Hid (xs = [] → (sumI xs).1 = 0) := by rintro rfl; rfl
      rw [Hv.out]
      clear sg hc Hv
      simp only []
      generalize hS1 : (sumI xs).1 = S1 at *
      generalize hS2 : (sumI xs).2 = S2 at *
      clear hS1 hS2
      have u2 : (S1 != S1) = false := by simp
      have u3 : (S2 != S2) = false := by simp
      cases hf : fitsB xs
      · have hle : decide (S1 ≤ S2) = false := by rw [← Hfe.out]; exact hf
        have hle' : ¬ S1 ≤ S2 := of_decide_eq_false hle
        have hne : ((xs.length : Int) == 0) = false := by
          rw [beq_eq_false_iff_ne]
          intro h
          have := HE.out (List.length_eq_zero_iff.1 (by omega))
          omega
        by_cases hd2 : S2 ≤ 1000000
        · by_cases hd1 : S1 ≤ 1000000
          · have hG : Hid (gcdI S1 S2 = 1) := HG.out hd1 hd2
            go_wp2_with (go_at_call 17; refine (implGcd_any _ _ _).mono ?_; rintro e w6 ⟨rfl, m, rfl⟩; rw [hG.out])
            go_ret
            exact ⟨rfl, kw.drewN _⟩
          · have hG : Hid (gcdI S1 S2 = 0) := gcdI_out1 (inB_no (.inr (by omega)))
            have hd1' : decide (S1 ≤ 1000000) = false := by simpa using hd1
            go_wp2_with (go_at_call 17; refine (implGcd_any _ _ _).mono ?_; rintro e w6 ⟨rfl, m, rfl⟩; rw [hG.out])
            go_ret
            exact ⟨rfl, kw.drewN _⟩
        · have hG : Hid (gcdI S1 S2 = 0) := gcdI_out2 (inB_no (.inr (by omega)))
          have hd2' : decide (S2 ≤ 1000000) = false := by simpa using hd2
          go_wp2_with (go_at_call 17; refine (implGcd_any _ _ _).mono ?_; rintro e w6 ⟨rfl, m, rfl⟩; rw [hG.out])
          go_ret
          exact ⟨rfl, kw.drewN _⟩
      · have hle : decide (S1 ≤ S2) = true := by rw [← Hfe.out]; exact hf
        have hle' : S1 ≤ S2 := of_decide_eq_true hle
        by_cases he : xs = []
        · have hz : (S1 == 0) = true := by rw [HE.out he]; rfl
          have hne : ((xs.length : Int) == 0) = true := by subst he; rfl
          have hd1 : S1 ≤ 1000000 := by rw [HE.out he]; decide
          by_cases hd2 : S2 ≤ 1000000
          · have hG : Hid (gcdI S1 S2 = 1) := HG.out hd1 hd2
            go_wp2_with (go_at_call 17; refine (implGcd_any _ _ _).mono ?_; rintro e w6 ⟨rfl, m, rfl⟩; rw [hG.out])
            go_ret
            exact ⟨rfl, kw.drewN _⟩
          · have hG : Hid (gcdI S1 S2 = 0) := gcdI_out2 (inB_no (.inr (by omega)))
            have hd2' : decide (S2 ≤ 1000000) = false := by simpa using hd2
            go_wp2_with (go_at_call 17; refine (implGcd_any _ _ _).mono ?_; rintro e w6 ⟨rfl, m, rfl⟩; rw [hG.out])
            go_ret
            exact ⟨rfl, kw.drewN _⟩
        · have hne : ((xs.length : Int) == 0) = false := by
            rw [beq_eq_false_iff_ne]
            intro h
            exact he (List.length_eq_zero_iff.1 (by omega))
          have hpos : 1 ≤ xs.length := by
            have : xs.length ≠ 0 := fun h => he (List.length_eq_zero_iff.1 h)
            omega
          have hpos' : (1 : Int) ≤ (xs.length : Int) := by omega
          obtain ⟨h, rfl⟩ : ∃ h, a' = some ⟨h, 0, none⟩ := by
            obtain ⟨b, off, _, _, e, _⟩ := hs5.at (i := 0) (by omega)
            obtain ⟨h, e'⟩ := ha _ e
            exact ⟨h, by rw [e, e']⟩
          obtain ⟨y, ys, HY, HfY, hsY⟩ : ∃ y ys, Hid (List.length ys = xs.length - 1) ∧ Hid (fitsB ys = true) ∧ Sh w5 (some ⟨h, 2, none⟩) ys ∧ xs = y :: ys := by
            cases xs with
            | nil => exact absurd rfl he
            | cons y ys => exact ⟨y, ys, by simp [Hid], fits_tail hf, by simpa using hs5.tail, rfl⟩
          obtain ⟨hsY, hxy⟩ := hsY
          obtain ⟨zs, HZ, HfZ, hsZ⟩ : ∃ zs, Hid (List.length zs = xs.length - 1) ∧ Hid (fitsB zs = true) ∧ Sh w5 (some ⟨h, 0, none⟩) zs := by
            rcases List.eq_nil_or_concat xs with hx | ⟨zs, z, hx⟩
            · exact absurd hx he
            · rw [List.concat_eq_append] at hx
              rw [hx] at hf hs5
              exact ⟨zs, by simp [Hid, hx], fits_init hf, hs5.init⟩
          have HX : Hid (xs = y :: ys) := hxy
          clear hxy ha hne
          have hne : ((xs.length : Int) == 0) = false := by rw [beq_eq_false_iff_ne]; omega
          by_cases hcap : cap' = 1
          · subst hcap
            have hys : ys = [] := by
              have := HY.out
              exact List.length_eq_zero_iff.1 (by omega)
            have hsN : ∀ w' a, Sh w' a ys := fun _ _ => .inl hys
            have HY0 : Hid (ys.length = 0) := by rw [hys]; rfl
            have HZ0 : Hid (zs.length = 0) := by have := HZ.out; show _ = _; omega
            clear hys
            by_cases hd2 : S2 ≤ 1000000
            · by_cases hd1 : S1 ≤ 1000000
              · have hG : Hid (gcdI S1 S2 = 1) := HG.out hd1 hd2
                go_wp2_with (go_at_call 17; refine (implGcd_any _ _ _).mono ?_; rintro e w6 ⟨rfl, m, rfl⟩; rw [hG.out])
                refine (implFits_m _ _ _ ys _ HY0.out (by omega) (hsN _ _)).mono ?_
                rintro e w7 ⟨rfl, k7⟩
                rw [HfY.out]
                go_wp2_with fail
                refine (implFits_m _ _ _ zs _ HZ0.out (by omega) (hsZ.keeps (((Keeps.refl _).drewN _).trans k7))).mono ?_
                rintro e w8 ⟨rfl, k8⟩
                rw [HfZ.out]
                go_wp2
                go_ret
                exact ⟨rfl, ((kw.drewN _).trans k7).trans k8⟩
              · exfalso; omega
            · have hG : Hid (gcdI S1 S2 = 0) := gcdI_out2 (inB_no (.inr (by omega)))
              have hd2' : decide (S2 ≤ 1000000) = false := by simpa using hd2
              go_wp2_with (go_at_call 17; refine (implGcd_any _ _ _).mono ?_; rintro e w6 ⟨rfl, m, rfl⟩; rw [hG.out])
              refine (implFits_m _ _ _ ys _ HY0.out (by omega) (hsN _ _)).mono ?_
              rintro e w7 ⟨rfl, k7⟩
              rw [HfY.out]
              go_wp2_with fail
              refine (implFits_m _ _ _ zs _ HZ0.out (by omega) (hsZ.keeps (((Keeps.refl _).drewN _).trans k7))).mono ?_
              rintro e w8 ⟨rfl, k8⟩
              rw [HfZ.out]
              go_wp2
              go_ret
              exact ⟨rfl, ((kw.drewN _).trans k7).trans k8⟩
          · have hcap' : 2 ≤ cap' := by omega
            by_cases hd2 : S2 ≤ 1000000
            · by_cases hd1 : S1 ≤ 1000000
              · have hG : Hid (gcdI S1 S2 = 1) := HG.out hd1 hd2
                go_wp2_with (go_at_call 17; refine (implGcd_any _ _ _).mono ?_; rintro e w6 ⟨rfl, m, rfl⟩; rw [hG.out])
                refine (implFits_m _ _ _ ys _ HY.out (by omega) (hsY.keeps ((Keeps.refl _).drewN _))).mono ?_
                rintro e w7 ⟨rfl, k7⟩
                rw [HfY.out]
                go_wp2_with fail
                refine (implFits_m _ _ _ zs _ HZ.out (by omega) (hsZ.keeps (((Keeps.refl _).drewN _).trans k7))).mono ?_
                rintro e w8 ⟨rfl, k8⟩
                rw [HfZ.out]
                go_wp2
                go_ret
                exact ⟨rfl, ((kw.drewN _).trans k7).trans k8⟩
              · exfalso; omega
            · have hG : Hid (gcdI S1 S2 = 0) := gcdI_out2 (inB_no (.inr (by omega)))
              have hd2' : decide (S2 ≤ 1000000) = false := by simpa using hd2
              go_wp2_with (go_at_call 17; refine (implGcd_any _ _ _).mono ?_; rintro e w6 ⟨rfl, m, rfl⟩; rw [hG.out])
              refine (implFits_m _ _ _ ys _ HY.out (by omega) (hsY.keeps ((Keeps.refl _).drewN _))).mono ?_
              rintro e w7 ⟨rfl, k7⟩
              rw [HfY.out]
              go_wp2_with fail
              refine (implFits_m _ _ _ zs _ HZ.out (by omega) (hsZ.keeps (((Keeps.refl _).drewN _).trans k7))).mono ?_
              rintro e w8 ⟨rfl, k8⟩
              rw [HfZ.out]
              go_wp2
              go_ret
              exact ⟨rfl, ((kw.drewN _).trans k7).trans k8⟩
  · have hd : decide (1048576 < (n : Int)) = true := by simp; omega
    go_enter Try.func3, Try.ntmps3
    go_wp2_with (go_at_call 11; refine (big_any _ _ _ _ hm).mono ?_; rintro e w1 ⟨rfl, rfl⟩)
    go_ret
    exact ⟨rfl, Keeps.refl _⟩
end Go.Proofs.Ytdfhoflmjcdkkaa
