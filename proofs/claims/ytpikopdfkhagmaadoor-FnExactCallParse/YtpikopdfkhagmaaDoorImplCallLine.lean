/-
  The program's CallLine.
-/
import Derived.Test.YtpikopdfkhagmaaDoorImplNums
namespace Go.Proofs.YtpikopdfkhagmaaDoor
open Go.RowKit
attribute [local go_sem] Keeps.refl Keeps.alloc Keeps.drew Keeps.drewN

set_option maxRecDepth 100000 in
set_option maxHeartbeats 4000000 in
theorem implCallLine_any (c : Cl) (w : World) (hg : GlobT w) :
    Calls Tryd.prog 8 #[ck c] w fun e w' => e = .returned (.tuple #[strV (lineL c), .bool (lineB c)]) ∧ Keeps w w' := by
  have kW := blkK w (.cells (cc c) 26)
  have hb := blkR w (cc c) 26
  have HG : Hid (GlobT w) := hg
  clear hg
  cases hcb : lineB c
  · have H1 : Hid (lineL c = []) := by show _ = _; unfold lineL; rw [hcb]; rfl
    go_enter Tryd.func8, Tryd.ntmps8
    go_wp2_with fail
    generalize w.alloc (.cells (cc c) 26) = W at *
    refine (implHasLine_any c W).mono ?_
    rintro e w1 ⟨rfl, k1⟩
    rw [hcb]
    go_wp2
    go_ret2
    exact ⟨by rw [H1.out]; rfl, kW.trans k1⟩
  have hl0 := lineB_parts hcb
  obtain ⟨k, Hk⟩ : ∃ k : Nat, Hid (c.kind = (k : Int)) := ⟨c.kind.toNat, by show _ = _; omega⟩
  have hkt : c.kind.toNat = k := by rw [Hk.out]; rfl
  have hk2 : 1 ≤ k ∧ k ≤ 11 := by have := hl0.1; have := Hk.out; omega
  have HA : Hid (∀ (i : Nat) (x : Int), (numsL c)[i]? = some x → ∃ o, (placesO (k : Int))[i]? = some o ∧ (cc c)[o]? = some (Value.int .i64 x)) := fun i x hx => by
    have := places_at hx
    rw [Hk.out] at this
    exact this
  have HLen : Hid ((placesO (k : Int)).length = (numsL c).length) := by
    have := places_length c
    rw [Hk.out] at this
    exact this
  obtain ⟨WD, HWD⟩ : ∃ x : List UInt8, Hid (wordL (k : Int) = x) := ⟨_, rfl⟩
  have hwl : WD.length ≤ 6 := by rw [← HWD.out]; exact wordL_length _
  have HW0 : Hid (WD = lineK c 0) := by show _ = wordL c.kind; rw [Hk.out]; exact HWD.out.symm
  have cN : Hid (∀ W, Calls Tryd.prog 24 #[strV WD, .pointer (some ⟨w.heap.size, 0, none⟩)] W fun e w' => ∃ rb cap, e = .returned (.slice (some ⟨rb, 0, none⟩) (placesO (k : Int)).length cap) ∧ (∀ i o, (placesO (k : Int))[i]? = some o → w'.cell? ⟨rb, i, none⟩ = some (.pointer (some ⟨w.heap.size, o, none⟩))) ∧ Keeps W w') := fun W => by rw [← HWD.out]; exact implNums_any (k : Int) (by omega) w.heap.size W
  have hkl : c.kind < 12 := by have := hl0.1; omega
  have hk0 : (0 : Int) ≤ c.kind := by have := hl0.1; omega
  have HF : Hid (firstsB c (numsL c).length = true) := hl0.2.2
  have cH := fun W => implHasLine_any c W
  rw [hcb] at cH
  have HB : Hid (lineB c = true) := hcb
  clear hl0 hcb
  go_enter Tryd.func8, Tryd.ntmps8
  go_wp2_with fail
  generalize w.alloc (.cells (cc c) 26) = W at *
  refine (cH W).mono ?_
  rintro e w1 ⟨rfl, k1⟩
  have r1 := fun w' (q : Keeps w1 w') => hb w' (k1.trans q)
  have K1 : Hid (Keeps w w1) := kW.trans k1
  clear hb cH k1 kW
  go_upto_region 3 with fail
  refine wp_region_held_drew (S := (fun w' => Keeps w1 w')) (by kernel_rfl) ?_ (fun hHeld => ?_)
  · exact (Keeps.refl w1).drew
  refine Plan.go [1, 2] ?_
  iterate 2 (refine takeL (by simp only [opsAt]; rfl) (by kernel_rfl) (by exact fun _ _ _ h => h) (by rfl) (by assumption) (fun w _ => by go_simp; try (with_reducible rfl)) ?_; try simp only [putAtH])
  refine Plan.nil ?_
  refine callH 0 (by kernel_rfl) (by simp only [opsAt]; rfl) (fun K hK => ?_)
  go_simp
  first | (go_at_call 23; refine (implCallWords_any _).mono ?_; rintro e w2 ⟨wb, rfl, h2, k2⟩; have h2k : ∀ w', Keeps w2 w' → w'.cell? ⟨wb, k, none⟩ = some (strV WD) := (by rw [← HWD.out]; exact Keeps.has (h2 k (by omega))); have h3k := h2k w2 (Keeps.refl _); clear h2) | skip
  try go_wp2_with fail
  refine hK.out _ _ ?_ (fun hHeld => ?_)
  · first | assumption | exact Keeps.trans (by assumption) (by assumption)
  clear hK K
  try simp only [putAtH]
  refine callH 3 (by kernel_rfl) (by simp only [opsAt]; rfl) (fun K hK => ?_)
  go_simp
  first | (go_at_call 23; refine (implCallWords_any _).mono ?_; rintro e w2 ⟨wb, rfl, h2, k2⟩; have h2k : ∀ w', Keeps w2 w' → w'.cell? ⟨wb, k, none⟩ = some (strV WD) := (by rw [← HWD.out]; exact Keeps.has (h2 k (by omega))); have h3k := h2k w2 (Keeps.refl _); clear h2) | skip
  try go_wp2_with fail
  refine hK.out _ _ ?_ (fun hHeld => ?_)
  · first | assumption | exact Keeps.trans (by assumption) (by assumption)
  clear hK K
  try simp only [putAtH]
  refine callH 4 (by kernel_rfl) (by simp only [opsAt]; rfl) (fun K hK => ?_)
  go_simp
  first | (go_at_call 23; refine (implCallWords_any _).mono ?_; rintro e w2 ⟨wb, rfl, h2, k2⟩; have h2k : ∀ w', Keeps w2 w' → w'.cell? ⟨wb, k, none⟩ = some (strV WD) := (by rw [← HWD.out]; exact Keeps.has (h2 k (by omega))); have h3k := h2k w2 (Keeps.refl _); clear h2) | skip
  try go_wp2_with fail
  refine hK.out _ _ ?_ (fun hHeld => ?_)
  · first | assumption | exact Keeps.trans (by assumption) (by assumption)
  clear hK K
  try simp only [putAtH]
  refine callH 5 (by kernel_rfl) (by simp only [opsAt]; rfl) (fun K hK => ?_)
  go_simp
  first | (go_at_call 23; refine (implCallWords_any _).mono ?_; rintro e w2 ⟨wb, rfl, h2, k2⟩; have h2k : ∀ w', Keeps w2 w' → w'.cell? ⟨wb, k, none⟩ = some (strV WD) := (by rw [← HWD.out]; exact Keeps.has (h2 k (by omega))); have h3k := h2k w2 (Keeps.refl _); clear h2) | skip
  try go_wp2_with fail
  refine hK.out _ _ ?_ (fun hHeld => ?_)
  · first | assumption | exact Keeps.trans (by assumption) (by assumption)
  clear hK K
  try simp only [putAtH]
  refine wpAnyH_done (by kernel_rfl) ?_ _
  have K2 : Hid (Keeps w1 w2) := (by assumption)
  have r2 := fun w' (q : Keeps w2 w') => r1 w' (K2.out.trans q)
  clear r1 h2k h3k k2 hHeld
  go_upto_region 6 with (go_at_call 24; refine (cN.out _).mono ?_; rintro e w3 ⟨rb, cap, rfl, hpl, k3⟩)
  obtain ⟨n, HN⟩ : ∃ n, Hid ((placesO (k : Int)).length = n) := ⟨_, rfl⟩
  have HNn : Hid ((numsL c).length = n) := by show _ = _; rw [← HLen.out]; exact HN.out
  have hn4 : 1 ≤ n ∧ n ≤ 4 := by have := numsL_length c; have := HNn.out; omega
  have HP : Hid (∀ i o, (placesO (k : Int))[i]? = some o → w3.cell? ⟨rb, i, none⟩ = some (.pointer (some ⟨w.heap.size, o, none⟩))) := hpl
  have r3 := fun w' (q : Keeps w3 w') => r2 w' (k3.trans q)
  have K3 : Hid (Keeps w w3) := (K1.out.trans K2.out).trans k3
  have HG3 : Hid (GlobT w3) := HG.out.keeps K3.out
  rw [HN.out]
  clear r2 hpl k3 cN hkl hk0 hkt
  go_loopw [5, 20] (fun o i wr => ∃ (j : Nat) (l : List UInt8), j ≤ n ∧ l.length ≤ 6 + 20 * j ∧ i = .int .i64 j ∧ o = strV l ∧ Hid (l = lineK c j) ∧ Hid (Keeps w3 wr)) (fun _ i _ => n - (intOf i).toNat)
  case atStart => exact ⟨0, WD, Nat.zero_le _, by omega, rfl, rfl, HW0, Keeps.refl _⟩
  case round =>
    obtain ⟨j, l, hj, hll, rfl, rfl, HE, hK⟩ := hrel
    have r4 := fun w' (q : Keeps wr w') => r3 w' (hK.out.trans q)
    clear r3
    by_cases hlt : j < n
    · obtain ⟨x, hx⟩ := some_in (xs := numsL c) (k := j) (by rw [HNn.out]; exact hlt)
      obtain ⟨o, ho, hox⟩ := HA.out j x hx
      have hgx : (numsL c).getD j 0 = x := by rw [List.getD_eq_getElem?_getD, hx]; rfl
      have hc0 : ∀ w', Keeps wr w' → w'.cell? ⟨rb, j, none⟩ = some (.pointer (some ⟨w.heap.size, o, none⟩)) := fun w' q => Keeps.has (HP.out j o ho) w' (hK.out.trans q)
      have hc1 : ∀ w', Keeps wr w' → w'.cell? ⟨w.heap.size, o, none⟩ = some (.int .i64 x) := fun w' q => by rw [r4 w' q o]; exact hox
      have hlt' : (j : Int) < (n : Int) := by omega
      have hin : -9 ≤ x ∧ x ≤ 9999999 := by
        have h1 := firstsB_at _ j HF.out (by rw [HNn.out]; exact hlt)
        rw [hgx] at h1
        unfold numOkB at h1
        have h2 := inB_iff.1 h1
        have h3 : leastI c j = -9 ∨ leastI c j = 0 := by unfold leastI; split <;> simp
        omega
      obtain ⟨NX, HNX⟩ : ∃ y : List UInt8, Hid (numL x = y) := ⟨_, rfl⟩
      have bnx : NX.length ≤ 9 := by rw [← HNX.out]; exact numL_length (by omega) (by omega)
      have cN : Calls Tryd.prog 25 #[.int .i64 x] wr fun e w' => e = .returned (strV NX) ∧ Keeps wr w' := by rw [← HNX.out]; exact itoa_any _ wr (HG3.out.keeps hK.out) (by omega) (by omega)
      obtain ⟨P1, hP1⟩ : ∃ y : List UInt8, [32] ++ NX = y := ⟨_, rfl⟩
      have HP1 : Hid ([32] ++ NX = P1) := hP1
      clear hP1
      have p1 : P1.length ≤ 10 := by rw [← HP1.out]; simp; omega
      obtain ⟨P2, HP2⟩ : ∃ y : List UInt8, Hid (l ++ P1 = y) := ⟨_, rfl⟩
      have p2 : P2.length ≤ 16 + 20 * j := by rw [← HP2.out]; simp; omega
      have a1 : ∀ W : World, (Op.stringOp .add ⟨#[32]⟩ ⟨NX.toArray⟩).run Tryd.prog W = .ok (strV P1) W := fun W => by rw [show (#[32] : Array UInt8) = [32].toArray from rfl, run_addStr W _ _ (by simp) (by omega), HP1.out]
      have a2 : ∀ W : World, (Op.stringOp .add ⟨l.toArray⟩ ⟨P1.toArray⟩).run Tryd.prog W = .ok (strV P2) W := fun W => by rw [run_addStr W _ _ (by omega) (by omega), HP2.out]
      have HE2 : Hid (P2 = lineK c (j + 1)) := by show P2 = lineK c j ++ [32] ++ numL ((numsL c).getD j 0); rw [hgx, ← HE.out, HNX.out, ← HP2.out, ← HP1.out, List.append_assoc]
      clear HE HP1 HP2 HNX hx hgx ho hox r4
      go_wp2_with (go_at_call 25; refine cN.mono ?_; rintro e w5 ⟨rfl, k5⟩)
      exact ⟨⟨j + 1, P2, by omega, by omega, by go_num, rfl, HE2, hK.out.trans k5⟩, by simp only [intOf]; omega⟩
    · have hlt' : decide ((j : Int) < (n : Int)) = false := by simp; omega
      have HR : Hid (lineL c = l) := by
        show _ = _
        unfold lineL
        rw [HB.out, HNn.out, show n = j from by omega]
        exact HE.out.symm
      go_wp2
      go_ret2
      exact ⟨by rw [HR.out]; rfl, K3.out.trans hK.out⟩
end Go.Proofs.YtpikopdfkhagmaaDoor
