/-
  The model's l14Read: the number of a text.
-/
import Derived.Test.YtpikopdfkhagmaaDoorDeskWords
namespace Go.Proofs.YtpikopdfkhagmaaDoor
open Go.RowKit
attribute [local go_sem] Keeps.refl Keeps.alloc Keeps.drew Keeps.drewN

theorem valF_step {r : List UInt8} {k : Nat} {b : UInt8} (h : r[k]? = some b) : valF (r.take (k + 1)) = 10 * valF (r.take k) + (b.toNat : Int) - 48 := by
  unfold valF
  rw [List.take_add_one, h, List.foldl_append]
  rfl
theorem valF_bound : ∀ (r : List UInt8), r.all digB = true → 0 ≤ valF r ∧ valF r + 1 ≤ 10 ^ r.length := by
  intro r
  suffices h : ∀ (k : Nat) (r : List UInt8), r.length = k → r.all digB = true → 0 ≤ valF r ∧ valF r + 1 ≤ 10 ^ r.length from h _ r rfl
  intro k
  induction k with
  | zero =>
    intro r hr _
    obtain rfl := List.length_eq_zero_iff.1 hr
    exact ⟨by decide, by decide⟩
  | succ k ih =>
    intro r hr ha
    obtain ⟨b, hb⟩ := some_in (xs := r) (k := k) (by omega)
    have h1 := valF_step hb
    rw [List.take_of_length_le (by omega)] at h1
    have hall : (r.take k).all digB = true := by
      rw [List.all_eq_true] at ha ⊢
      exact fun x hx => ha x (List.mem_of_mem_take hx)
    obtain ⟨h2, h3⟩ := ih (r.take k) (by simp; omega) hall
    have h4 := List.all_eq_true.1 ha b (List.mem_of_getElem? hb)
    unfold digB at h4
    simp only [Bool.and_eq_true, decide_eq_true_eq] at h4
    have e : (r.take k).length = k := by simp; omega
    rw [e] at h3
    rw [hr, Int.pow_succ]
    omega
theorem readB_no {s : List UInt8} (h : ((restF s).all digB) = false) : readB s = false ∧ readI s = 0 := by
  have e : readB s = false := by unfold readB; rw [h, Bool.and_false]
  exact ⟨e, by unfold readI; rw [e]; rfl⟩
set_option maxRecDepth 100000 in
set_option maxHeartbeats 2000000 in
theorem l14Read_any (s : List UInt8) (w : World) (hl : s.length ≤ 1048576) :
    Calls Tryd.prog 27 #[strV s] w fun e w' => e = .returned (.tuple #[.int .i64 (readI s), .bool (readB s)]) ∧ w' = w := by
  generalize hn : s.length = n at hl
  have Hn : Hid (s.length = n) := hn
  have hsz : (⟨s.toArray⟩ : ByteArray).size = n := by simpa [ByteArray.size] using hn
  clear hn
  obtain ⟨BL, HBL⟩ : ∃ b, Hid (belowB s = b) := ⟨_, rfl⟩
  obtain ⟨R, HR⟩ : ∃ r, Hid (restF s = r) := ⟨_, rfl⟩
  obtain ⟨m, Hm⟩ : ∃ m, Hid (R.length = m) := ⟨_, rfl⟩
  have hrz : (⟨R.toArray⟩ : ByteArray).size = m := by simpa [ByteArray.size] using Hm.out
  have hmn : m ≤ n := by
    have h1 := Hm.out
    rw [← HR.out] at h1
    unfold restF at h1
    have h2 := Hn.out
    split at h1
    · rw [List.length_tail] at h1; omega
    · omega
  go_enter Tryd.func27, Tryd.ntmps27
  go_upto_region 1 with fail
  go_cut [4] (fun v wx => v = .bool BL ∧ wx = w)
  case first =>
    by_cases h1 : 1 < n
    · have h1' : decide ((1 : Int) < (n : Int)) = true := by simp; omega
      obtain ⟨b, hb⟩ := some_in (xs := s) (k := 0) (by rw [Hn.out]; omega)
      have hix : ∀ W : World, (Instr.index 9 (strV s) (.int .i64 0)).run Tryd.prog W = .ok (.int .u8 (b.toNat : Int)) W := run_strIdx hb
      have e1 : ((b.toNat : Int) == 45) = BL := by
        rw [← HBL.out]
        unfold belowB
        rw [Hn.out, List.head?_eq_getElem?, hb]
        simp only [h1, decide_true, Bool.true_and]
        rw [Bool.eq_iff_iff]
        simp only [beq_iff_eq, Option.some.injEq]
        constructor
        · intro e
          apply UInt8.toNat_inj.1
          show b.toNat = 45
          omega
        · rintro rfl
          rfl
      clear hb
      go_wp2
      go_meet
      exact ⟨rfl, rfl⟩
    · have h1' : decide ((1 : Int) < (n : Int)) = false := by simp; omega
      obtain rfl : BL = false := by
        rw [← HBL.out]
        unfold belowB
        rw [Hn.out]
        simp [h1]
      go_wp2
      go_meet
      exact ⟨rfl, rfl⟩
  case rest =>
  obtain ⟨rfl, hwc⟩ := hcut
  subst hwc
  go_upto_if 15 with fail
  go_cut [0] (fun v wx => v = strV R ∧ wx = wc)
  case first =>
    cases BL
    · obtain rfl : R = s := by rw [← HR.out]; unfold restF; rw [HBL.out]; rfl
      go_wp2
      go_meet
      exact ⟨rfl, rfl⟩
    · have h1 : 1 < n := by
        have h := HBL.out
        unfold belowB at h
        rw [Bool.and_eq_true, decide_eq_true_eq, Hn.out] at h
        exact h.1
      have hex : (⟨s.toArray⟩ : ByteArray).extract 1 n = ⟨R.toArray⟩ := by
        rw [str_extract, ← HR.out]
        unfold restF
        rw [HBL.out]
        congr 2
        rw [List.take_of_length_le (by simp [Hn.out])]
        simp
      go_wp2
      go_meet
      exact ⟨rfl, rfl⟩
  case rest =>
  obtain ⟨rfl, hwd⟩ := hcut
  subst hwd
  clear hsz
  have HRB : Hid (readB s = (decide (0 < m) && decide (m ≤ 7) && R.all digB)) := by show _ = _; unfold readB; rw [HR.out, Hm.out]
  by_cases h0 : m = 0
  · have H1 : Hid (readB s = false ∧ readI s = 0) := by
      have e : readB s = false := by rw [HRB.out]; simp [h0]
      exact ⟨e, by unfold readI; rw [e]; rfl⟩
    have he : ((m : Int) == 0) = true := by simp; omega
    go_wp2
    go_ret2
    exact ⟨by rw [H1.out.1, H1.out.2]; rfl, rfl⟩
  have he : ((m : Int) == 0) = false := by simp; omega
  by_cases h7 : m ≤ 7
  rotate_left
  · have H1 : Hid (readB s = false ∧ readI s = 0) := by
      have e : readB s = false := by rw [HRB.out]; simp [h7]
      exact ⟨e, by unfold readI; rw [e]; rfl⟩
    have he7 : decide ((7 : Int) < (m : Int)) = true := by simp; omega
    go_wp2
    go_ret2
    exact ⟨by rw [H1.out.1, H1.out.2]; rfl, rfl⟩
  have he7 : decide ((7 : Int) < (m : Int)) = false := by simp; omega
  go_upto_region 8 with fail
  go_loopw [5, 6] (fun x i wr => ∃ (k : Nat) (v : Int), k ≤ m ∧ 0 ≤ v ∧ v ≤ 10000000 ∧ i = .int .i64 k ∧ x = .int .i64 v ∧ Hid (v = valF (R.take k)) ∧ Hid ((R.take k).all digB = true) ∧ wr = wc) (fun _ i _ => m - (intOf i).toNat)
  case atStart => exact ⟨0, 0, Nat.zero_le _, by omega, by omega, rfl, rfl, rfl, by show _ = _; simp, rfl⟩
  case round =>
    obtain ⟨k, v, hk, v0, v1, rfl, rfl, HV, HA, rfl⟩ := hrel
    by_cases hlt : k < m
    · have hlt' : (k : Int) < (m : Int) := by omega
      obtain ⟨b, hb⟩ := some_in (xs := R) (k := k) (by rw [Hm.out]; exact hlt)
      have hix := run_strIdx hb
      have hbb : b.toNat < 256 := b.toNat_lt
      have Hb : Hid (R[k]? = some b) := hb
      clear hb
      cases d1 : digB b
      · have H1 : Hid (readB s = false ∧ readI s = 0) := by
          refine readB_no ?_
          rw [HR.out]
          refine List.all_eq_false.2 ⟨b, List.mem_of_getElem? Hb.out, ?_⟩
          rw [d1]; simp
        by_cases d2 : b.toNat < 48
        · have hd : decide ((b.toNat : Int) < 48) = true := by simp; omega
          go_wp2
          go_ret2
          exact ⟨by rw [H1.out.1, H1.out.2]; rfl, rfl⟩
        · have hd : decide ((b.toNat : Int) < 48) = false := by simp; omega
          have hd2 : decide ((57 : Int) < (b.toNat : Int)) = true := by
            unfold digB at d1
            simp only [Bool.and_eq_false_iff, decide_eq_false_iff_not] at d1
            simp
            omega
          go_wp2
          go_ret2
          exact ⟨by rw [H1.out.1, H1.out.2]; rfl, rfl⟩
      · have hdd : 48 ≤ b.toNat ∧ b.toNat ≤ 57 := by
          have h := d1
          unfold digB at h
          simpa using h
        have hd : decide ((b.toNat : Int) < 48) = false := by simp; omega
        have hd2 : decide ((57 : Int) < (b.toNat : Int)) = false := by simp; omega
        have HA2 : Hid ((R.take (k + 1)).all digB = true) := by
          show _ = _
          rw [List.take_add_one, Hb.out, List.all_append, HA.out]
          simp [d1]
        obtain ⟨v2, Hv2⟩ : ∃ v2 : Int, Hid (10 * v + (b.toNat : Int) - 48 = v2) := ⟨_, rfl⟩
        have HV2 : Hid (v2 = valF (R.take (k + 1))) := by show _ = _; rw [valF_step Hb.out, ← HV.out, Hv2.out]
        have hb2 : 0 ≤ v2 ∧ v2 ≤ 10000000 := by
          have h := valF_bound (R.take (k + 1)) HA2.out
          rw [← HV2.out] at h
          have e : (R.take (k + 1)).length = k + 1 := by rw [List.length_take, Hm.out]; omega
          rw [e] at h
          have hp : (10 : Int) ^ (k + 1) ≤ 10000000 := by
            have hk6 : k = 0 ∨ k = 1 ∨ k = 2 ∨ k = 3 ∨ k = 4 ∨ k = 5 ∨ k = 6 := by omega
            rcases hk6 with rfl | rfl | rfl | rfl | rfl | rfl | rfl <;> decide
          omega
        have hs2 : 10 * v + (b.toNat : Int) - 48 = v2 := Hv2.out
        generalize (b.toNat : Int) = bn at *
        go_wp2
        exact ⟨⟨k + 1, v2, by omega, hb2.1, hb2.2, by go_num, rfl, HV2, HA2, by first | rfl | trivial⟩, by simp only [intOf]; omega⟩
    · have hlt' : decide ((k : Int) < (m : Int)) = false := by simp; omega
      have hall : R.all digB = true := by
        have h := HA.out
        rwa [List.take_of_length_le (by rw [Hm.out]; omega)] at h
      have hval : v = valF R := by
        have h := HV.out
        rwa [List.take_of_length_le (by rw [Hm.out]; omega)] at h
      have e : readB s = true := by rw [HRB.out, hall]; simp; omega
      cases BL
      · have H1 : Hid (readB s = true ∧ readI s = v) := ⟨e, by unfold readI; rw [e, HBL.out, HR.out, hval]; rfl⟩
        clear e hval hall
        go_wp2
        go_ret2
        exact ⟨by rw [H1.out.1, H1.out.2]; rfl, rfl⟩
      · have H1 : Hid (readB s = true ∧ readI s = -v) := ⟨e, by unfold readI; rw [e, HBL.out, HR.out, hval]; simp⟩
        clear e hval hall
        go_wp2
        go_ret2
        exact ⟨by rw [H1.out.1, H1.out.2]; rfl, rfl⟩
end Go.Proofs.YtpikopdfkhagmaaDoor
