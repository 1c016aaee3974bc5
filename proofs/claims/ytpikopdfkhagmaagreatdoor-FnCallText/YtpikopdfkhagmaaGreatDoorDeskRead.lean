/-
  The model's l14Words: the words of a line.
  The model's l14Read: the number of a text.
  What the program reads of a line, as plain functions: runes that are skipped, numbers that may run over, the call that is filled place by place; a line is read by it just if it is one.
-/
import Derived.Test.YtpikopdfkhagmaaGreatDoorDeskParseP
import Derived.Test.YtpikopdfkhagmaaGreatDoorDeskNum
import Derived.Test.YtpikopdfkhagmaaGreatDoorOwn
import Derived.Test.YtpikopdfkhagmaaGreatDoorImplLine
import Derived.Laws.RangeAny
import Derived.Lib.OthersKept
namespace Go.Proofs.YtpikopdfkhagmaaGreatDoor
open Go.RowKit
attribute [local go_sem] Keeps.refl Keeps.alloc Keeps.drew Keeps.drewN

/-- A row of texts. -/
abbrev sc (s : List UInt8) : Array Value := #[strV s]
theorem sc_size (s : List UInt8) : (sc s).size = 1 := rfl
theorem sc_one (s : List UInt8) : ∀ u ∈ (sc s).toList, u.oneCell' = true := by
  intro u hu
  obtain rfl : u = strV s := by simpa using hu
  rfl
/-- The word that is under way. -/
def curF (l : List UInt8) (f k : Nat) : List UInt8 := (l.drop f).take (k - f)
theorem curF_step {l : List UInt8} {f k : Nat} {b : UInt8} (hf : f ≤ k) (h : l[k]? = some b) : curF l f (k + 1) = curF l f k ++ [b] := by
  unfold curF
  rw [show k + 1 - f = (k - f) + 1 from by omega, List.take_add_one, List.getElem?_drop, show f + (k - f) = k from by omega, h]
  rfl
theorem curF_new (l : List UInt8) (k : Nat) : curF l k k = [] := by unfold curF; simp
theorem split_go {l : List UInt8} {k : Nat} {b : UInt8} (cur : List UInt8) (h : l[k]? = some b) : splitF cur (l.drop k) = if b == 32 then cur :: splitF [] (l.drop (k + 1)) else splitF (cur ++ [b]) (l.drop (k + 1)) := by
  have hk : k < l.length := by
    rcases Nat.lt_or_ge k l.length with h1 | h1
    · exact h1
    · simp [List.getElem?_eq_none h1] at h
  have e : l.drop k = b :: l.drop (k + 1) := by
    rw [List.drop_eq_getElem_cons hk]
    rw [List.getElem?_eq_getElem hk] at h
    rw [Option.some.inj h]
  rw [e, splitF]
set_option maxRecDepth 100000 in
set_option maxHeartbeats 2000000 in
theorem l14Words_any (l : List UInt8) (w : World) (hl : l.length ≤ 1048576) :
    Calls Tryz.prog 35 #[strV l] w fun e w' => ∃ u, e = .returned u ∧ Own 9 1 sc w' w.heap.size u (wordsF l) ∧ Keeps w w' := by
  generalize hn : l.length = n at hl
  have Hn : Hid (l.length = n) := hn
  have hsz : (⟨l.toArray⟩ : ByteArray).size = n := by simpa [ByteArray.size] using hn
  clear hn
  have O0 : Hid (Own 9 1 sc (w.alloc (.cells #[] 9)) w.heap.size (.slice (some ⟨w.heap.size, 0, none⟩) 0 0) []) := Own.new 9 1 sc _ (Nat.le_refl _)
  go_enter Tryz.func35, Tryz.ntmps35
  go_wp2
  go_loopw [3, 4, 5] (fun o f i wr => ∃ (k p : Nat) (xs : List (List UInt8)), k ≤ n + 1 ∧ p ≤ k ∧ xs.length ≤ k ∧ i = .int .i64 k ∧ f = .int .i64 p ∧ Hid (k ≤ n → wordsF l = xs ++ splitF (curF l p k) (l.drop k)) ∧ Hid (k = n + 1 → wordsF l = xs) ∧ Hid (Own 9 1 sc wr w.heap.size o xs) ∧ Keeps w wr) (fun _ _ i _ => n + 1 - (intOf i).toNat)
  case atStart => exact ⟨0, 0, [], by omega, by omega, by simp, rfl, rfl, fun _ => by show wordsF l = [] ++ splitF (curF l 0 0) (l.drop 0); rw [curF_new]; rfl, fun h => by omega, O0, (Keeps.refl _).alloc _⟩
  case round =>
    obtain ⟨k, p, xs, hk, hp, hxl, rfl, rfl, HI, HL, O, hK⟩ := hrel
    clear O0
    by_cases hlt : k ≤ n
    · have hlt' : decide ((k : Int) ≤ (n : Int)) = true := by simp; omega
      have HW := HI.out hlt
      by_cases he : k = n
      · subst he
        have hee : ((k : Int) == (k : Int)) = true := by simp
        have HD : Hid (wordsF l = xs ++ [curF l p k]) := by
          show _ = _
          rw [HW, List.drop_eq_nil_of_le (by rw [Hn.out]; omega)]
          rfl
        have hsub := str_extract l p k
        have Hc : Hid ((l.drop p).take (k - p) = curF l p k) := rfl
        rw [Hc.out] at hsub
        generalize curF l p k = cu at *
        clear HW HI HL
        go_wp2_with (at_builtin; (refine wpList_push rfl _ _ 51 rfl w 9 (.string ⟨#[]⟩) 1 16 sc Tryz.underlying51 (by kernel_rfl) rfl (by decide) sc_size sc_one _ xs rfl wr O.out hK ((Keeps.refl _).alloc _) cu _ 1 (Blk.new _ _ _) rfl ?c1 ?c2 ?_))
        case c1 => unfold maxLen; omega
        case c2 => omega
        intro v' w5 own5 k5 _
        have HO : Hid (Own 9 1 sc w5 w.heap.size v' (xs ++ [cu])) := own5
        clear own5 O
        go_wp2
        exact ⟨⟨k + 1, k + 1, xs ++ [cu], by omega, by omega, by simp; omega, by go_num, by go_num, fun h => by omega, fun _ => HD.out, HO, k5⟩, by simp only [intOf]; omega⟩
      · have hee : ((k : Int) == (n : Int)) = false := by simp; omega
        obtain ⟨b, hb⟩ := some_in (xs := l) (k := k) (by rw [Hn.out]; omega)
        have hix := run_strIdx hb
        rw [split_go _ hb] at HW
        cases c1 : (b == 32)
        · rw [c1, if_neg (by simp), ← curF_step hp hb] at HW
          have hc1 : ((b.toNat : Int) == 32) = false := by
            rw [beq_eq_false_iff_ne] at c1 ⊢
            intro e
            apply c1
            apply UInt8.toNat_inj.1
            show b.toNat = 32
            omega
          have HN : Hid (k + 1 ≤ n → wordsF l = xs ++ splitF (curF l p (k + 1)) (l.drop (k + 1))) := fun _ => HW
          clear HW HI HL hb
          go_wp2
          exact ⟨⟨k + 1, p, xs, by omega, by omega, by omega, by go_num, rfl, HN, fun h => by omega, O, hK⟩, by simp only [intOf]; omega⟩
        · rw [c1, if_pos rfl] at HW
          have hc1 : ((b.toNat : Int) == 32) = true := by
            rw [beq_iff_eq] at c1 ⊢
            rw [c1]
            rfl
          have HN : Hid (k + 1 ≤ n → wordsF l = (xs ++ [curF l p k]) ++ splitF (curF l (k + 1) (k + 1)) (l.drop (k + 1))) := fun _ => by
            rw [curF_new, HW]
            simp
          have hsub := str_extract l p k
          have Hc : Hid ((l.drop p).take (k - p) = curF l p k) := rfl
          rw [Hc.out] at hsub
          generalize curF l p k = cu at *
          clear HW HI HL hb
          go_wp2_with (at_builtin; (refine wpList_push rfl _ _ 51 rfl w 9 (.string ⟨#[]⟩) 1 16 sc Tryz.underlying51 (by kernel_rfl) rfl (by decide) sc_size sc_one _ xs rfl wr O.out hK ((Keeps.refl _).alloc _) cu _ 1 (Blk.new _ _ _) rfl ?c1 ?c2 ?_))
          case c1 => unfold maxLen; omega
          case c2 => omega
          intro v' w5 own5 k5 _
          have HO : Hid (Own 9 1 sc w5 w.heap.size v' (xs ++ [cu])) := own5
          clear own5 O
          go_wp2
          exact ⟨⟨k + 1, k + 1, xs ++ [cu], by omega, by omega, by simp; omega, by go_num, by go_num, HN, fun h => by omega, HO, k5⟩, by simp only [intOf]; omega⟩
    · have hlt' : decide ((k : Int) ≤ (n : Int)) = false := by simp; omega
      have HP : Hid (wordsF l = xs) := HL.out (by omega)
      clear HI HL
      go_wp2
      go_ret
      exact ⟨_, rfl, by rw [HP.out]; exact O.out, hK⟩
end Go.Proofs.YtpikopdfkhagmaaGreatDoor
namespace Go.Proofs.YtpikopdfkhagmaaGreatDoor
open Go.RowKit
attribute [local go_sem] Keeps.refl Keeps.alloc Keeps.drew Keeps.drewN

theorem valF_step {r : List UInt8} {k : Nat} {b : UInt8} (h : r[k]? = some b) : valF (r.take (k + 1)) = 10 * valF (r.take k) + (b.toNat : Int) - 48 := by
  unfold valF
  rw [List.take_add_one, h, List.foldl_append]
  rfl
theorem valF_bound : ∀ (r : List UInt8), r.all digB = true → 0 ≤ valF r ∧ valF r + 1 ≤ 10 ^ r.length := by
  intro r
  suffices h : ∀ (k : Nat) (r : List UInt8), r.length = k → r.all digB = true → 0 ≤ valF r ∧ valF r + 1 ≤ 10 ^ r.length from h _ r rfl
  intro k
  induction k with
  | zero =>
    intro r hr _
    obtain rfl := List.length_eq_zero_iff.1 hr
    exact ⟨by decide, by decide⟩
  | succ k ih =>
    intro r hr ha
    obtain ⟨b, hb⟩ := some_in (xs := r) (k := k) (by omega)
    have h1 := valF_step hb
    rw [List.take_of_length_le (by omega)] at h1
    have hall : (r.take k).all digB = true := by
      rw [List.all_eq_true] at ha ⊢
      exact fun x hx => ha x (List.mem_of_mem_take hx)
    obtain ⟨h2, h3⟩ := ih (r.take k) (by simp; omega) hall
    have h4 := List.all_eq_true.1 ha b (List.mem_of_getElem? hb)
    unfold digB at h4
    simp only [Bool.and_eq_true, decide_eq_true_eq] at h4
    have e : (r.take k).length = k := by simp; omega
    rw [e] at h3
    rw [hr, Int.pow_succ]
    omega
theorem readB_no {s : List UInt8} (h : ((restF s).all digB) = false) : readB s = false ∧ readI s = 0 := by
  have e : readB s = false := by unfold readB; rw [h, Bool.and_false]
  exact ⟨e, by unfold readI; rw [e]; rfl⟩
set_option maxRecDepth 100000 in
set_option maxHeartbeats 2000000 in
theorem l14Read_any (s : List UInt8) (w : World) (hl : s.length ≤ 1048576) :
    Calls Tryz.prog 36 #[strV s] w fun e w' => e = .returned (.tuple #[.int .i64 (readI s), .bool (readB s)]) ∧ w' = w := by
  generalize hn : s.length = n at hl
  have Hn : Hid (s.length = n) := hn
  have hsz : (⟨s.toArray⟩ : ByteArray).size = n := by simpa [ByteArray.size] using hn
  clear hn
  obtain ⟨BL, HBL⟩ : ∃ b, Hid (belowB s = b) := ⟨_, rfl⟩
  obtain ⟨R, HR⟩ : ∃ r, Hid (restF s = r) := ⟨_, rfl⟩
  obtain ⟨m, Hm⟩ : ∃ m, Hid (R.length = m) := ⟨_, rfl⟩
  have hrz : (⟨R.toArray⟩ : ByteArray).size = m := by simpa [ByteArray.size] using Hm.out
  have hmn : m ≤ n := by
    have h1 := Hm.out
    rw [← HR.out] at h1
    unfold restF at h1
    have h2 := Hn.out
    split at h1
    · rw [List.length_tail] at h1; omega
    · omega
  go_enter Tryz.func36, Tryz.ntmps36
  go_upto_region 1 with fail
  go_cut [4] (fun v wx => v = .bool BL ∧ wx = w)
  case first =>
    by_cases h1 : 1 < n
    · have h1' : decide ((1 : Int) < (n : Int)) = true := by simp; omega
      obtain ⟨b, hb⟩ := some_in (xs := s) (k := 0) (by rw [Hn.out]; omega)
      have hix : ∀ W : World, (Instr.index 9 (strV s) (.int .i64 0)).run Tryz.prog W = .ok (.int .u8 (b.toNat : Int)) W := run_strIdx hb
      have e1 : ((b.toNat : Int) == 45) = BL := by
        rw [← HBL.out]
        unfold belowB
        rw [Hn.out, List.head?_eq_getElem?, hb]
        simp only [h1, decide_true, Bool.true_and]
        rw [Bool.eq_iff_iff]
        simp only [beq_iff_eq, Option.some.injEq]
        constructor
        · intro e
          apply UInt8.toNat_inj.1
          show b.toNat = 45
          omega
        · rintro rfl
          rfl
      clear hb
      go_wp2
      go_meet
      exact ⟨rfl, rfl⟩
    · have h1' : decide ((1 : Int) < (n : Int)) = false := by simp; omega
      obtain rfl : BL = false := by
        rw [← HBL.out]
        unfold belowB
        rw [Hn.out]
        simp [h1]
      go_wp2
      go_meet
      exact ⟨rfl, rfl⟩
  case rest =>
  obtain ⟨rfl, hwc⟩ := hcut
  subst hwc
  go_upto_if 15 with fail
  go_cut [0] (fun v wx => v = strV R ∧ wx = wc)
  case first =>
    cases BL
    · obtain rfl : R = s := by rw [← HR.out]; unfold restF; rw [HBL.out]; rfl
      go_wp2
      go_meet
      exact ⟨rfl, rfl⟩
    · have h1 : 1 < n := by
        have h := HBL.out
        unfold belowB at h
        rw [Bool.and_eq_true, decide_eq_true_eq, Hn.out] at h
        exact h.1
      have hex : (⟨s.toArray⟩ : ByteArray).extract 1 n = ⟨R.toArray⟩ := by
        rw [str_extract, ← HR.out]
        unfold restF
        rw [HBL.out]
        congr 2
        rw [List.take_of_length_le (by simp [Hn.out])]
        simp
      go_wp2
      go_meet
      exact ⟨rfl, rfl⟩
  case rest =>
  obtain ⟨rfl, hwd⟩ := hcut
  subst hwd
  clear hsz
  have HRB : Hid (readB s = (decide (0 < m) && decide (m ≤ 7) && R.all digB)) := by show _ = _; unfold readB; rw [HR.out, Hm.out]
  by_cases h0 : m = 0
  · have H1 : Hid (readB s = false ∧ readI s = 0) := by
      have e : readB s = false := by rw [HRB.out]; simp [h0]
      exact ⟨e, by unfold readI; rw [e]; rfl⟩
    have he : ((m : Int) == 0) = true := by simp; omega
    go_wp2
    go_ret2
    exact ⟨by rw [H1.out.1, H1.out.2]; rfl, rfl⟩
  have he : ((m : Int) == 0) = false := by simp; omega
  by_cases h7 : m ≤ 7
  rotate_left
  · have H1 : Hid (readB s = false ∧ readI s = 0) := by
      have e : readB s = false := by rw [HRB.out]; simp [h7]
      exact ⟨e, by unfold readI; rw [e]; rfl⟩
    have he7 : decide ((7 : Int) < (m : Int)) = true := by simp; omega
    go_wp2
    go_ret2
    exact ⟨by rw [H1.out.1, H1.out.2]; rfl, rfl⟩
  have he7 : decide ((7 : Int) < (m : Int)) = false := by simp; omega
  go_upto_region 8 with fail
  go_loopw [5, 6] (fun x i wr => ∃ (k : Nat) (v : Int), k ≤ m ∧ 0 ≤ v ∧ v ≤ 10000000 ∧ i = .int .i64 k ∧ x = .int .i64 v ∧ Hid (v = valF (R.take k)) ∧ Hid ((R.take k).all digB = true) ∧ wr = wc) (fun _ i _ => m - (intOf i).toNat)
  case atStart => exact ⟨0, 0, Nat.zero_le _, by omega, by omega, rfl, rfl, rfl, by show _ = _; simp, rfl⟩
  case round =>
    obtain ⟨k, v, hk, v0, v1, rfl, rfl, HV, HA, rfl⟩ := hrel
    by_cases hlt : k < m
    · have hlt' : (k : Int) < (m : Int) := by omega
      obtain ⟨b, hb⟩ := some_in (xs := R) (k := k) (by rw [Hm.out]; exact hlt)
      have hix := run_strIdx hb
      have hbb : b.toNat < 256 := b.toNat_lt
      have Hb : Hid (R[k]? = some b) := hb
      clear hb
      cases d1 : digB b
      · have H1 : Hid (readB s = false ∧ readI s = 0) := by
          refine readB_no ?_
          rw [HR.out]
          refine List.all_eq_false.2 ⟨b, List.mem_of_getElem? Hb.out, ?_⟩
          rw [d1]; simp
        by_cases d2 : b.toNat < 48
        · have hd : decide ((b.toNat : Int) < 48) = true := by simp; omega
          go_wp2
          go_ret2
          exact ⟨by rw [H1.out.1, H1.out.2]; rfl, rfl⟩
        · have hd : decide ((b.toNat : Int) < 48) = false := by simp; omega
          have hd2 : decide ((57 : Int) < (b.toNat : Int)) = true := by
            unfold digB at d1
            simp only [Bool.and_eq_false_iff, decide_eq_false_iff_not] at d1
            simp
            omega
          go_wp2
          go_ret2
          exact ⟨by rw [H1.out.1, H1.out.2]; rfl, rfl⟩
      · have hdd : 48 ≤ b.toNat ∧ b.toNat ≤ 57 := by
          have h := d1
          unfold digB at h
          simpa using h
        have hd : decide ((b.toNat : Int) < 48) = false := by simp; omega
        have hd2 : decide ((57 : Int) < (b.toNat : Int)) = false := by simp; omega
        have HA2 : Hid ((R.take (k + 1)).all digB = true) := by
          show _ = _
          rw [List.take_add_one, Hb.out, List.all_append, HA.out]
          simp [d1]
        obtain ⟨v2, Hv2⟩ : ∃ v2 : Int, Hid (10 * v + (b.toNat : Int) - 48 = v2) := ⟨_, rfl⟩
        have HV2 : Hid (v2 = valF (R.take (k + 1))) := by show _ = _; rw [valF_step Hb.out, ← HV.out, Hv2.out]
        have hb2 : 0 ≤ v2 ∧ v2 ≤ 10000000 := by
          have h := valF_bound (R.take (k + 1)) HA2.out
          rw [← HV2.out] at h
          have e : (R.take (k + 1)).length = k + 1 := by rw [List.length_take, Hm.out]; omega
          rw [e] at h
          have hp : (10 : Int) ^ (k + 1) ≤ 10000000 := by
            have hk6 : k = 0 ∨ k = 1 ∨ k = 2 ∨ k = 3 ∨ k = 4 ∨ k = 5 ∨ k = 6 := by omega
            rcases hk6 with rfl | rfl | rfl | rfl | rfl | rfl | rfl <;> decide
          omega
        have hs2 : 10 * v + (b.toNat : Int) - 48 = v2 := Hv2.out
        generalize (b.toNat : Int) = bn at *
        go_wp2
        exact ⟨⟨k + 1, v2, by omega, hb2.1, hb2.2, by go_num, rfl, HV2, HA2, by first | rfl | trivial⟩, by simp only [intOf]; omega⟩
    · have hlt' : decide ((k : Int) < (m : Int)) = false := by simp; omega
      have hall : R.all digB = true := by
        have h := HA.out
        rwa [List.take_of_length_le (by rw [Hm.out]; omega)] at h
      have hval : v = valF R := by
        have h := HV.out
        rwa [List.take_of_length_le (by rw [Hm.out]; omega)] at h
      have e : readB s = true := by rw [HRB.out, hall]; simp; omega
      cases BL
      · have H1 : Hid (readB s = true ∧ readI s = v) := ⟨e, by unfold readI; rw [e, HBL.out, HR.out, hval]; rfl⟩
        clear e hval hall
        go_wp2
        go_ret2
        exact ⟨by rw [H1.out.1, H1.out.2]; rfl, rfl⟩
      · have H1 : Hid (readB s = true ∧ readI s = -v) := ⟨e, by unfold readI; rw [e, HBL.out, HR.out, hval]; simp⟩
        clear e hval hall
        go_wp2
        go_ret2
        exact ⟨by rw [H1.out.1, H1.out.2]; rfl, rfl⟩
end Go.Proofs.YtpikopdfkhagmaaGreatDoor
namespace Go.Proofs.YtpikopdfkhagmaaGreatDoor
open Go.RowKit

theorem get_list (l : List UInt8) (k : Nat) : (⟨l.toArray⟩ : ByteArray).get! k = l.getD k 0 := by
  show l.toArray[k]! = _
  rw [List.getD_eq_getElem?_getD]
  simp [Array.getElem!_eq_getD]
  rfl
theorem size_list (l : List UInt8) : (⟨l.toArray⟩ : ByteArray).size = l.length := by simp [ByteArray.size]
/-- What a rune of several bytes is made of: no byte below 128. -/
theorem decode_skip (s : ByteArray) (i j : Nat) (h1 : 1 ≤ j) (h2 : j < (Utf8.decode s i).2) : i + j < s.size ∧ 128 ≤ (s.get! (i + j)).toNat := by
  unfold Utf8.decode at h2
  simp only at h2
  split at h2
  · simp at h2; omega
  split at h2
  · rename_i hc
    simp only [Bool.and_eq_true, decide_eq_true_eq, beq_iff_eq] at hc
    split at h2
    · obtain rfl : j = 1 := by simp at h2; omega
      exact ⟨hc.2.1, by omega⟩
    · simp at h2; omega
  split at h2
  · rename_i hc
    simp only [Bool.and_eq_true, decide_eq_true_eq, beq_iff_eq] at hc
    split at h2
    · have : j = 1 ∨ j = 2 := by simp at h2; omega
      rcases this with rfl | rfl
      · exact ⟨hc.1.2.1, by omega⟩
      · exact ⟨hc.2.1, by omega⟩
    · simp at h2; omega
  split at h2
  · rename_i hc
    simp only [Bool.and_eq_true, decide_eq_true_eq, beq_iff_eq] at hc
    split at h2
    · have : j = 1 ∨ j = 2 ∨ j = 3 := by simp at h2; omega
      rcases this with rfl | rfl | rfl
      · exact ⟨hc.1.1.2.1, by omega⟩
      · exact ⟨hc.1.2.1, by omega⟩
      · exact ⟨hc.2.1, by omega⟩
    · simp at h2; omega
  · simp at h2; omega
theorem split_skip {l : List UInt8} {p : Nat} : ∀ (m k : Nat), p ≤ k → k + m ≤ l.length → (∀ j, j < m → (l.getD (k + j) 0 == 32) = false) → splitF (curF l p k) (l.drop k) = splitF (curF l p (k + m)) (l.drop (k + m))
  | 0, k, _, _, _ => rfl
  | m + 1, k, hp, hl, h => by
    have hk : l[k]? = some (l.getD k 0) := by
      rw [List.getD_eq_getElem?_getD, List.getElem?_eq_getElem (by omega)]
      rfl
    have h0 := h 0 (by omega)
    rw [Nat.add_zero] at h0
    rw [split_go _ hk, h0, if_neg (by simp), ← curF_step hp hk, split_skip m (k + 1) (by omega) (by omega) (fun j hj => by have := h (j + 1) (by omega); rw [show k + (j + 1) = k + 1 + j from by omega] at this; exact this)]
    rw [show k + 1 + m = k + (m + 1) from by omega]
/-- A rune that is no blank is passed over whole. -/
theorem rune_skip {l : List UInt8} {k p : Nat} (hp : p ≤ k) (hk : k < l.length) (h : (Utf8.decode ⟨l.toArray⟩ k).1 ≠ 32) :
    k + (Utf8.decode ⟨l.toArray⟩ k).2 ≤ l.length ∧ 1 ≤ (Utf8.decode ⟨l.toArray⟩ k).2 ∧ splitF (curF l p k) (l.drop k) = splitF (curF l p (k + (Utf8.decode ⟨l.toArray⟩ k).2)) (l.drop (k + (Utf8.decode ⟨l.toArray⟩ k).2)) := by
  have hs : k < (⟨l.toArray⟩ : ByteArray).size := by rw [size_list]; exact hk
  have hb : ((⟨l.toArray⟩ : ByteArray)[k]'hs) = l.getD k 0 := by
    rw [List.getD_eq_getElem?_getD, List.getElem?_eq_getElem hk]
    rfl
  have hw1 : 1 ≤ (Utf8.decode ⟨l.toArray⟩ k).2 := by
    by_cases ha : ((⟨l.toArray⟩ : ByteArray)[k]'hs).toNat < 128
    · rw [decode_ascii _ k hs ha]
      exact Nat.le_refl _
    · exact (decode_high _ k hs (by omega)).2
  have hall : ∀ j, 1 ≤ j → j < (Utf8.decode ⟨l.toArray⟩ k).2 → k + j < l.length ∧ 128 ≤ (l.getD (k + j) 0).toNat := fun j h1 h2 => by
    have := decode_skip ⟨l.toArray⟩ k j h1 h2
    rw [size_list, get_list] at this
    exact this
  have hle : k + (Utf8.decode ⟨l.toArray⟩ k).2 ≤ l.length := by
    by_cases e : (Utf8.decode ⟨l.toArray⟩ k).2 = 1
    · rw [e]; omega
    · have := (hall ((Utf8.decode ⟨l.toArray⟩ k).2 - 1) (by omega) (by omega)).1
      omega
  refine ⟨hle, hw1, split_skip _ k hp hle fun j hj => ?_⟩
  rw [beq_eq_false_iff_ne]
  intro e
  by_cases h0 : j = 0
  · subst h0
    apply h
    rw [Nat.add_zero] at e
    have ha : ((⟨l.toArray⟩ : ByteArray)[k]'hs).toNat < 128 := by rw [hb, e]; decide
    rw [decode_ascii _ k hs ha, hb, e]
    rfl
  · have := (hall j (by omega) hj).2
    rw [e] at this
    exact absurd this (by decide)
/-- A blank is one byte. -/
theorem rune_blank {l : List UInt8} {k : Nat} (hk : k < l.length) (h : (Utf8.decode ⟨l.toArray⟩ k).1 = 32) : (Utf8.decode ⟨l.toArray⟩ k).2 = 1 ∧ l[k]? = some 32 := by
  have hs : k < (⟨l.toArray⟩ : ByteArray).size := by rw [size_list]; exact hk
  have hb : ((⟨l.toArray⟩ : ByteArray)[k]'hs) = l[k] := rfl
  by_cases ha : ((⟨l.toArray⟩ : ByteArray)[k]'hs).toNat < 128
  · rw [decode_ascii _ k hs ha] at h ⊢
    refine ⟨rfl, ?_⟩
    rw [List.getElem?_eq_getElem hk, ← hb]
    congr 1
    apply UInt8.toNat_inj.1
    exact h
  · have := (decode_high _ k hs (by omega)).1
    omega
/-- A number as the program reads it: it may run over. -/
def numStep (acc : Int) (b : UInt8) : Int := wrap64 (wrap64 (acc * 10) + ((b.toNat : Int) - 48))
def numGo : Bool → Int → Int → List UInt8 → Option Int
  | _, acc, sign, [] => some (wrap64 (sign * acc))
  | first, acc, sign, b :: r => if first && b == 45 then numGo false acc (-1) r else if digB b then numGo false (numStep acc b) sign r else none
def numO (s : List UInt8) : Option Int := numGo true 0 1 s
theorem wrap_small {x : Int} (h0 : -9223372036854775808 ≤ x) (h1 : x ≤ 9223372036854775807) : wrap64 x = x := by unfold wrap64; omega
def valG (acc : Int) (s : List UInt8) : Int := s.foldl (fun x b => 10 * x + (b.toNat : Int) - 48) acc
theorem digB_parts {b : UInt8} (h : digB b = true) : 48 ≤ b.toNat ∧ b.toNat ≤ 57 := by
  unfold digB at h
  simpa using h
theorem valG_le : ∀ (s : List UInt8) (acc : Int), s.all digB = true → 0 ≤ acc → acc ≤ valG acc s
  | [], acc, _, _ => Int.le_refl _
  | b :: r, acc, h, h0 => by
    simp only [List.all_cons, Bool.and_eq_true] at h
    have hb := digB_parts h.1
    have := valG_le r (10 * acc + (b.toNat : Int) - 48) h.2 (by omega)
    show acc ≤ valG (10 * acc + (b.toNat : Int) - 48) r
    omega
theorem numGo_digs (sign : Int) : ∀ (s : List UInt8) (f : Bool) (acc : Int), s.all digB = true → 0 ≤ acc → valG acc s ≤ 99999999 → numGo f acc sign s = some (wrap64 (sign * valG acc s))
  | [], f, acc, _, _, _ => rfl
  | b :: r, f, acc, h, h0, hv => by
    simp only [List.all_cons, Bool.and_eq_true] at h
    have hb := digB_parts h.1
    have hv2 : valG (10 * acc + (b.toNat : Int) - 48) r ≤ 99999999 := hv
    have hle := valG_le r (10 * acc + (b.toNat : Int) - 48) h.2 (by omega)
    have h45 : (b == 45) = false := by
      rw [beq_eq_false_iff_ne]
      intro e
      rw [e] at hb
      exact absurd hb.1 (by decide)
    have hs : numStep acc b = 10 * acc + (b.toNat : Int) - 48 := by
      unfold numStep
      rw [wrap_small (x := acc * 10) (by omega) (by omega), wrap_small (by omega) (by omega)]
      omega
    rw [numGo, h45, Bool.and_false, if_neg (by simp), if_pos h.1, hs, numGo_digs sign r false _ h.2 (by omega) hv2]
    rfl
/-- A number that stands in a line is read as it was. -/
theorem numO_num {x : Int} (h0 : -9 ≤ x) (h1 : x ≤ 9999999) : numO (numL x) = some x := by
  rcases Int.lt_trichotomy x 0 with h | rfl | h
  · obtain ⟨m, rfl⟩ : ∃ m : Nat, x = -(m : Int) := ⟨x.natAbs, by omega⟩
    have e0 : numL (-(m : Int)) = 45 :: digs m := by rw [numL_neg h, Int.natAbs_neg]; rfl
    have hv : valG 0 (digs m) = m := digs_val m m (Nat.le_refl _)
    rw [e0]
    unfold numO
    rw [numGo, if_pos (by rfl), numGo_digs (-1) (digs m) false 0 (digs_all m m (Nat.le_refl _)) (by omega) (by rw [hv]; omega), hv, wrap_small (by omega) (by omega)]
    congr 1
    omega
  · rw [numL_zero]
    unfold numO
    rw [numGo_digs 1 [48] true 0 (by decide) (by omega) (by decide), show valG 0 [48] = 0 from by decide, wrap_small (by omega) (by omega)]
    rfl
  · obtain ⟨m, rfl⟩ : ∃ m : Nat, x = (m : Int) := ⟨x.toNat, by omega⟩
    have hv : valG 0 (digs m) = m := digs_val m m (Nat.le_refl _)
    rw [numL_pos (by omega)]
    unfold numO
    rw [numGo_digs 1 (digs m) true 0 (digs_all m m (Nat.le_refl _)) (by omega) (by rw [hv]; omega), hv, wrap_small (by omega) (by omega)]
    congr 1
    omega
/-- The number of a text, or nought. -/
def numV (s : List UInt8) : Int := (numO s).getD 0
/-- A call is filled place by place. -/
theorem fill_at {k : Int} (hk : 1 ≤ k ∧ k ≤ 11) {vs : List Int} {j o : Nat} {v : Int} (ho : (placesO k)[j]? = some o) (hv : vs[j]? = some v) :
    (cc (ofF k (vs.take j))).setIfInBounds o (.int .i64 v) = cc (ofF k (vs.take (j + 1))) := by
  have h2 : k = 1 ∨ k = 2 ∨ k = 3 ∨ k = 4 ∨ k = 5 ∨ k = 6 ∨ k = 7 ∨ k = 8 ∨ k = 9 ∨ k = 10 ∨ k = 11 := by omega
  have hj : j < 4 := by
    rcases Nat.lt_or_ge j 4 with h | h
    · exact h
    · unfold placesO at ho
      repeat' split at ho
      all_goals rw [List.getElem?_eq_none (by simp; omega)] at ho
      all_goals cases ho
  have h4 : j = 0 ∨ j = 1 ∨ j = 2 ∨ j = 3 := by omega
  match vs, hv with
  | [], hv => simp at hv
  | [a], hv =>
    rcases h4 with rfl | rfl | rfl | rfl <;> simp at hv
    subst hv
    rcases h2 with rfl | rfl | rfl | rfl | rfl | rfl | rfl | rfl | rfl | rfl | rfl <;> simp [placesO] at ho <;> subst ho <;> simp [ofF]
  | [a, b], hv =>
    rcases h4 with rfl | rfl | rfl | rfl <;> simp at hv <;> subst hv <;> rcases h2 with rfl | rfl | rfl | rfl | rfl | rfl | rfl | rfl | rfl | rfl | rfl <;> simp [placesO] at ho <;> subst ho <;> simp [ofF]
  | [a, b, c], hv =>
    rcases h4 with rfl | rfl | rfl | rfl <;> simp at hv <;> subst hv <;> rcases h2 with rfl | rfl | rfl | rfl | rfl | rfl | rfl | rfl | rfl | rfl | rfl <;> simp [placesO] at ho <;> subst ho <;> simp [ofF]
  | a :: b :: c :: d :: r, hv =>
    rcases h4 with rfl | rfl | rfl | rfl <;> simp at hv <;> subst hv <;> rcases h2 with rfl | rfl | rfl | rfl | rfl | rfl | rfl | rfl | rfl | rfl | rfl <;> simp [placesO] at ho <;> subst ho <;> simp [ofF]
theorem cc_at (c : Cl) {o : Nat} (h : o < 5) : ∃ q : Int, (cc c)[o]? = some (Value.int .i64 q) := by
  have h2 : o = 0 ∨ o = 1 ∨ o = 2 ∨ o = 3 ∨ o = 4 := by omega
  rcases h2 with rfl | rfl | rfl | rfl | rfl
  · exact ⟨c.kind, rfl⟩
  · exact ⟨c.no, rfl⟩
  · exact ⟨c.cpu, rfl⟩
  · exact ⟨c.a, rfl⟩
  · exact ⟨c.b, rfl⟩
theorem fill_none {k : Int} : ofF k [] = ⟨k, 0, 0, 0, 0⟩ := by
  unfold ofF
  repeat' split
  all_goals rfl
/-- What is known of a line that is the line of a call. -/
theorem line_known {l w0 : List UInt8} {ws : List (List UInt8)} {c : Cl} (hw : wordsF l = w0 :: ws) (h : parseO l = some c) :
    w0 = wordL c.kind ∧ (1 ≤ c.kind ∧ c.kind ≤ 11) ∧ ws.length = (placesO c.kind).length ∧ (∀ s ∈ ws, numO s ≠ none) ∧ ofF c.kind (ws.map numV) = c ∧ lineB c = true ∧ lineL c = l := by
  obtain ⟨h1, h2⟩ := parse_is.1 h
  have hp := lineB_parts h1
  have hwl := words_line h1
  rw [h2, hw] at hwl
  simp only [List.cons.injEq] at hwl
  obtain ⟨rfl, rfl⟩ := hwl
  have hr : ∀ x ∈ numsL c, numO (numL x) = some x := fun x hx => by
    obtain ⟨k, hk⟩ := List.mem_iff_getElem?.1 hx
    have hlt : k < (numsL c).length := by
      rcases Nat.lt_or_ge k (numsL c).length with h | h
      · exact h
      · simp [List.getElem?_eq_none h] at hk
    have h3 := firstsB_at _ k hp.2.2 hlt
    rw [List.getD_eq_getElem?_getD, hk] at h3
    unfold numOkB at h3
    have h4 := inB_iff.1 h3
    have h5 : leastI c k = -9 ∨ leastI c k = 0 := by unfold leastI; split <;> simp
    simp only [Option.getD_some] at h4
    exact numO_num (by omega) h4.2
  refine ⟨rfl, hp.1, by rw [List.length_map, places_length], ?_, ?_, h1, h2⟩
  · intro s hs
    obtain ⟨x, hx, rfl⟩ := List.mem_map.1 hs
    rw [hr x hx]
    simp
  · have e2 : ((numsL c).map numL).map numV = numsL c := by
      rw [List.map_map]
      conv => rhs; rw [← List.map_id (numsL c)]
      exact List.map_congr_left fun x hx => by show numV (numL x) = x; unfold numV; rw [hr x hx]; rfl
    rw [e2, of_nums hp.2.1]
end Go.Proofs.YtpikopdfkhagmaaGreatDoor
