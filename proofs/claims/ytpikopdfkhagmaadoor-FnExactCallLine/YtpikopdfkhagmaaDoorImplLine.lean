/-
  The program's CallLine: which calls have a line, the words, the places of the numbers, the line.
-/
import Derived.Test.YtpikopdfkhagmaaDoorImplLineP
import Derived.Test.YtpikopdfkhagmaaDoorImplCall
import Derived.Test.YtpikopdfkhagmaaDoorIn
import Derived.Test.YtpikopdfkhagmaaDoorDeskCall
import Derived.Test.YtpikopdfkhagmaaDoorDeskStr
import Derived.Test.YtpikopdfkhagmaaDoorOwn
import Derived.Deep.RegionHeld3
namespace Go.Proofs.YtpikopdfkhagmaaDoor
open Go.RowKit
attribute [local go_sem] Keeps.refl Keeps.alloc Keeps.drew Keeps.drewN

set_option maxRecDepth 100000 in
set_option maxHeartbeats 4000000 in
theorem implHasLine_any (c : Cl) (w : World) :
    Calls Tryd.prog 22 #[ck c] w fun e w' => e = .returned (.bool (lineB c)) ∧ Keeps w w' := by
  rw [← has_line]
  have kW := blkK w (.cells (cc c) 26)
  have hb := blkR w (cc c) 26
  obtain ⟨m, Hm⟩ : ∃ m, Hid (leastK c = m) := ⟨_, rfl⟩
  go_enter Tryd.func22, Tryd.ntmps22
  go_upto_region 2 with fail
  generalize w.alloc (.cells (cc c) 26) = W at *
  obtain ⟨LB, HLB⟩ : ∃ b, Hid ((c.kind == 3 || c.kind == 9) = b) := ⟨_, rfl⟩
  go_cut [11] (fun v wx => v = .bool LB ∧ wx = W)
  case first =>
    cases c3 : (c.kind == 3)
    · cases c9 : (c.kind == 9)
      · obtain rfl : LB = false := by rw [← HLB.out, c3, c9]; rfl
        go_wp2
        go_meet
        exact ⟨rfl, rfl⟩
      · obtain rfl : LB = true := by rw [← HLB.out, c3, c9]; rfl
        go_wp2
        go_meet
        exact ⟨rfl, rfl⟩
    · obtain rfl : LB = true := by rw [← HLB.out, c3]; rfl
      go_wp2
      go_meet
      exact ⟨rfl, rfl⟩
  case rest =>
  obtain ⟨rfl, rfl⟩ := hcut
  generalize wc = wx at *
  go_upto_if 11 with fail
  go_cut [3] (fun v wy => v = .int .i64 m ∧ wy = wx)
  case first =>
    cases LB
    · obtain rfl : m = 0 := by rw [← Hm.out]; unfold leastK; rw [HLB.out]; rfl
      go_wp2
      go_meet
      exact ⟨rfl, rfl⟩
    · obtain rfl : m = -9 := by rw [← Hm.out]; unfold leastK; rw [HLB.out]; rfl
      go_wp2
      go_meet
      exact ⟨rfl, rfl⟩
  case rest =>
  obtain ⟨rfl, rfl⟩ := hcut
  cases q0 : callB c
  · have Hr : Hid (hasLB c = false) := by show _ = _; unfold hasLB; rw [q0]; rfl
    go_wp2_with (go_at_call 39; refine (implCallOk_says c _).mono ?_; rintro e w1 ⟨rfl, k1⟩; rw [q0])
    go_ret
    exact ⟨by rw [Hr.out]; rfl, kW.trans k1⟩
  cases q1 : inB c.no 0 9999999
  · have Hr : Hid (hasLB c = false) := by show _ = _; unfold hasLB; rw [q0, q1]; rfl
    go_wp2_with (first
      | (go_at_call 39; refine (implCallOk_says c _).mono ?_; rintro e w1 ⟨rfl, k1⟩; rw [q0])
      | (go_at_call 40; refine (isWithin_any _ _ _ _).mono ?_; rintro e w' ⟨rfl, hw'⟩; have hw2 := hw'.symm; subst hw2; clear hw'; rw [q1]))
    go_ret
    exact ⟨by rw [Hr.out]; rfl, kW.trans k1⟩
  cases q2 : inB c.cpu 0 9999999
  · have Hr : Hid (hasLB c = false) := by show _ = _; unfold hasLB; rw [q0, q1, q2]; rfl
    go_wp2_with (first
      | (go_at_call 39; refine (implCallOk_says c _).mono ?_; rintro e w1 ⟨rfl, k1⟩; rw [q0])
      | (go_at_call 40; refine (isWithin_any _ _ _ _).mono ?_; rintro e w' ⟨rfl, hw'⟩; have hw2 := hw'.symm; subst hw2; clear hw'; first | rw [q1] | rw [q2]))
    go_ret
    exact ⟨by rw [Hr.out]; rfl, kW.trans k1⟩
  have Hm2 : Hid (inB c.a (leastK c) 9999999 = inB c.a m 9999999) := by show _ = _; rw [Hm.out]
  cases q3 : inB c.a m 9999999
  · have Hr : Hid (hasLB c = false) := by show _ = _; unfold hasLB; rw [Hm2.out, q0, q1, q2, q3]; rfl
    go_wp2_with (first
      | (go_at_call 39; refine (implCallOk_says c _).mono ?_; rintro e w1 ⟨rfl, k1⟩; rw [q0])
      | (go_at_call 40; refine (isWithin_any _ _ _ _).mono ?_; rintro e w' ⟨rfl, hw'⟩; have hw2 := hw'.symm; subst hw2; clear hw'; first | rw [q1] | rw [q2] | rw [q3]))
    go_ret
    exact ⟨by rw [Hr.out]; rfl, kW.trans k1⟩
  have Hr : Hid (hasLB c = inB c.b 0 9999999) := by show _ = _; unfold hasLB; rw [Hm2.out, q0, q1, q2, q3]; rfl
  obtain ⟨q, Hq⟩ : ∃ q, Hid (inB c.b 0 9999999 = q) := ⟨_, rfl⟩
  go_wp2_with (first
    | (go_at_call 39; refine (implCallOk_says c _).mono ?_; rintro e w1 ⟨rfl, k1⟩; rw [q0])
    | (go_at_call 40; refine (isWithin_any _ _ _ _).mono ?_; rintro e w' ⟨rfl, hw'⟩; have hw2 := hw'.symm; subst hw2; clear hw'; first | rw [q1] | rw [q2] | rw [q3] | rw [Hq.out]))
  go_ret
  exact ⟨by rw [Hr.out, Hq.out]; rfl, kW.trans k1⟩
set_option maxRecDepth 100000 in
set_option maxHeartbeats 2000000 in
theorem implCallWords_any (w : World) :
    Calls Tryd.prog 23 #[] w fun e w' => ∃ b, e = .returned (.slice (some ⟨b, 0, none⟩) 12 12) ∧ (∀ k, k < 12 → w'.cell? ⟨b, k, none⟩ = some (strV (wordL k))) ∧ Keeps w w' := by
  go_enter Tryd.func23, Tryd.ntmps23
  go_wp2
  go_ret
  refine ⟨_, rfl, fun k hk => ?_, (Keeps.refl w).alloc _⟩
  have h2 : k = 0 ∨ k = 1 ∨ k = 2 ∨ k = 3 ∨ k = 4 ∨ k = 5 ∨ k = 6 ∨ k = 7 ∨ k = 8 ∨ k = 9 ∨ k = 10 ∨ k = 11 := by omega
  rcases h2 with rfl | rfl | rfl | rfl | rfl | rfl | rfl | rfl | rfl | rfl | rfl | rfl <;> simp [go_sem, wordL]
/-- A place of a call. -/
abbrev pc (cb : Nat) (o : Nat) : Array Value := #[.pointer (some ⟨cb, o, none⟩)]
theorem pc_size (cb o : Nat) : (pc cb o).size = 1 := rfl
theorem pc_one (cb o : Nat) : ∀ u ∈ (pc cb o).toList, u.oneCell' = true := by
  intro u hu
  obtain rfl : u = .pointer (some ⟨cb, o, none⟩) := by simpa using hu
  rfl
theorem Own.none {α : Type} (e : TypeId) (sz : Nat) (c : α → Array Value) (w : World) (base : Nat) : Own e sz c w base (.slice .none 0 0) [] := by
  refine ⟨?_, .inl ⟨rfl, rfl⟩⟩
  simp [flatC]
end Go.Proofs.YtpikopdfkhagmaaDoor
