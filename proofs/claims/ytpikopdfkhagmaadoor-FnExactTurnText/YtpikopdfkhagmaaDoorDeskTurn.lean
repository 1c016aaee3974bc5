/-
  The model's TurnText.
-/
import Derived.Test.YtpikopdfkhagmaaDoorDeskTurnP
import Derived.Test.YtpikopdfkhagmaaDoorDeskNum
import Derived.Test.YtpikopdfkhagmaaDoorIn
import Derived.Test.YtpikopdfkhagmaaDoorSysRows
import Derived.Deep.RegionHeld3
namespace Go.Proofs.YtpikopdfkhagmaaDoor
open Go.RowKit
attribute [local go_sem] Keeps.refl Keeps.alloc Keeps.drew Keeps.drewN

set_option maxRecDepth 100000 in
set_option maxHeartbeats 4000000 in
theorem specTurnText_any (a : Option Addr) (n cap : Nat) (xs : List Tn) (w : World) (hn : xs.length = n) (hl : n ≤ 1048576) (hs : Rs w a xs) :
    Calls Tryd.prog 13 #[.slice a n cap] w fun e w' => e = .returned (strV (turnsL xs)) ∧ Keeps w w' := by
  have Hn : Hid (xs.length = n) := hn
  clear hn
  go_enter Tryd.func13, Tryd.ntmps13
  go_wp2
  go_loopw [3, 4] (fun o i wr => ∃ (k : Nat) (l : List UInt8), k ≤ n ∧ l.length ≤ 40 * k ∧ i = .int .i64 k ∧ o = strV l ∧ Hid (l = textK xs k) ∧ Hid ((xs.take k).all turnNumB = true) ∧ Keeps w wr) (fun _ i _ => n - (intOf i).toNat)
  case atStart => exact ⟨0, [], Nat.zero_le _, by simp, rfl, rfl, rfl, by show _ = _; simp, Keeps.refl _⟩
  case round =>
    obtain ⟨k, l, hk, hll, rfl, rfl, HE, HA, hK⟩ := hrel
    by_cases hlt : k < n
    · obtain ⟨t, ht⟩ := some_in (xs := xs) (k := k) (by rw [Hn.out]; exact hlt)
      obtain ⟨b, off, rfl, r0, r1⟩ := hs.at ht (by omega)
      have hlt' : (k : Int) < (n : Int) := by omega
      have HT : Hid (xs[k]? = some t) := ht
      clear hs ht
      go_upto_region 6 with fail
      have kX : Keeps w (wr.alloc (.cells (tnc t) 57)) := hK.alloc _
      have hX := blkR wr (tnc t) 57
      change Code.wp _ _ _ _ (wr.alloc (.cells (tnc t) 57))
      clear r0 r1
      generalize wr.alloc (.cells (tnc t) 57) = X at *
      cases q1 : inB t.cpu 0 1000
      · have HR : Hid (turnsL xs = []) := turnsL_no HT.out (by unfold turnNumB; rw [q1]; rfl)
        go_wp2_with (go_at_call 20; refine (l1In_any _ _ _ _).mono ?_; rintro e w' ⟨rfl, hw'⟩; have hw2 := hw'.symm; subst hw2; clear hw'; rw [q1])
        go_ret
        exact ⟨by rw [HR.out]; rfl, kX⟩
      cases q2 : inB t.ctx 0 1000
      · have HR : Hid (turnsL xs = []) := turnsL_no HT.out (by unfold turnNumB; rw [q1, q2]; rfl)
        go_wp2_with (go_at_call 20; refine (l1In_any _ _ _ _).mono ?_; rintro e w' ⟨rfl, hw'⟩; have hw2 := hw'.symm; subst hw2; clear hw'; first | rw [q1] | rw [q2])
        go_ret
        exact ⟨by rw [HR.out]; rfl, kX⟩
      cases q3 : inB t.exe 0 1000
      · have HR : Hid (turnsL xs = []) := turnsL_no HT.out (by unfold turnNumB; rw [q1, q2, q3]; rfl)
        go_wp2_with (go_at_call 20; refine (l1In_any _ _ _ _).mono ?_; rintro e w' ⟨rfl, hw'⟩; have hw2 := hw'.symm; subst hw2; clear hw'; first | rw [q1] | rw [q2] | rw [q3])
        go_ret
        exact ⟨by rw [HR.out]; rfl, kX⟩
      have hok : turnNumB t = true := by unfold turnNumB; rw [q1, q2, q3]; rfl
      have HA2 : Hid ((xs.take (k + 1)).all turnNumB = true) := by
        show _ = _
        rw [List.take_add_one, HT.out, List.all_append, HA.out]
        simp [hok]
      have e1 := inB_iff.1 q1
      have e2 := inB_iff.1 q2
      have e3 := inB_iff.1 q3
      obtain ⟨N1, HN1⟩ : ∃ x : List UInt8, Hid (numL t.cpu = x) := ⟨_, rfl⟩
      obtain ⟨N2, HN2⟩ : ∃ x : List UInt8, Hid (numL t.ctx = x) := ⟨_, rfl⟩
      obtain ⟨N3, HN3⟩ : ∃ x : List UInt8, Hid (numL t.exe = x) := ⟨_, rfl⟩
      have b1 : N1.length ≤ 9 := by rw [← HN1.out]; exact numL_length (by omega) (by omega)
      have b2 : N2.length ≤ 9 := by rw [← HN2.out]; exact numL_length (by omega) (by omega)
      have b3 : N3.length ≤ 9 := by rw [← HN3.out]; exact numL_length (by omega) (by omega)
      have c1 : ∀ W, Calls Tryd.prog 21 #[.int .i64 t.cpu] W fun e w' => e = .returned (strV N1) ∧ Keeps W w' := fun W => by rw [← HN1.out]; exact l14Num_any _ W (by omega) (by omega)
      have c2 : ∀ W, Calls Tryd.prog 21 #[.int .i64 t.ctx] W fun e w' => e = .returned (strV N2) ∧ Keeps W w' := fun W => by rw [← HN2.out]; exact l14Num_any _ W (by omega) (by omega)
      have c3 : ∀ W, Calls Tryd.prog 21 #[.int .i64 t.exe] W fun e w' => e = .returned (strV N3) ∧ Keeps W w' := fun W => by rw [← HN3.out]; exact l14Num_any _ W (by omega) (by omega)
      obtain ⟨P0, hP0⟩ : ∃ x : List UInt8, l ++ (if k = 0 then [] else [32]) = x := ⟨_, rfl⟩
      have HP0 : Hid (l ++ (if k = 0 then [] else [32]) = P0) := hP0
      clear hP0
      have p0 : P0.length ≤ 40 * k + 1 := by rw [← HP0.out]; split <;> simp <;> omega
      obtain ⟨P1, HP1⟩ : ∃ x : List UInt8, Hid (P0 ++ N1 = x) := ⟨_, rfl⟩
      have p1 : P1.length ≤ 40 * k + 10 := by rw [← HP1.out]; simp; omega
      obtain ⟨P2, hP2⟩ : ∃ x : List UInt8, P1 ++ [58] = x := ⟨_, rfl⟩
      have HP2 : Hid (P1 ++ [58] = P2) := hP2
      clear hP2
      have p2 : P2.length ≤ 40 * k + 11 := by rw [← HP2.out]; simp; omega
      obtain ⟨P3, HP3⟩ : ∃ x : List UInt8, Hid (P2 ++ N2 = x) := ⟨_, rfl⟩
      have p3 : P3.length ≤ 40 * k + 20 := by rw [← HP3.out]; simp; omega
      obtain ⟨P4, hP4⟩ : ∃ x : List UInt8, P3 ++ [47] = x := ⟨_, rfl⟩
      have HP4 : Hid (P3 ++ [47] = P4) := hP4
      clear hP4
      have p4 : P4.length ≤ 40 * k + 21 := by rw [← HP4.out]; simp; omega
      obtain ⟨P5, HP5⟩ : ∃ x : List UInt8, Hid (P4 ++ N3 = x) := ⟨_, rfl⟩
      have p5 : P5.length ≤ 40 * k + 30 := by rw [← HP5.out]; simp; omega
      have a1 : ∀ W : World, (Op.stringOp .add ⟨P0.toArray⟩ ⟨N1.toArray⟩).run Tryd.prog W = .ok (strV P1) W := fun W => by rw [run_addStr W _ _ (by omega) (by omega), HP1.out]
      have a2 : ∀ W : World, (Op.stringOp .add ⟨P1.toArray⟩ ⟨#[58]⟩).run Tryd.prog W = .ok (strV P2) W := fun W => by rw [show (#[58] : Array UInt8) = [58].toArray from rfl, run_addStr W _ _ (by omega) (by simp), HP2.out]
      have a3 : ∀ W : World, (Op.stringOp .add ⟨P2.toArray⟩ ⟨N2.toArray⟩).run Tryd.prog W = .ok (strV P3) W := fun W => by rw [run_addStr W _ _ (by omega) (by omega), HP3.out]
      have a4 : ∀ W : World, (Op.stringOp .add ⟨P3.toArray⟩ ⟨#[47]⟩).run Tryd.prog W = .ok (strV P4) W := fun W => by rw [show (#[47] : Array UInt8) = [47].toArray from rfl, run_addStr W _ _ (by omega) (by simp), HP4.out]
      have a5 : ∀ W : World, (Op.stringOp .add ⟨P4.toArray⟩ ⟨N3.toArray⟩).run Tryd.prog W = .ok (strV P5) W := fun W => by rw [run_addStr W _ _ (by omega) (by omega), HP5.out]
      have HEn : Hid (textK xs (k + 1) = if t.exe == t.ctx then P3 else P5) := by
        show textK xs k ++ _ ++ turnL (xs.getD k ⟨0, 0, 0⟩) = _
        rw [List.getD_eq_getElem?_getD, HT.out, ← HE.out, HP0.out]
        show P0 ++ turnL t = _
        unfold turnL
        rw [HN1.out, HN2.out, HN3.out, ← HP5.out, ← HP4.out, ← HP3.out, ← HP2.out, ← HP1.out]
        split <;> simp [List.append_assoc]
      go_upto_if 33 with (go_at_call 20; refine (l1In_any _ _ _ _).mono ?_; rintro e w' ⟨rfl, hw'⟩; have hw2 := hw'.symm; subst hw2; clear hw'; first | rw [q1] | rw [q2] | rw [q3])
      go_cut [3] (fun c wx => c = strV P0 ∧ wx = X)
      case first =>
        by_cases hk0 : k = 0
        · have hz : decide ((0 : Int) < (k : Int)) = false := by simp; omega
          have : P0 = l := by rw [← HP0.out, if_pos hk0]; simp
          subst this
          go_wp2
          go_meet
          exact ⟨rfl, rfl⟩
        · have hz : decide ((0 : Int) < (k : Int)) = true := by simp; omega
          have a0 : ∀ W : World, (Op.stringOp .add ⟨l.toArray⟩ ⟨#[32]⟩).run Tryd.prog W = .ok (strV P0) W := fun W => by rw [show (#[32] : Array UInt8) = [32].toArray from rfl, run_addStr W _ _ (by omega) (by simp), ← HP0.out, if_neg hk0]
          go_wp2
          go_meet
          exact ⟨rfl, rfl⟩
      case rest =>
      obtain ⟨rfl, rfl⟩ := hcut
      clear q1 q2 q3 HP0 HP1 HP2 HP3 HP4 HP5 HN1 HN2 HN3
      go_upto_region 10 with fail
      refine wp_region_held_drew (S := (fun w' => Keeps wc w')) (by kernel_rfl) ?_ (fun hHeld => ?_)
      · exact (Keeps.refl wc).drew
      refine Plan.go [0, 1, 2, 6, 7] ?_
      iterate 5 (refine takeL (by simp only [opsAt]; rfl) (by kernel_rfl) (by exact fun _ _ _ h => h) (by rfl) (by assumption) (fun w _ => by go_simp; try (with_reducible rfl)) ?_; try simp only [putAtH])
      refine Plan.nil ?_
      refine callH 3 (by kernel_rfl) (by simp only [opsAt]; rfl) (fun K hK => ?_)
      go_simp
      first
        | (have k0 := c1; clear c1; go_at_call 21; refine (k0 _).mono ?_; rintro e w3 ⟨rfl, k3⟩; clear k0)
        | (have k0 := c2; clear c2; go_at_call 21; refine (k0 _).mono ?_; rintro e w4 ⟨rfl, k4⟩; clear k0)
      try go_wp2_with fail
      refine hK.out _ _ ?_ (fun hHeld => ?_)
      · exact Keeps.trans (by assumption) (by assumption)
      clear hK K
      try simp only [putAtH]
      refine Plan.go [4, 5] ?_
      iterate 2 (refine takeL (by simp only [opsAt]; rfl) (by kernel_rfl) (by exact fun _ _ _ h => h) (by rfl) (by assumption) (fun w _ => by go_simp; try (with_reducible rfl)) ?_; try simp only [putAtH])
      refine Plan.nil ?_
      refine callH 8 (by kernel_rfl) (by simp only [opsAt]; rfl) (fun K hK => ?_)
      go_simp
      first
        | (have k0 := c1; clear c1; go_at_call 21; refine (k0 _).mono ?_; rintro e w3 ⟨rfl, k3⟩; clear k0)
        | (have k0 := c2; clear c2; go_at_call 21; refine (k0 _).mono ?_; rintro e w4 ⟨rfl, k4⟩; clear k0)
      try go_wp2_with fail
      refine hK.out _ _ ?_ (fun hHeld => ?_)
      · exact Keeps.trans (by assumption) (by assumption)
      clear hK K
      try simp only [putAtH]
      refine Plan.go [9, 10] ?_
      iterate 2 (refine takeL (by simp only [opsAt]; rfl) (by kernel_rfl) (by exact fun _ _ _ h => h) (by rfl) (by assumption) (fun w _ => by go_simp; try (with_reducible rfl)) ?_; try simp only [putAtH])
      refine Plan.nil ?_
      refine wpAnyH_done (by kernel_rfl) ?_ _
      have K4 : Keeps wc w4 := by assumption
      have hX4 : ∀ w', Keeps w4 w' → ∀ j, w'.cell? ⟨wr.heap.size, j, none⟩ = (tnc t)[j]? := fun w' h => hX w' (K4.trans h)
      clear hX k3 k4 hHeld
      cases q4 : (t.exe == t.ctx)
      · have HF : Hid (P5 = textK xs (k + 1)) := by show _ = _; rw [HEn.out, q4]; rfl
        have hne : (t.exe != t.ctx) = true := by simp [bne, q4]
        go_wp2_with (go_at_call 21; refine (c3 _).mono ?_; rintro e w5 ⟨rfl, k5⟩)
        exact ⟨⟨k + 1, P5, by omega, by omega, by go_num, rfl, HF, HA2, (kX.trans K4).trans k5⟩, by simp only [intOf]; omega⟩
      · have HF : Hid (P3 = textK xs (k + 1)) := by show _ = _; rw [HEn.out, q4]; rfl
        have hne : (t.exe != t.ctx) = false := by simp [bne, q4]
        go_wp2
        exact ⟨⟨k + 1, P3, by omega, by omega, by go_num, rfl, HF, HA2, kX.trans K4⟩, by simp only [intOf]; omega⟩
    · have hlt' : decide ((k : Int) < (n : Int)) = false := by simp; omega
      have HR : Hid (turnsL xs = l) := by
        have h1 := HA.out
        rw [List.take_of_length_le (by rw [Hn.out]; omega)] at h1
        show _ = _
        unfold turnsL
        rw [if_pos h1, Hn.out, show n = k from by omega]
        exact HE.out.symm
      go_wp2
      go_ret
      exact ⟨by rw [HR.out]; rfl, hK⟩
end Go.Proofs.YtpikopdfkhagmaaDoor
