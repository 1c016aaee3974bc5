/-
  The model's TurnText.
  The program's TurnText: which turns can be told, the text of one, the text of all.
-/
import Derived.Test.YtpikopdfkhagmaaGreatDoorDeskNum
import Derived.Test.YtpikopdfkhagmaaGreatDoorLate2
import Derived.Test.YtpikopdfkhagmaaGreatDoorSum
import Derived.Deep.RegionHeld3
import Derived.Test.YtpikopdfkhagmaaGreatDoorImplLine
namespace Go.Proofs.YtpikopdfkhagmaaGreatDoor
open Go.RowKit
attribute [local go_sem] Keeps.refl Keeps.alloc Keeps.drew Keeps.drewN

set_option maxRecDepth 100000 in
set_option maxHeartbeats 4000000 in
theorem specTurnText_any (a : Option Addr) (n cap : Nat) (xs : List Tn) (w : World) (hn : xs.length = n) (hl : n ≤ 1048576) (hs : Rs w a xs) :
    Calls Tryz.prog 16 #[.slice a n cap] w fun e w' => e = .returned (strV (turnsL xs)) ∧ Keeps w w' := by
  have Hn : Hid (xs.length = n) := hn
  clear hn
  go_enter Tryz.func16, Tryz.ntmps16
  go_wp2
  go_loopw [3, 4] (fun o i wr => ∃ (k : Nat) (l : List UInt8), k ≤ n ∧ l.length ≤ 40 * k ∧ i = .int .i64 k ∧ o = strV l ∧ Hid (l = textK xs k) ∧ Hid ((xs.take k).all turnNumB = true) ∧ Keeps w wr) (fun _ i _ => n - (intOf i).toNat)
  case atStart => exact ⟨0, [], Nat.zero_le _, by simp, rfl, rfl, rfl, by show _ = _; simp, Keeps.refl _⟩
  case round =>
    obtain ⟨k, l, hk, hll, rfl, rfl, HE, HA, hK⟩ := hrel
    by_cases hlt : k < n
    · obtain ⟨t, ht⟩ := some_in (xs := xs) (k := k) (by rw [Hn.out]; exact hlt)
      obtain ⟨b, off, rfl, r0, r1⟩ := hs.at ht (by omega)
      have hlt' : (k : Int) < (n : Int) := by omega
      have HT : Hid (xs[k]? = some t) := ht
      clear hs ht
      go_upto_region 6 with fail
      have kX : Keeps w (wr.alloc (.cells (tnc t) 71)) := hK.alloc _
      have hX := blkR wr (tnc t) 71
      change Code.wp _ _ _ _ (wr.alloc (.cells (tnc t) 71))
      clear r0 r1
      generalize wr.alloc (.cells (tnc t) 71) = X at *
      cases q1 : inB t.cpu 0 1000
      · have HR : Hid (turnsL xs = []) := turnsL_no HT.out (by unfold turnNumB; rw [q1]; rfl)
        go_wp2_with (go_at_call 29; refine (l1In_any _ _ _ _).mono ?_; rintro e w' ⟨rfl, hw'⟩; have hw2 := hw'.symm; subst hw2; clear hw'; rw [q1])
        go_ret
        exact ⟨by rw [HR.out]; rfl, kX⟩
      cases q2 : inB t.ctx 0 1000
      · have HR : Hid (turnsL xs = []) := turnsL_no HT.out (by unfold turnNumB; rw [q1, q2]; rfl)
        go_wp2_with (go_at_call 29; refine (l1In_any _ _ _ _).mono ?_; rintro e w' ⟨rfl, hw'⟩; have hw2 := hw'.symm; subst hw2; clear hw'; first | rw [q1] | rw [q2])
        go_ret
        exact ⟨by rw [HR.out]; rfl, kX⟩
      cases q3 : inB t.exe 0 1000
      · have HR : Hid (turnsL xs = []) := turnsL_no HT.out (by unfold turnNumB; rw [q1, q2, q3]; rfl)
        go_wp2_with (go_at_call 29; refine (l1In_any _ _ _ _).mono ?_; rintro e w' ⟨rfl, hw'⟩; have hw2 := hw'.symm; subst hw2; clear hw'; first | rw [q1] | rw [q2] | rw [q3])
        go_ret
        exact ⟨by rw [HR.out]; rfl, kX⟩
      have hok : turnNumB t = true := by unfold turnNumB; rw [q1, q2, q3]; rfl
      have HA2 : Hid ((xs.take (k + 1)).all turnNumB = true) := by
        show _ = _
        rw [List.take_add_one, HT.out, List.all_append, HA.out]
        simp [hok]
      have e1 := inB_iff.1 q1
      have e2 := inB_iff.1 q2
      have e3 := inB_iff.1 q3
      obtain ⟨N1, HN1⟩ : ∃ x : List UInt8, Hid (numL t.cpu = x) := ⟨_, rfl⟩
      obtain ⟨N2, HN2⟩ : ∃ x : List UInt8, Hid (numL t.ctx = x) := ⟨_, rfl⟩
      obtain ⟨N3, HN3⟩ : ∃ x : List UInt8, Hid (numL t.exe = x) := ⟨_, rfl⟩
      have b1 : N1.length ≤ 9 := by rw [← HN1.out]; exact numL_length (by omega) (by omega)
      have b2 : N2.length ≤ 9 := by rw [← HN2.out]; exact numL_length (by omega) (by omega)
      have b3 : N3.length ≤ 9 := by rw [← HN3.out]; exact numL_length (by omega) (by omega)
      have c1 : ∀ W, Calls Tryz.prog 30 #[.int .i64 t.cpu] W fun e w' => e = .returned (strV N1) ∧ Keeps W w' := fun W => by rw [← HN1.out]; exact l14Num_any _ W (by omega) (by omega)
      have c2 : ∀ W, Calls Tryz.prog 30 #[.int .i64 t.ctx] W fun e w' => e = .returned (strV N2) ∧ Keeps W w' := fun W => by rw [← HN2.out]; exact l14Num_any _ W (by omega) (by omega)
      have c3 : ∀ W, Calls Tryz.prog 30 #[.int .i64 t.exe] W fun e w' => e = .returned (strV N3) ∧ Keeps W w' := fun W => by rw [← HN3.out]; exact l14Num_any _ W (by omega) (by omega)
      obtain ⟨P0, hP0⟩ : ∃ x : List UInt8, l ++ (if k = 0 then [] else [32]) = x := ⟨_, rfl⟩
      have HP0 : Hid (l ++ (if k = 0 then [] else [32]) = P0) := hP0
      clear hP0
      have p0 : P0.length ≤ 40 * k + 1 := by rw [← HP0.out]; split <;> simp <;> omega
      obtain ⟨P1, HP1⟩ : ∃ x : List UInt8, Hid (P0 ++ N1 = x) := ⟨_, rfl⟩
      have p1 : P1.length ≤ 40 * k + 10 := by rw [← HP1.out]; simp; omega
      obtain ⟨P2, hP2⟩ : ∃ x : List UInt8, P1 ++ [58] = x := ⟨_, rfl⟩
      have HP2 : Hid (P1 ++ [58] = P2) := hP2
      clear hP2
      have p2 : P2.length ≤ 40 * k + 11 := by rw [← HP2.out]; simp; omega
      obtain ⟨P3, HP3⟩ : ∃ x : List UInt8, Hid (P2 ++ N2 = x) := ⟨_, rfl⟩
      have p3 : P3.length ≤ 40 * k + 20 := by rw [← HP3.out]; simp; omega
      obtain ⟨P4, hP4⟩ : ∃ x : List UInt8, P3 ++ [47] = x := ⟨_, rfl⟩
      have HP4 : Hid (P3 ++ [47] = P4) := hP4
      clear hP4
      have p4 : P4.length ≤ 40 * k + 21 := by rw [← HP4.out]; simp; omega
      obtain ⟨P5, HP5⟩ : ∃ x : List UInt8, Hid (P4 ++ N3 = x) := ⟨_, rfl⟩
      have p5 : P5.length ≤ 40 * k + 30 := by rw [← HP5.out]; simp; omega
      have a1 : ∀ W : World, (Op.stringOp .add ⟨P0.toArray⟩ ⟨N1.toArray⟩).run Tryz.prog W = .ok (strV P1) W := fun W => by rw [run_addStr W _ _ (by omega) (by omega), HP1.out]
      have a2 : ∀ W : World, (Op.stringOp .add ⟨P1.toArray⟩ ⟨#[58]⟩).run Tryz.prog W = .ok (strV P2) W := fun W => by rw [show (#[58] : Array UInt8) = [58].toArray from rfl, run_addStr W _ _ (by omega) (by simp), HP2.out]
      have a3 : ∀ W : World, (Op.stringOp .add ⟨P2.toArray⟩ ⟨N2.toArray⟩).run Tryz.prog W = .ok (strV P3) W := fun W => by rw [run_addStr W _ _ (by omega) (by omega), HP3.out]
      have a4 : ∀ W : World, (Op.stringOp .add ⟨P3.toArray⟩ ⟨#[47]⟩).run Tryz.prog W = .ok (strV P4) W := fun W => by rw [show (#[47] : Array UInt8) = [47].toArray from rfl, run_addStr W _ _ (by omega) (by simp), HP4.out]
      have a5 : ∀ W : World, (Op.stringOp .add ⟨P4.toArray⟩ ⟨N3.toArray⟩).run Tryz.prog W = .ok (strV P5) W := fun W => by rw [run_addStr W _ _ (by omega) (by omega), HP5.out]
      have HEn : Hid (textK xs (k + 1) = if t.exe == t.ctx then P3 else P5) := by
        show textK xs k ++ _ ++ turnL (xs.getD k ⟨0, 0, 0⟩) = _
        rw [List.getD_eq_getElem?_getD, HT.out, ← HE.out, HP0.out]
        show P0 ++ turnL t = _
        unfold turnL
        rw [HN1.out, HN2.out, HN3.out, ← HP5.out, ← HP4.out, ← HP3.out, ← HP2.out, ← HP1.out]
        split <;> simp [List.append_assoc]
      go_upto_if 33 with (go_at_call 29; refine (l1In_any _ _ _ _).mono ?_; rintro e w' ⟨rfl, hw'⟩; have hw2 := hw'.symm; subst hw2; clear hw'; first | rw [q1] | rw [q2] | rw [q3])
      go_cut [3] (fun c wx => c = strV P0 ∧ wx = X)
      case first =>
        by_cases hk0 : k = 0
        · have hz : decide ((0 : Int) < (k : Int)) = false := by simp; omega
          have : P0 = l := by rw [← HP0.out, if_pos hk0]; simp
          subst this
          go_wp2
          go_meet
          exact ⟨rfl, rfl⟩
        · have hz : decide ((0 : Int) < (k : Int)) = true := by simp; omega
          have a0 : ∀ W : World, (Op.stringOp .add ⟨l.toArray⟩ ⟨#[32]⟩).run Tryz.prog W = .ok (strV P0) W := fun W => by rw [show (#[32] : Array UInt8) = [32].toArray from rfl, run_addStr W _ _ (by omega) (by simp), ← HP0.out, if_neg hk0]
          go_wp2
          go_meet
          exact ⟨rfl, rfl⟩
      case rest =>
      obtain ⟨rfl, rfl⟩ := hcut
      clear q1 q2 q3 HP0 HP1 HP2 HP3 HP4 HP5 HN1 HN2 HN3
      go_upto_region 10 with fail
      refine wp_region_held_drew (S := (fun w' => Keeps wc w')) (by kernel_rfl) ?_ (fun hHeld => ?_)
      · exact (Keeps.refl wc).drew
      refine Plan.go [0, 1, 2, 6, 7] ?_
      iterate 5 (refine takeL (by simp only [opsAt]; rfl) (by kernel_rfl) (by exact fun _ _ _ h => h) (by rfl) (by assumption) (fun w _ => by go_simp; try (with_reducible rfl)) ?_; try simp only [putAtH])
      refine Plan.nil ?_
      refine callH 3 (by kernel_rfl) (by simp only [opsAt]; rfl) (fun K hK => ?_)
      go_simp
      first
        | (have k0 := c1; clear c1; go_at_call 30; refine (k0 _).mono ?_; rintro e w3 ⟨rfl, k3⟩; clear k0)
        | (have k0 := c2; clear c2; go_at_call 30; refine (k0 _).mono ?_; rintro e w4 ⟨rfl, k4⟩; clear k0)
      try go_wp2_with fail
      refine hK.out _ _ ?_ (fun hHeld => ?_)
      · exact Keeps.trans (by assumption) (by assumption)
      clear hK K
      try simp only [putAtH]
      refine Plan.go [4, 5] ?_
      iterate 2 (refine takeL (by simp only [opsAt]; rfl) (by kernel_rfl) (by exact fun _ _ _ h => h) (by rfl) (by assumption) (fun w _ => by go_simp; try (with_reducible rfl)) ?_; try simp only [putAtH])
      refine Plan.nil ?_
      refine callH 8 (by kernel_rfl) (by simp only [opsAt]; rfl) (fun K hK => ?_)
      go_simp
      first
        | (have k0 := c1; clear c1; go_at_call 30; refine (k0 _).mono ?_; rintro e w3 ⟨rfl, k3⟩; clear k0)
        | (have k0 := c2; clear c2; go_at_call 30; refine (k0 _).mono ?_; rintro e w4 ⟨rfl, k4⟩; clear k0)
      try go_wp2_with fail
      refine hK.out _ _ ?_ (fun hHeld => ?_)
      · exact Keeps.trans (by assumption) (by assumption)
      clear hK K
      try simp only [putAtH]
      refine Plan.go [9, 10] ?_
      iterate 2 (refine takeL (by simp only [opsAt]; rfl) (by kernel_rfl) (by exact fun _ _ _ h => h) (by rfl) (by assumption) (fun w _ => by go_simp; try (with_reducible rfl)) ?_; try simp only [putAtH])
      refine Plan.nil ?_
      refine wpAnyH_done (by kernel_rfl) ?_ _
      have K4 : Keeps wc w4 := by assumption
      have hX4 : ∀ w', Keeps w4 w' → ∀ j, w'.cell? ⟨wr.heap.size, j, none⟩ = (tnc t)[j]? := fun w' h => hX w' (K4.trans h)
      clear hX k3 k4 hHeld
      cases q4 : (t.exe == t.ctx)
      · have HF : Hid (P5 = textK xs (k + 1)) := by show _ = _; rw [HEn.out, q4]; rfl
        have hne : (t.exe != t.ctx) = true := by simp [bne, q4]
        go_wp2_with (go_at_call 30; refine (c3 _).mono ?_; rintro e w5 ⟨rfl, k5⟩)
        exact ⟨⟨k + 1, P5, by omega, by omega, by go_num, rfl, HF, HA2, (kX.trans K4).trans k5⟩, by simp only [intOf]; omega⟩
      · have HF : Hid (P3 = textK xs (k + 1)) := by show _ = _; rw [HEn.out, q4]; rfl
        have hne : (t.exe != t.ctx) = false := by simp [bne, q4]
        go_wp2
        exact ⟨⟨k + 1, P3, by omega, by omega, by go_num, rfl, HF, HA2, kX.trans K4⟩, by simp only [intOf]; omega⟩
    · have hlt' : decide ((k : Int) < (n : Int)) = false := by simp; omega
      have HR : Hid (turnsL xs = l) := by
        have h1 := HA.out
        rw [List.take_of_length_le (by rw [Hn.out]; omega)] at h1
        show _ = _
        unfold turnsL
        rw [if_pos h1, Hn.out, show n = k from by omega]
        exact HE.out.symm
      go_wp2
      go_ret
      exact ⟨by rw [HR.out]; rfl, hK⟩
end Go.Proofs.YtpikopdfkhagmaaGreatDoor
namespace Go.Proofs.YtpikopdfkhagmaaGreatDoor
open Go.RowKit
attribute [local go_sem] Keeps.refl Keeps.alloc Keeps.drew Keeps.drewN

set_option maxRecDepth 100000 in
theorem implCanBeTold_any (t : Tn) (w : World) :
    Calls Tryz.prog 41 #[.agg (tnc t)] w fun e w' => e = .returned (.bool (turnNumB t)) ∧ Keeps w w' := by
  have kW := blkK w (.cells (tnc t) 71)
  have hb := blkR w (tnc t) 71
  cases q1 : inB t.cpu 0 1000
  · have Hr : Hid (turnNumB t = false) := by show _ = _; unfold turnNumB; rw [q1]; rfl
    go_enter Tryz.func41, Tryz.ntmps41
    go_upto_region 1 with fail
    generalize w.alloc (.cells (tnc t) 71) = W at *
    go_wp2_with (go_at_call 50; refine (isWithin_any _ _ _ _).mono ?_; rintro e w' ⟨rfl, hw'⟩; have hw2 := hw'.symm; subst hw2; clear hw'; rw [q1])
    go_ret
    exact ⟨by rw [Hr.out]; rfl, kW⟩
  cases q2 : inB t.ctx 0 1000
  · have Hr : Hid (turnNumB t = false) := by show _ = _; unfold turnNumB; rw [q1, q2]; rfl
    go_enter Tryz.func41, Tryz.ntmps41
    go_upto_region 1 with fail
    generalize w.alloc (.cells (tnc t) 71) = W at *
    go_wp2_with (go_at_call 50; refine (isWithin_any _ _ _ _).mono ?_; rintro e w' ⟨rfl, hw'⟩; have hw2 := hw'.symm; subst hw2; clear hw'; first | rw [q1] | rw [q2])
    go_ret
    exact ⟨by rw [Hr.out]; rfl, kW⟩
  have Hr : Hid (turnNumB t = inB t.exe 0 1000) := by show _ = _; unfold turnNumB; rw [q1, q2]; rfl
  obtain ⟨q, Hq⟩ : ∃ q, Hid (inB t.exe 0 1000 = q) := ⟨_, rfl⟩
  go_enter Tryz.func41, Tryz.ntmps41
  go_upto_region 1 with fail
  generalize w.alloc (.cells (tnc t) 71) = W at *
  go_wp2_with (go_at_call 50; refine (isWithin_any _ _ _ _).mono ?_; rintro e w' ⟨rfl, hw'⟩; have hw2 := hw'.symm; subst hw2; clear hw'; first | rw [q1] | rw [q2] | rw [Hq.out])
  go_ret
  exact ⟨by rw [Hr.out, Hq.out]; rfl, kW⟩
set_option maxRecDepth 100000 in
set_option maxHeartbeats 4000000 in
theorem implText_any (t : Tn) (w : World) (hg : GlobT w) (hok : turnNumB t = true) :
    Calls Tryz.prog 44 #[.agg (tnc t)] w fun e w' => e = .returned (strV (turnL t)) ∧ Keeps w w' := by
  unfold turnNumB at hok
  simp only [Bool.and_eq_true, inB_iff] at hok
  obtain ⟨e1, e2, e3⟩ := hok
  have kW := blkK w (.cells (tnc t) 71)
  have hX := blkR w (tnc t) 71
  have HG : Hid (GlobT (w.alloc (.cells (tnc t) 71))) := hg.keeps kW
  clear hg
  obtain ⟨N1, HN1⟩ : ∃ x : List UInt8, Hid (numL t.cpu = x) := ⟨_, rfl⟩
  obtain ⟨N2, HN2⟩ : ∃ x : List UInt8, Hid (numL t.ctx = x) := ⟨_, rfl⟩
  obtain ⟨N3, HN3⟩ : ∃ x : List UInt8, Hid (numL t.exe = x) := ⟨_, rfl⟩
  have b1 : N1.length ≤ 9 := by rw [← HN1.out]; exact numL_length (by omega) (by omega)
  have b2 : N2.length ≤ 9 := by rw [← HN2.out]; exact numL_length (by omega) (by omega)
  have b3 : N3.length ≤ 9 := by rw [← HN3.out]; exact numL_length (by omega) (by omega)
  obtain ⟨P2, hP2⟩ : ∃ x : List UInt8, N1 ++ [58] = x := ⟨_, rfl⟩
  have HP2 : Hid (N1 ++ [58] = P2) := hP2
  clear hP2
  have p2 : P2.length ≤ 10 := by rw [← HP2.out]; simp; omega
  obtain ⟨P3, HP3⟩ : ∃ x : List UInt8, Hid (P2 ++ N2 = x) := ⟨_, rfl⟩
  have p3 : P3.length ≤ 20 := by rw [← HP3.out]; simp; omega
  obtain ⟨P4, hP4⟩ : ∃ x : List UInt8, [47] ++ N3 = x := ⟨_, rfl⟩
  have HP4 : Hid ([47] ++ N3 = P4) := hP4
  clear hP4
  have p4 : P4.length ≤ 10 := by rw [← HP4.out]; simp; omega
  obtain ⟨P5, HP5⟩ : ∃ x : List UInt8, Hid (P3 ++ P4 = x) := ⟨_, rfl⟩
  have a2 : ∀ W : World, (Op.stringOp .add ⟨N1.toArray⟩ ⟨#[58]⟩).run Tryz.prog W = .ok (strV P2) W := fun W => by rw [show (#[58] : Array UInt8) = [58].toArray from rfl, run_addStr W _ _ (by omega) (by simp), HP2.out]
  have a3 : ∀ W : World, (Op.stringOp .add ⟨P2.toArray⟩ ⟨N2.toArray⟩).run Tryz.prog W = .ok (strV P3) W := fun W => by rw [run_addStr W _ _ (by omega) (by omega), HP3.out]
  have a4 : ∀ W : World, (Op.stringOp .add ⟨#[47]⟩ ⟨N3.toArray⟩).run Tryz.prog W = .ok (strV P4) W := fun W => by rw [show (#[47] : Array UInt8) = [47].toArray from rfl, run_addStr W _ _ (by simp) (by omega), HP4.out]
  have a5 : ∀ W : World, (Op.stringOp .add ⟨P3.toArray⟩ ⟨P4.toArray⟩).run Tryz.prog W = .ok (strV P5) W := fun W => by rw [run_addStr W _ _ (by omega) (by omega), HP5.out]
  have HEn : Hid (turnL t = if t.exe == t.ctx then P3 else P5) := by
    show _ = _
    unfold turnL
    rw [HN1.out, HN2.out, HN3.out, ← HP5.out, ← HP4.out, ← HP3.out, ← HP2.out]
    split <;> simp [List.append_assoc]
  go_enter Tryz.func44, Tryz.ntmps44
  go_upto_region 1 with fail
  generalize w.alloc (.cells (tnc t) 71) = X at *
  have c1 : ∀ W, Keeps X W → Calls Tryz.prog 26 #[.int .i64 t.cpu] W fun e w' => e = .returned (strV N1) ∧ Keeps W w' := fun W k => by rw [← HN1.out]; exact itoa_any _ W (HG.out.keeps k) (by omega) (by omega)
  have c2 : ∀ W, Keeps X W → Calls Tryz.prog 26 #[.int .i64 t.ctx] W fun e w' => e = .returned (strV N2) ∧ Keeps W w' := fun W k => by rw [← HN2.out]; exact itoa_any _ W (HG.out.keeps k) (by omega) (by omega)
  have c3 : ∀ W, Keeps X W → Calls Tryz.prog 26 #[.int .i64 t.exe] W fun e w' => e = .returned (strV N3) ∧ Keeps W w' := fun W k => by rw [← HN3.out]; exact itoa_any _ W (HG.out.keeps k) (by omega) (by omega)
  clear HP2 HP3 HP4 HP5 HN1 HN2 HN3
  refine wp_region_held_drew (S := (fun w' => Keeps X w')) (by kernel_rfl) ?_ (fun hHeld => ?_)
  · exact (Keeps.refl X).drew
  refine Plan.go [0, 1, 4, 5] ?_
  iterate 4 (refine takeL (by simp only [opsAt]; rfl) (by kernel_rfl) (by exact fun _ _ _ h => h) (by rfl) (by assumption) (fun w _ => by go_simp; try (with_reducible rfl)) ?_; try simp only [putAtH])
  refine Plan.nil ?_
  refine callH 2 (by kernel_rfl) (by simp only [opsAt]; rfl) (fun K hK => ?_)
  go_simp
  first
    | (have k0 := c1; clear c1; go_at_call 26; refine (k0 _ (by assumption)).mono ?_; rintro e w3 ⟨rfl, k3⟩; clear k0)
    | (have k0 := c2; clear c2; go_at_call 26; refine (k0 _ (by assumption)).mono ?_; rintro e w4 ⟨rfl, k4⟩; clear k0)
  try go_wp2_with fail
  refine hK.out _ _ ?_ (fun hHeld => ?_)
  · exact Keeps.trans (by assumption) (by assumption)
  clear hK K
  try simp only [putAtH]
  refine takeH 3 (v := ?_) (by simp only [opsAt]; rfl) (by kernel_rfl) (by exact fun _ _ _ h => h) (by rfl) (by assumption) ?_ ?_
  rotate_left
  · (intro w _; go_simp; try (with_reducible rfl))
  try simp only [putAtH]
  refine callH 6 (by kernel_rfl) (by simp only [opsAt]; rfl) (fun K hK => ?_)
  go_simp
  first
    | (have k0 := c1; clear c1; go_at_call 26; refine (k0 _ (by assumption)).mono ?_; rintro e w3 ⟨rfl, k3⟩; clear k0)
    | (have k0 := c2; clear c2; go_at_call 26; refine (k0 _ (by assumption)).mono ?_; rintro e w4 ⟨rfl, k4⟩; clear k0)
  try go_wp2_with fail
  refine hK.out _ _ ?_ (fun hHeld => ?_)
  · exact Keeps.trans (by assumption) (by assumption)
  clear hK K
  try simp only [putAtH]
  refine Plan.go [7, 8] ?_
  iterate 2 (refine takeL (by simp only [opsAt]; rfl) (by kernel_rfl) (by exact fun _ _ _ h => h) (by rfl) (by assumption) (fun w _ => by go_simp; try (with_reducible rfl)) ?_; try simp only [putAtH])
  refine Plan.nil ?_
  refine wpAnyH_done (by kernel_rfl) ?_ _
  have K4 : Keeps X w4 := by assumption
  have hX4 := fun w' (h : Keeps w4 w') => hX w' (K4.trans h)
  have c3' := c3 w4 K4
  clear hX k3 k4 hHeld c3
  cases q4 : (t.exe == t.ctx)
  · have HF : Hid (turnL t = P5) := by show _ = _; rw [HEn.out, q4]; rfl
    have hne : (t.exe != t.ctx) = true := by simp [bne, q4]
    go_wp2_with (go_at_call 26; refine c3'.mono ?_; rintro e w5 ⟨rfl, k5⟩)
    go_ret
    exact ⟨by rw [HF.out]; rfl, (kW.trans K4).trans k5⟩
  · have HF : Hid (turnL t = P3) := by show _ = _; rw [HEn.out, q4]; rfl
    have hne : (t.exe != t.ctx) = false := by simp [bne, q4]
    go_wp2
    go_ret
    exact ⟨by rw [HF.out]; rfl, kW.trans K4⟩
set_option maxRecDepth 100000 in
theorem builderX : Builder.Extra Tryz.prog Tryz.lays169_ren := {
  sizeBuilder := by kernel_rfl
  liesBuilder := by kernel_rfl
  t5 := Tryz.underlying5
  a5 := Tryz.isAgg5
  z5 := Tryz.sizeOf5
  v5 := Tryz.zeroValue5
  infoByte := by kernel_rfl
  cellsByte := by kernel_rfl
  sizeByte := by kernel_rfl
  neB5 := by decide }
theorem heap_new (w : World) (o : Obj) : (w.alloc o).heap[w.heap.size]? = some o := by
  show (w.heap.push o)[w.heap.size]? = some o
  simp
theorem textK_length {xs : List Tn} : ∀ k, (xs.take k).all turnNumB = true → k ≤ xs.length → (textK xs k).length ≤ 40 * k
  | 0, _, _ => by simp [textK]
  | k + 1, h, hk => by
    have hx : xs[k]? = some (xs.getD k ⟨0, 0, 0⟩) := by
      rw [List.getD_eq_getElem?_getD, List.getElem?_eq_getElem (by omega)]
      rfl
    rw [List.take_add_one, hx, List.all_append, Bool.and_eq_true] at h
    have h1 := textK_length k h.1 (by omega)
    have h2 := turnL_length (t := xs.getD k ⟨0, 0, 0⟩) (by simpa using h.2)
    have h3 : (if k = 0 then ([] : List UInt8) else [32]).length ≤ 1 := by split <;> simp
    show ((textK xs k ++ (if k = 0 then [] else [32])) ++ turnL (xs.getD k ⟨0, 0, 0⟩)).length ≤ _
    rw [List.length_append, List.length_append]
    omega
set_option maxRecDepth 100000 in
set_option maxHeartbeats 4000000 in
theorem implTurnText_any (a : Option Addr) (n cap : Nat) (xs : List Tn) (w : World) (hg : GlobT w) (hn : xs.length = n) (hl : n ≤ 1048576) (hs : Rs w a xs) :
    Calls Tryz.prog 15 #[.slice a n cap] w fun e w' => e = .returned (strV (turnsL xs)) ∧ Keeps w w' := by
  have Hn : Hid (xs.length = n) := hn
  have HG : Hid (GlobT w) := hg
  have HS : Hid (Rs w a xs) := hs
  clear hn hg hs
  have kW := blkK w (.cells #[.pointer none, .slice none 0 0] 74)
  have B0 : Hid (Lib.IsBuilder 74 5 w.heap.size w.heap.size (Lib.byteCells []) (w.alloc (.cells #[.pointer none, .slice none 0 0] 74))) := Lib.fresh_isBuilder _ _ w
  go_enter Tryz.func15, Tryz.ntmps15
  go_upto_region 3 with fail
  change Code.wp _ _ _ _ (w.alloc (.cells #[.pointer none, .slice none 0 0] 74))
  generalize w.alloc (.cells #[.pointer none, .slice none 0 0] 74) = W at *
  have HW : Hid (Keeps w W) := kW
  clear kW
  go_loopw [8] (fun i wr => ∃ k : Nat, k ≤ n ∧ i = .int .i64 k ∧ Hid (Lib.IsBuilder 74 5 w.heap.size w.heap.size (Lib.byteCells (textK xs k)) wr) ∧ Hid ((xs.take k).all turnNumB = true) ∧ Hid (Keeps w wr)) (fun i _ => n - (intOf i).toNat)
  case atStart => exact ⟨0, Nat.zero_le _, rfl, B0, by show _ = _; simp, HW⟩
  case round =>
    obtain ⟨k, hk, rfl, HB, HA, hK⟩ := hrel
    by_cases hlt : k < n
    · obtain ⟨t, ht⟩ := some_in (xs := xs) (k := k) (by rw [Hn.out]; exact hlt)
      obtain ⟨b, off, rfl, r0, r1⟩ := (HS.out.keeps hK.out).at ht (by omega)
      have hlt' : (k : Int) < (n : Int) := by omega
      have HT : Hid (xs[k]? = some t) := ht
      have HE : Hid (textK xs (k + 1) = (textK xs k ++ (if k = 0 then [] else [32])) ++ turnL t) := by
        show (textK xs k ++ _) ++ turnL (xs.getD k ⟨0, 0, 0⟩) = _
        rw [List.getD_eq_getElem?_getD, HT.out]
        rfl
      have HLe : Hid ((textK xs k).length ≤ 40 * k) := textK_length k HA.out (by rw [Hn.out]; exact hk)
      clear ht
      go_upto_region 5 with fail
      have kX : Hid (Keeps w (wr.alloc (.cells (tnc t) 71))) := hK.out.alloc _
      have hX := blkR wr (tnc t) 71
      have HO : Hid ((wr.alloc (.cells (tnc t) 71)).heap[wr.heap.size]? = some (.cells (tnc t) 71)) := heap_new wr _
      have HBX : Hid (Lib.IsBuilder 74 5 w.heap.size w.heap.size (Lib.byteCells (textK xs k)) (wr.alloc (.cells (tnc t) 71))) := builder_keeps HB.out ((Keeps.refl wr).alloc _)
      have Hne : Hid (wr.heap.size ≠ w.heap.size) := by
        have h1 := (Keeps.size hK.out)
        rcases HB.out with h | h
        · have := (Array.getElem?_eq_some_iff.1 h.2.choose_spec.1).1
          show _ ≠ _
          omega
        · have := (Array.getElem?_eq_some_iff.1 h.2.choose_spec.1).1
          show _ ≠ _
          omega
      have HGX : Hid (GlobT (wr.alloc (.cells (tnc t) 71))) := HG.out.keeps kX.out
      change Code.wp _ _ _ _ (wr.alloc (.cells (tnc t) 71))
      clear r0 r1 HB hK
      generalize wr.alloc (.cells (tnc t) 71) = X at *
      cases q1 : turnNumB t
      · have HR : Hid (turnsL xs = []) := turnsL_no HT.out q1
        go_wp2_with (go_at_call 41; refine (implCanBeTold_any _ _).mono ?_; rintro e w1 ⟨rfl, k1⟩; rw [q1])
        go_ret
        exact ⟨by rw [HR.out]; rfl, kX.out.trans k1⟩
      have HA2 : Hid ((xs.take (k + 1)).all turnNumB = true) := by
        show _ = _
        rw [List.take_add_one, HT.out, List.all_append, HA.out]
        simp [q1]
      have HL2 : Hid ((turnL t).length ≤ 30) := turnL_length q1
      go_upto_if 17 with (go_at_call 41; refine (implCanBeTold_any _ _).mono ?_; rintro e w1 ⟨rfl, k1⟩; rw [q1])
      have HB1 : Hid (Lib.IsBuilder 74 5 w.heap.size w.heap.size (Lib.byteCells (textK xs k)) w1) := builder_keeps HBX.out k1
      have HO1 : Hid (w1.heap[wr.heap.size]? = some (.cells (tnc t) 71)) := (Below.block k1 _ (Array.getElem?_eq_some_iff.1 HO.out).1).trans HO.out
      have K1 : Hid (Keeps w w1) := kX.out.trans k1
      clear HBX HO kX HGX hX
      go_cut [] (fun wx => Hid (Lib.IsBuilder 74 5 w.heap.size w.heap.size (Lib.byteCells (textK xs k ++ (if k = 0 then [] else [32]))) wx) ∧ Hid (wx.heap[wr.heap.size]? = some (.cells (tnc t) 71)) ∧ Hid (Keeps w wx))
      case first =>
        by_cases hk0 : k = 0
        · have hz : decide ((0 : Int) < (k : Int)) = false := by simp; omega
          have HN : Hid (textK xs k ++ (if k = 0 then [] else [32]) = textK xs k) := by show _ = _; rw [if_pos hk0]; simp
          go_wp2
          go_meet
          exact ⟨by rw [HN.out]; exact HB1, HO1, K1⟩
        · have hz : decide ((0 : Int) < (k : Int)) = true := by simp; omega
          have cW := writeByte_any w.heap.size w.heap.size (Lib.byteCells (textK xs k)) 32 w1 HB1.out (by rw [Lib.byteCells_length]; have := HLe.out; omega) (Keeps.size K1.out)
          have HN : Hid (Lib.byteCells (textK xs k) ++ Lib.byteCells [32] = Lib.byteCells (textK xs k ++ (if k = 0 then [] else [32]))) := by show _ = _; rw [if_neg hk0, Lib.byteCells_append]
          go_wp2_with (go_at_call 42; refine cW.mono ?_; rintro e w2 ⟨⟨v, rfl⟩, h2, b2, o2⟩)
          go_meet
          exact ⟨by rw [← HN.out]; exact h2, o2 _ _ HO1.out (by have := Hne.out; simp [this]) (by intro c fz e; cases e), Below.trans K1.out b2⟩
      case rest =>
      obtain ⟨HB2, HO2, K2⟩ := hcut
      clear HB1 HO1 K1 k1
      generalize wc = Y at *
      have BY : Blk Y wr.heap.size (tnc t) := ⟨(Array.getElem?_eq_some_iff.1 HO2.out).1, fun j => Lib.cell_of_heap HO2.out j, fun j => Lib.frozen_of_heap HO2.out j⟩
      have hY : ∀ w', Keeps Y w' → ∀ j, w'.cell? ⟨wr.heap.size, j, none⟩ = (tnc t)[j]? := fun w' h => (BY.keeps h).cells
      have cT := implText_any t Y (HG.out.keeps K2.out) q1
      clear BY HO2
      go_wp2_with first
        | (go_at_call 44; refine cT.mono ?_; rintro e w3 ⟨rfl, k3⟩)
        | (go_at_call 43; refine (writeString_any w.heap.size w.heap.size _ _ w3 (builder_keeps HB2.out k3) (by rw [Lib.byteCells_length, List.length_append]; have h1 := HLe.out; have h2 := HL2.out; have h3 : (if k = 0 then ([] : List UInt8) else [32]).length ≤ 1 := (by split <;> simp); omega) (Keeps.size (K2.out.trans k3))).mono ?_; rintro e w4 ⟨⟨v, rfl⟩, h4, b4, o4⟩)
      exact ⟨⟨k + 1, by omega, by go_num, by rw [HE.out, Lib.byteCells_append]; exact h4, HA2, Below.trans (K2.out.trans k3) b4⟩, by simp only [intOf]; omega⟩
    · have hlt' : decide ((k : Int) < (n : Int)) = false := by simp; omega
      have HR : Hid (turnsL xs = textK xs k) := by
        have h1 := HA.out
        rw [List.take_of_length_le (by rw [Hn.out]; omega)] at h1
        show _ = _
        unfold turnsL
        rw [if_pos h1, Hn.out, show n = k from by omega]
      have cS := Any.Builder_String_any Tryz.lays169 builderX w.heap.size w.heap.size (textK xs k) wr HB.out (Keeps.size hK.out)
      go_wp2_with (go_at_call 45; refine cS.mono ?_; rintro e w2 ⟨rfl, b2⟩)
      go_ret
      exact ⟨by rw [HR.out]; rfl, Below.trans hK.out b2⟩
end Go.Proofs.YtpikopdfkhagmaaGreatDoor
