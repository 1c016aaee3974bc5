/-
  The law FnIdle: its walk.
-/
import Derived.Test.YthpdlbcdbncnhaaTraceDraw
import Derived.Test.YthpdlbcdbncnhaaTraceRow
import Derived.Test.YthpdlbcdbncnhaaImplTraceI
import Derived.Test.YthpdlbcdbncnhaaImplTraceU
import Derived.Test.YthpdlbcdbncnhaaGSys2
import Derived.Deep.DeepCutAuto
namespace Go.Proofs.Ythpdlbcdbncnhaa
open Go.RowKit
attribute [local go_sem] Keeps.refl Keeps.alloc Keeps.drew Keeps.drewN

theorem useds_le (l : List Tn) : ∀ k : Nat, useds l k ≤ l.length := fun k => by rw [useds_eq]; exact List.countP_le_length
set_option maxRecDepth 100000 in
set_option linter.unusedSimpArgs false in
set_option maxHeartbeats 8000000 in
theorem idle_walk (a : Option Addr) (n cap : Nat) (w : World) (hm : n ≤ maxLen) (hb : ∀ g, w.heap.size ≤ g → Bytes g w a n) :
    Calls Try.prog 4 #[.slice a n cap] w fun e w' => e = .returned (.bool true) ∧ Keeps w w' := by
  by_cases hn : n ≤ 1048576
  case neg =>
    have hd : decide (1048576 < (n : Int)) = true := by simp; omega
    go_enter Try.func4, Try.ntmps4
    go_wp2_with (go_at_call 10; refine (big_any _ _ _ _ hm).mono ?_; rintro e w1 ⟨rfl, rfl⟩)
    go_ret
    exact ⟨rfl, Keeps.refl _⟩
  have hd : decide (1048576 < (n : Int)) = false := by simp; omega
  have HB : Hid (∀ g, w.heap.size ≤ g → Bytes g w a n) := hb
  clear hb
  go_enter Try.func4, Try.ntmps4
  go_wp2_with fail
  refine (big_any _ _ _ _ hm).mono ?_
  rintro e w0 ⟨rfl, rfl⟩
  rw [hd]
  go_upto_region 4 with (go_at_call 11; refine (drawIdleOn_any a n cap _ hn HB.out).mono ?_; rintro e w1 ⟨xs, xa, xn, xc, z, rfl, hx, hx2, hx3, o1, k1⟩)
  have Hx : Hid (xs.length = xn) := hx
  have HT : Hid (∀ t ∈ xs, turnIn t) := hx3
  have R1 : Hid (Rs w1 xa xs) := rowLies o1
  have hxc : xn ≤ xc := rowCap o1
  obtain ⟨m, Hm⟩ : ∃ m, Hid (idleN xs z = m) := ⟨_, rfl⟩
  have hml : m ≤ 6000 := by rw [← Hm.out]; refine Nat.le_trans List.countP_le_length ?_; omega
  have hmm : ((m : Int) != (m : Int)) = false := by simp
  clear hx hx3 o1 hd HB
  go_upto_region 5 with (go_at_call 8; refine (implIdleOn_any xa xn xc xs z _ Hx.out (by omega) hxc R1.out).mono ?_; rintro e w2 ⟨rfl, k2⟩; rw [Hm.out])
  go_upto_region 7 with (go_at_call 6; refine (specIdleOn_any xa xn xc xs z _ Hx.out (by unfold maxLen; omega) (R1.out.keeps k2)).mono ?_; rintro e w3 ⟨rfl, k3⟩; rw [Hm.out])
  have K3 : Hid (Keeps w0 w3) := (k1.trans k2).trans k3
  have R3 : Hid (Rs w3 xa xs) := (R1.out.keeps k2).keeps k3
  clear k1 k2 k3 R1 hmm
  have O0 : Hid (Own 34 3 tnc (w3.alloc (.cells #[] 34)) w3.heap.size (.slice (some ⟨w3.heap.size, 0, none⟩) 0 0) []) := Own.new 34 3 tnc _ (Nat.le_refl _)
  obtain ⟨M, HM⟩ : ∃ M, Hid (mineL xs z = M) := ⟨_, rfl⟩
  go_upto_region 9 with fail
  go_loopw [6, 7] (fun o i wr => ∃ (k : Nat) (ys : List Tn), k ≤ xn ∧ i = .int .i64 k ∧ ys.length ≤ k ∧ Hid (ys = (xs.take k).filter (onP z)) ∧ Hid (Own 34 3 tnc wr w3.heap.size o ys) ∧ Keeps w3 wr) (fun _ i _ => xn - (intOf i).toNat)
  case atStart => exact ⟨0, [], Nat.zero_le _, rfl, by simp, by show _ = _; simp, O0, (Keeps.refl _).alloc _⟩
  case round =>
    obtain ⟨k, ys, hk, rfl, hyl, HY, O, hK⟩ := hrel
    clear O0
    by_cases hlt : k < xn
    · obtain ⟨t, ht⟩ := some_in (xs := xs) (k := k) (by rw [Hx.out]; exact hlt)
      obtain ⟨b, off, rfl, r0, r1⟩ := R3.out.at ht (by omega)
      have hlt' : (k : Int) < (xn : Int) := by omega
      have Hstep := filter_step (onP z) ht
      rw [← HY.out] at Hstep
      have HS : Hid ((xs.take (k + 1)).filter (onP z) = ys ++ (if onP z t then [t] else [])) := Hstep
      clear ht Hstep
      cases c1 : (t.cpu == z)
      · have Hy : Hid (ys = (xs.take (k + 1)).filter (onP z)) := by show _ = _; rw [HS.out]; simp [onP, c1]
        clear HS
        go_wp2
        exact ⟨⟨k + 1, ys, by omega, by go_num, by omega, Hy, O, hK⟩, by simp only [intOf]; omega⟩
      have Hy : Hid (ys ++ [t] = (xs.take (k + 1)).filter (onP z)) := by show _ = _; rw [HS.out]; simp [onP, c1]
      clear HS
      go_wp2_with (at_builtin; (refine wpList_push rfl _ _ 25 rfl w3 34 (.agg (tnc Tn.zero)) 3 24 tnc Try.underlying25 (by kernel_rfl) rfl (by decide) tnc_size tnc_one _ ys rfl wr O.out hK ((Keeps.refl _).alloc _) t _ 1 (Blk.new _ _ _) rfl ?c1 ?c2 ?_))
      case c1 => unfold maxLen; omega
      case c2 => omega
      intro v' w5 own5 k5 _
      have HO : Hid (Own 34 3 tnc w5 w3.heap.size v' (ys ++ [t])) := own5
      clear own5 O
      go_wp2
      exact ⟨⟨k + 1, ys ++ [t], by omega, by go_num, by simp; omega, Hy, HO, k5⟩, by simp only [intOf]; omega⟩
    · have hlt' : decide ((k : Int) < (xn : Int)) = false := by simp; omega
      have HP : Hid (ys = M) := by
        have h1 := HY.out
        rw [List.take_of_length_le (by have := Hx.out; omega)] at h1
        show _ = _
        rw [h1, ← HM.out]
        rfl
      obtain ⟨ma, mc, e5⟩ := O.out.form tnc_size
      obtain ⟨mn, Hmn⟩ : ∃ mn, Hid (ys.length = mn) := ⟨_, rfl⟩
      rw [Hmn.out] at e5
      subst e5
      have hmn : mn ≤ 6000 := by rw [← Hmn.out]; omega
      have hmc : mn ≤ mc := rowCap O.out
      have RM : Hid (Rs wr ma M) := by show Rs _ _ _; rw [← HP.out]; exact rowLies O.out
      have HMn : Hid (M.length = mn) := by show _ = _; rw [← HP.out]; exact Hmn.out
      have HE : Hid ((m : Int) + useds M 40 = mn) := by
        show _ = _
        have h1 := mine_turns HT.out z
        rw [HM.out, Hm.out, HMn.out] at h1
        omega
      have HI : Hid (idleN M z = m) := by show _ = _; rw [← HM.out, idle_mine, Hm.out]
      have KR : Hid (Keeps w0 wr) := K3.out.trans hK
      clear HY O HP hK hyl K3 R3 HM Hmn HT hk
      go_upto_region 15 with fail
      go_loopw [8, 9] (fun c i wq => ∃ j q : Nat, j ≤ 40 ∧ q ≤ 6000 ∧ i = .int .i64 ((j : Int) + 1) ∧ c = .int .i64 q ∧ Hid (q = useds M j) ∧ Hid (Keeps wr wq)) (fun _ i _ => 41 - (intOf i).toNat)
      case atStart => exact ⟨0, 0, by omega, by omega, rfl, rfl, rfl, Keeps.refl _⟩
      case round =>
        obtain ⟨j, q, hj, hq, rfl, rfl, HQ, hK2⟩ := hrel
        by_cases hlt2 : j < 40
        · have hl2 : decide ((j : Int) + 1 ≤ 40) = true := by simp; omega
          obtain ⟨d, Hd⟩ : ∃ d, Hid (M.countP (ctxP ((j : Int) + 1)) = d) := ⟨_, rfl⟩
          have HN : Hid (q + d = useds M (j + 1)) := by
            show _ = _
            rw [← Hd.out, ← used_ctx M (by omega), HQ.out]
            rfl
          have hqd : q + d ≤ 6000 := by rw [HN.out]; refine Nat.le_trans (useds_le M _) ?_; rw [HMn.out]; omega
          go_wp2_with (go_at_call 12; refine (implUsedBy_any ma mn mc M ((j : Int) + 1) _ HMn.out (by omega) hmc (RM.out.keeps hK2.out) (by omega)).mono ?_; rintro e w7 ⟨rfl, k7⟩; rw [Hd.out])
          exact ⟨⟨j + 1, q + d, by omega, by omega, by go_num, by go_num, HN, hK2.out.trans k7⟩, by simp only [intOf]; omega⟩
        · obtain rfl : j = 40 := by omega
          have hl2 : decide ((40 : Int) + 1 ≤ 40) = false := by decide
          have hsum : ((m : Int) + (q : Int) == (mn : Int)) = true := by have := HE.out; rw [← HQ.out] at this; simp [this]
          have hmm : ((m : Int) == (m : Int)) = true := by simp
          go_wp2_with (go_at_call 8; refine (implIdleOn_any ma mn mc M z _ HMn.out (by omega) hmc (RM.out.keeps hK2.out)).mono ?_; rintro e w8 ⟨rfl, k8⟩; rw [HI.out])
          go_ret
          exact ⟨rfl, (KR.out.trans hK2.out).trans k8⟩
end Go.Proofs.Ythpdlbcdbncnhaa
