/-
  The law FnFloor: its walk, over contracts of the program's functions.
-/
import Derived.Test.YtdndgacaohmdnaaFairLaws2
import Derived.Test.YtdndgacaohmdnaaDrawFloor
import Derived.Test.YtdndgacaohmdnaaTaskEq
import Derived.Test.YtdndgacaohmdnaaTaskLaws
import Derived.Deep.DeepCutAuto
namespace Go.Proofs.Ytdndgacaohmdnaa
open Go.RowKit
attribute [local go_sem] Keeps.refl Keeps.alloc Keeps.drew Keeps.drewN
attribute [local go_sem high] run_eql_task run_neq_task

set_option maxRecDepth 100000 in
set_option maxHeartbeats 4000000 in
theorem floor_walk (H0 : SaysFloor) (H1 : SaysSpread) (a : Option Addr) (n cap : Nat) (w : World) (hm : n ≤ maxLen) (hb : ∀ g, w.heap.size ≤ g → Bytes g w a n) :
    Calls Try.prog 5 #[.slice a n cap] w fun e w' => e = .returned (.bool true) ∧ Keeps w w' := by
  have hF : Hid SaysFloor := H0
  have hR : Hid SaysSpread := H1
  clear H0 H1
  by_cases hn : n ≤ 1048576
  case neg =>
    have hd : decide (1048576 < (n : Int)) = true := by simp; omega
    go_enter Try.func5, Try.ntmps5
    go_wp2_with (go_at_call 13; refine (big_any _ _ _ _ hm).mono ?_; rintro e w1 ⟨rfl, rfl⟩)
    go_ret
    exact ⟨rfl, Keeps.refl _⟩
  have hd : decide (1048576 < (n : Int)) = false := by simp; omega
  go_enter Try.func5, Try.ntmps5
  go_wp2_with fail
  refine (big_any _ _ _ _ hm).mono ?_
  rintro e w0 ⟨rfl, rfl⟩
  rw [hd]
  go_wp2_with fail
  refine (drawFairFloor_any _ _ _ _ hn hb).mono ?_
  rintro e w1 ⟨bv, cp, ts, x, rfl, own1, hts, hx, k1⟩
  clear hb hd
  obtain ⟨x0, x1⟩ := hx
  obtain ⟨av, cv, ev, hs, -, -⟩ := own1.slice tc_size
  simp only [Value.slice.injEq] at ev
  obtain ⟨rfl, -, rfl⟩ := ev
  clear own1
  generalize (some ⟨bv, 0, none⟩ : Option Addr) = A at *
  have hl : ts.length ≤ maxLen := by unfold maxLen; omega
  have hl2 : Hid (ts.length ≤ 1048576) := by show _ ≤ _; omega
  obtain ⟨F, HF⟩ : ∃ F, Hid (fairFloorI ts x = F) := ⟨_, rfl⟩
  obtain ⟨R, HR⟩ : ∃ R, Hid (fairSpreadI ts = R) := ⟨_, rfl⟩
  have hFx : x ≤ F := by rw [← HF.out]; exact floor_ge ts x
  have hR0 : 0 ≤ R := by rw [← HR.out]; exact spread_ge ts
  have nFF : (F != F) = false := by simp
  have nRR : (R != R) = false := by simp
  have d1 : decide (F < x) = false := by simp; omega
  have d2 : decide (R < 0) = false := by simp; omega
  have hs0 : Hid (Ts w1 A ts) := hs
  clear hs
  go_wp2_with fail
  refine (hF.out _ _ ts _ _ hl2.out hs0.out).mono ?_
  rintro e w2 ⟨rfl, k2⟩
  rw [HF.out]
  go_wp2_with fail
  refine (hR.out _ _ ts _ hl2.out (hs0.out.keeps k2)).mono ?_
  rintro e w3 ⟨rfl, k3⟩
  rw [HR.out]
  go_wp2_with fail
  refine (specFairFloor_any _ _ ts _ _ hl (hs0.out.keeps (k2.trans k3))).mono ?_
  rintro e w4 ⟨rfl, k4⟩
  rw [HF.out]
  go_wp2_with fail
  refine (specFairSpread_any _ _ ts _ hl (hs0.out.keeps ((k2.trans k3).trans k4))).mono ?_
  rintro e w5 ⟨rfl, k5⟩
  rw [HR.out]
  have hs5 : Hid (Ts w5 A ts) := hs0.out.keeps (((k2.trans k3).trans k4).trans k5)
  have KX : Hid (Keeps w0 w5) := (((k1.trans k2).trans k3).trans k4).trans k5
  clear k1 k2 k3 k4 k5 hs0
  unfold maxLen at hl
  generalize hn' : ts.length = m at hl hts
  have Hm : Hid (ts.length = m) := hn'
  clear hn'
  go_wp2_with fail
  go_loopw [7, 8] (fun l i wr => ∃ k : Nat, k ≤ m ∧ i = .int .i64 k ∧ (∃ L : Int, l = .int .i64 L ∧ (F ≠ x → L = F)) ∧ Keeps w5 wr) (fun _ i _ => m - (intOf i).toNat)
  case atStart => exact ⟨0, Nat.zero_le _, rfl, ⟨F, rfl, fun _ => rfl⟩, Keeps.refl _⟩
  case round =>
    obtain ⟨k, hk, rfl, ⟨L, rfl, hL⟩, hK⟩ := hrel
    have HL : Hid (F ≠ x → L = F) := hL
    clear hL
    by_cases hlt : k < m
    · obtain ⟨t, ht⟩ := some_at (xs := ts) (k := k) (by rw [Hm.out]; exact hlt)
      obtain ⟨b, off, rfl, r0, r1⟩ := hs5.out.at ht (by omega)
      have hlt' : (k : Int) < (m : Int) := by omega
      have Ht : Hid (t ∈ ts) := List.mem_of_getElem? ht
      clear ht
      cases hb : taskB t
      · go_wp2_with (go_at_call 29; refine (specTaskOk_any t _).mono ?_; rintro e w6 ⟨rfl, k6⟩; have K6 : Keeps w5 w6 := hK.trans k6; rw [hb])
        exact ⟨⟨k + 1, by omega, by go_num, ⟨L, rfl, HL.out⟩, K6⟩, by simp only [intOf]; omega⟩
      · cases hc : (t.cls != 3)
        · have Hf : Hid (fairB t = true) := by show _ = _; simp at hc; simp [fairB, hb, hc]
          cases hv : decide (t.v < L)
          · go_wp2_with (go_at_call 29; refine (specTaskOk_any t _).mono ?_; rintro e w6 ⟨rfl, k6⟩; have K6 : Keeps w5 w6 := hK.trans k6; rw [hb])
            exact ⟨⟨k + 1, by omega, by go_num, ⟨L, rfl, HL.out⟩, K6⟩, by simp only [intOf]; omega⟩
          · go_wp2_with (go_at_call 29; refine (specTaskOk_any t _).mono ?_; rintro e w6 ⟨rfl, k6⟩; have K6 : Keeps w5 w6 := hK.trans k6; rw [hb])
            exact ⟨⟨k + 1, by omega, by go_num, ⟨t.v, rfl, fun hne => by
              have h1 := HL.out hne
              have h2 : F ≤ t.v := by
                have := floor_le (ts := ts) (floor := x) (by rw [HF.out]; exact hne) Ht.out Hf.out
                rw [HF.out] at this
                exact this
              have := of_decide_eq_true hv
              omega⟩, K6⟩, by simp only [intOf]; omega⟩
        · go_wp2_with (go_at_call 29; refine (specTaskOk_any t _).mono ?_; rintro e w6 ⟨rfl, k6⟩; have K6 : Keeps w5 w6 := hK.trans k6; rw [hb])
          exact ⟨⟨k + 1, by omega, by go_num, ⟨L, rfl, HL.out⟩, K6⟩, by simp only [intOf]; omega⟩
    · have hlt' : decide ((k : Int) < (m : Int)) = false := by simp; omega
      cases hq : (L == F)
      · have hq2 : (F == x) = true := by
          rw [beq_iff_eq]
          rcases Classical.em (F = x) with h | h
          · exact h
          · have := HL.out h
            simp [this] at hq
        go_wp2
        go_ret
        exact ⟨rfl, KX.out.trans hK⟩
      · go_wp2
        go_ret
        exact ⟨rfl, KX.out.trans hK⟩
end Go.Proofs.Ytdndgacaohmdnaa
