/-
  The law FnFixedTurns: its walk, over contracts of the program's functions.
-/
import Derived.Test.YtndjifbjlhmmiaaFixLaws
import Derived.Test.YtndjifbjlhmmiaaDrawFix
import Derived.Test.YtndjifbjlhmmiaaTaskEq
import Derived.Test.YtndjifbjlhmmiaaTaskLaws
import Derived.Deep.DeepCutAuto
namespace Go.Proofs.Ytndjifbjlhmmiaa
open Go.RowKit
attribute [local go_sem] Keeps.refl Keeps.alloc Keeps.drew Keeps.drewN
attribute [local go_sem high] run_eql_task run_neq_task

/-- It has no round, or cannot go behind. -/
def offT (t : Tsk) (x : Int) : Bool := !taskB t || t.cls != 2 || t.round == 0 || decide (x < 0) || decide (1000000 < x)
theorem offT_no {t : Tsk} {x : Int} (h : offT t x = false) : IsFix t ∧ t.round ≠ 0 ∧ (0 ≤ x ∧ x ≤ 1000000) := by
  simp [offT] at h
  obtain ⟨⟨⟨⟨h1, h2⟩, h3⟩, h4⟩, h5⟩ := h
  exact ⟨(fixB_iff t).1 (by simp [fixB, h1, h2]), h3, h4, h5⟩
theorem offT_yes {t : Tsk} {x : Int} (h : offT t x = true) : turnB t x = false ∧ (eqT (fixSpendT t x) t = true ∨ (eqT (fixSpendT t x) t = false ∧ taskB t = true ∧ decide (1 < t.left) = true)) := by
  have ht : turnB t x = false := by
    rw [Bool.eq_false_iff]
    intro hr
    simp only [turnB, fixB, Bool.and_eq_true, beq_iff_eq, Bool.not_eq_true', inB_iff] at hr
    obtain ⟨⟨⟨⟨h1, h2⟩, h3⟩, h4⟩, h5⟩ := hr
    simp [offT, h1, h2, h3] at h
    omega
  refine ⟨ht, ?_⟩
  cases he : eqT (fixSpendT t x) t
  · right
    refine ⟨rfl, ?_⟩
    cases hb : taskB t
    · have : fixSpendT t x = t := by simp [fixSpendT, fixB, hb]
      rw [this, eqT_same] at he
      cases he
    · refine ⟨rfl, ?_⟩
      cases hl : decide (1 < t.left)
      · have : fixSpendT t x = t := by
          unfold fixSpendT
          cases hc : (fixB t && !(t.round == 0))
          · simp
          · rw [hl]
            have hi : inB x 0 1000000 = false := by
              simp only [turnB, hc, hl, Bool.not_false, Bool.and_true, Bool.true_and] at ht
              exact ht
            simp [hi]
        rw [this, eqT_same] at he
        cases he
      · rfl
  · exact .inl rfl
/-- While it spends. -/
structure TU (w0 wr : World) (s : Nat) (u : Tsk) : Prop where
  kp : Keeps w0 wr
  box : Blk wr s (tc u)
  low : w0.heap.size ≤ s
theorem TU.go {w0 wr w' : World} {s : Nat} {u : Tsk} (h : TU w0 wr s u) (k : Keeps wr w') : TU w0 w' s u := ⟨h.kp.trans k, h.box.keeps k, h.low⟩
theorem TU.put {w0 wr : World} {s : Nat} {u : Tsk} (h : TU w0 wr s u) (v : Tsk) : TU w0 (putC wr s 0 (tc v).toList) s v := ⟨Keeps.putC h.low _ 0 h.kp, h.box.putC _ rfl, h.low⟩
/-- How often it has gone behind. -/
def wentN (t : Tsk) (k : Nat) : Int := if t.left ≤ (k : Int) then 1 else 0

set_option maxRecDepth 100000 in
set_option maxHeartbeats 4000000 in
theorem turns_walk (HT : SaysTaskOk) (HR : SaysFixedSpend) (a : Option Addr) (n cap : Nat) (w : World) (hm : n ≤ maxLen) (hb : ∀ g, w.heap.size ≤ g → Bytes g w a n) :
    Calls Try.prog 3 #[.slice a n cap] w fun e w' => e = .returned (.bool true) ∧ Keeps w w' := by
  have hT : Hid SaysTaskOk := HT
  have hR : Hid SaysFixedSpend := HR
  clear HT HR
  by_cases hn : n ≤ 1048576
  case neg =>
    have hd : decide (1048576 < (n : Int)) = true := by simp; omega
    go_enter Try.func3, Try.ntmps3
    go_wp2_with (go_at_call 6; refine (big_any _ _ _ _ hm).mono ?_; rintro e w1 ⟨rfl, rfl⟩)
    go_ret
    exact ⟨rfl, Keeps.refl _⟩
  have hd : decide (1048576 < (n : Int)) = false := by simp; omega
  go_enter Try.func3, Try.ntmps3
  go_wp2_with fail
  refine (big_any _ _ _ _ hm).mono ?_
  rintro e w0 ⟨rfl, rfl⟩
  rw [hd]
  go_wp2_with fail
  refine (drawFixedSpend_any _ _ _ _ hn hb).mono ?_
  rintro e w1 ⟨t, x, rfl, hx, k1⟩
  clear hb hd
  obtain ⟨x0, x1⟩ := hx
  obtain ⟨N, HN⟩ : ∃ N, Hid (fixSpendT t x = N) := ⟨_, rfl⟩
  obtain ⟨g, Hg⟩ : ∃ g, Hid (turnB t x = g) := ⟨_, rfl⟩
  go_wp2_with fail
  have kW := k1.alloc (.cells (tc t) 25)
  have hs0 : w0.heap.size ≤ w1.heap.size := k1.size
  have r1 : ∀ w', Keeps (w1.alloc (.cells (tc t) 25)) w' → Blk w' w1.heap.size (tc t) := fun w' h => (Blk.new w1 (tc t) 25).keeps h
  have c1 : ∀ w', Keeps (w1.alloc (.cells (tc t) 25)) w' → ∀ k, w'.cell? ⟨w1.heap.size, k, none⟩ = (tc t)[k]? := fun w' h => (r1 w' h).cells
  clear k1
  generalize w1.alloc (.cells (tc t) 25) = W1 at *
  generalize w1.heap.size = s at *
  refine (hR.out t x _).mono ?_
  rintro e w2 ⟨rfl, k2⟩
  rw [HN.out, Hg.out]
  go_wp2_with fail
  have r2 : ∀ w', Keeps (w2.alloc (.cells (tc N) 25)) w' → ∀ k, w'.cell? ⟨w2.heap.size, k, none⟩ = (tc N)[k]? := fun w' h => ((Blk.new w2 (tc N) 25).keeps h).cells
  have k2' := k2.alloc (.cells (tc N) 25)
  have R1 : ∀ w', Keeps (w2.alloc (.cells (tc N) 25)) w' → Blk w' s (tc t) := fun w' h => r1 w' (k2'.trans h)
  have C1 : ∀ w', Keeps (w2.alloc (.cells (tc N) 25)) w' → ∀ k, w'.cell? ⟨s, k, none⟩ = (tc t)[k]? := fun w' h => (R1 w' h).cells
  have KW := kW.trans k2'
  clear r1 c1 k2 k2' kW
  generalize w2.alloc (.cells (tc N) 25) = W2 at *
  generalize w2.heap.size = s2 at *
  refine (specFixedSpend_any t x _).mono ?_
  rintro e w3 ⟨rfl, k3⟩
  rw [HN.out, Hg.out]
  go_upto_region 6 with fail
  have r3 : ∀ w', Keeps (w3.alloc (.cells (tc N) 25)) w' → ∀ k, w'.cell? ⟨w3.heap.size, k, none⟩ = (tc N)[k]? := fun w' h => ((Blk.new w3 (tc N) 25).keeps h).cells
  have k3' := k3.alloc (.cells (tc N) 25)
  have R2 : ∀ w', Keeps (w3.alloc (.cells (tc N) 25)) w' → Blk w' s (tc t) := fun w' h => R1 w' (k3'.trans h)
  have C2 : ∀ w', Keeps (w3.alloc (.cells (tc N) 25)) w' → ∀ k, w'.cell? ⟨s, k, none⟩ = (tc t)[k]? := fun w' h => (R2 w' h).cells
  have C3 : ∀ w', Keeps (w3.alloc (.cells (tc N) 25)) w' → ∀ k, w'.cell? ⟨s2, k, none⟩ = (tc N)[k]? := fun w' h => r2 w' (k3'.trans h)
  have KX := KW.trans k3'
  clear R1 C1 r2 k3 k3' KW
  generalize w3.alloc (.cells (tc N) 25) = W3 at *
  generalize w3.heap.size = s3 at *
  have K0 := Keeps.refl W3
  have nNN : eqT N N = true := eqT_same N
  have ngg : (g != g) = false := by simp
  go_upto_region 8 with fail
  go_cut [60] (fun c wx => c = .bool (offT t x) ∧ Keeps W3 wx)
  case first =>
    cases b0 : taskB t
    · have Hr : Hid (offT t x = true) := by show _ = _; simp [offT, b0]
      go_wp2_with (go_at_call 10; refine (specTaskOk_any t _).mono ?_; rintro e w4 ⟨rfl, k4'⟩; have k4 : Keeps W3 w4 := K0.trans k4'; rw [b0])
      go_meet
      exact ⟨by rw [Hr.out], k4⟩
    · skip
      cases b1 : (t.cls != 2)
      rotate_left
      · have Hr : Hid (offT t x = true) := by show _ = _; simp [offT, b0, b1]
        go_wp2_with (go_at_call 10; refine (specTaskOk_any t _).mono ?_; rintro e w4 ⟨rfl, k4'⟩; have k4 : Keeps W3 w4 := K0.trans k4'; rw [b0])
        go_meet
        exact ⟨by rw [Hr.out], k4⟩
      · skip
        cases b2 : (t.round == 0)
        rotate_left
        · have Hr : Hid (offT t x = true) := by show _ = _; simp [offT, b0, b1, b2]
          go_wp2_with (go_at_call 10; refine (specTaskOk_any t _).mono ?_; rintro e w4 ⟨rfl, k4'⟩; have k4 : Keeps W3 w4 := K0.trans k4'; rw [b0])
          go_meet
          exact ⟨by rw [Hr.out], k4⟩
        · skip
          cases b3 : decide (x < 0)
          rotate_left
          · have Hr : Hid (offT t x = true) := by show _ = _; simp [offT, b0, b1, b2, b3]
            go_wp2_with (go_at_call 10; refine (specTaskOk_any t _).mono ?_; rintro e w4 ⟨rfl, k4'⟩; have k4 : Keeps W3 w4 := K0.trans k4'; rw [b0])
            go_meet
            exact ⟨by rw [Hr.out], k4⟩
          · skip
            cases b4 : decide (1000000 < x)
            · have Hr : Hid (offT t x = false) := by show _ = _; simp [offT, b0, b1, b2, b3, b4]
              go_wp2_with (go_at_call 10; refine (specTaskOk_any t _).mono ?_; rintro e w4 ⟨rfl, k4'⟩; have k4 : Keeps W3 w4 := K0.trans k4'; rw [b0])
              go_meet
              exact ⟨by rw [Hr.out], k4⟩
            · have Hr : Hid (offT t x = true) := by show _ = _; simp [offT, b0, b1, b2, b3, b4]
              go_wp2_with (go_at_call 10; refine (specTaskOk_any t _).mono ?_; rintro e w4 ⟨rfl, k4'⟩; have k4 : Keeps W3 w4 := K0.trans k4'; rw [b0])
              go_meet
              exact ⟨by rw [Hr.out], k4⟩
  case rest =>
  obtain ⟨rfl, K4⟩ := hcut
  clear K0
  generalize wc = W4 at *
  cases ho : offT t x
  · obtain ⟨hF, hr0, hxx⟩ := offT_no ho
    have S4 : Hid (TU w0 W4 s (turned t x 0)) := ⟨KX.trans K4, by rw [turned_zero hF hr0]; exact R2 W4 K4, hs0⟩
    have HF : Hid (IsFix t) := hF
    have HR0 : Hid (t.round ≠ 0) := hr0
    have HX : Hid (0 ≤ x ∧ x ≤ 1000000) := hxx
    have hrr := hF.round
    have hll := hF.left
    obtain ⟨rn, hrn⟩ : ∃ rn : Nat, t.round = (rn : Int) := ⟨t.round.toNat, by omega⟩
    have Hrn : Hid (t.round = (rn : Int)) := hrn
    have hrb : rn ≤ 10 := by omega
    have Hl : Hid (1 ≤ t.left ∧ t.left ≤ (rn : Int)) := by show _ ∧ _; omega
    clear hF hr0 hxx hrr hll hrn C2 C3 r3 R2 K4 KX
    go_wp2_with fail
    go_loopw [9, 10] (fun m i wr => ∃ k : Nat, k ≤ rn ∧ i = .int .i64 k ∧ m = .int .i64 (wentN t k) ∧ TU w0 wr s (turned t x k)) (fun _ i _ => rn - (intOf i).toNat)
    case atStart => exact ⟨0, Nat.zero_le _, rfl, by have := Hl.out; simp [wentN]; omega, S4.out⟩
    case round =>
      obtain ⟨k, hk, rfl, rfl, S⟩ := hrel
      clear S4
      obtain ⟨U, HU⟩ : ∃ U, Hid (turned t x k = U) := ⟨_, rfl⟩
      rw [HU.out] at S
      have Ur : Hid (U.round = (rn : Int)) := by show _ = _; rw [← Hrn.out, ← HU.out]; unfold turned; split <;> rfl
      have z1 : ∀ w', Keeps wr w' → ∀ k, w'.cell? ⟨s, k, none⟩ = (tc U)[k]? := fun w' h => (S.box.keeps h).cells
      have z2 : ∀ w', Keeps wr w' → ∀ k, w'.frozen? ⟨s, k, none⟩ = false := fun w' h => (S.box.keeps h).frozens
      have HS : Hid (TU w0 wr s U) := S
      clear S
      obtain ⟨m, Hm⟩ : ∃ m, Hid (wentN t k = m) := ⟨_, rfl⟩
      have m0 : 0 ≤ m := by rw [← Hm.out]; unfold wentN; split <;> omega
      have m1 : m ≤ 1 := by rw [← Hm.out]; unfold wentN; split <;> omega
      rw [Hm.out]
      by_cases hlt : k < rn
      · have hlt' : decide ((k : Int) < U.round) = true := by rw [Ur.out]; simp; omega
        obtain ⟨e1, e2⟩ := turned_step HF.out HR0.out HX.out (i := (k : Int)) (by omega) (by have := Hrn.out; omega)
        rw [HU.out] at e1 e2
        obtain ⟨V, HV⟩ : ∃ V, Hid (turned t x ((k : Int) + 1) = V) := ⟨_, rfl⟩
        rw [HV.out] at e1
        have E1 : Hid (fixSpendT U x = V) := e1
        have E2 : Hid (turnB U x = decide ((k : Int) + 1 = t.left)) := e2
        clear e1 e2
        go_wp2_with fail
        refine (hR.out U x _).mono ?_
        rintro e w6 ⟨rfl, k6⟩
        rw [E1.out, E2.out]
        have S6 := HS.out.go (k6.alloc (.cells (tc V) 25))
        have c7 : ∀ k, (w6.alloc (.cells (tc V) 25)).cell? ⟨w6.heap.size, k, none⟩ = (tc V)[k]? := (Blk.new w6 (tc V) 25).cells
        have hk1 : ((k + 1 : Nat) : Int) = (k : Int) + 1 := by omega
        clear z1 z2 HS k6
        cases hw : decide ((k : Int) + 1 = t.left)
        · have Hm1 : Hid (wentN t (k + 1) = m) := by
            show _ = _
            have h1 := of_decide_eq_false hw
            rw [← Hm.out]
            unfold wentN
            rw [hk1]
            by_cases h2 : t.left ≤ (k : Int)
            · rw [if_pos h2, if_pos (by omega)]
            · rw [if_neg h2, if_neg (by omega)]
          go_upto_region 17 with fail
          obtain ⟨_, z3, z4⟩ := S6.box
          have HS7 : Hid (TU w0 (w6.alloc (.cells (tc V) 25)) s U) := S6
          clear S6
          generalize w6.alloc (.cells (tc V) 25) = W7 at *
          generalize w6.heap.size = s7 at *
          go_wp2
          refine ⟨⟨k + 1, by omega, by go_num, by rw [Hm1.out], ?_⟩, by simp only [intOf]; omega⟩
          rw [hk1, HV.out]
          exact HS7.out.put V
        · have Hm1 : Hid (wentN t (k + 1) = m + 1) := by
            show _ = _
            have h1 := of_decide_eq_true hw
            rw [← Hm.out]
            unfold wentN
            rw [hk1, if_pos (by omega), if_neg (by omega)]
            rfl
          go_upto_region 17 with fail
          obtain ⟨_, z3, z4⟩ := S6.box
          have HS7 : Hid (TU w0 (w6.alloc (.cells (tc V) 25)) s U) := S6
          clear S6
          generalize w6.alloc (.cells (tc V) 25) = W7 at *
          generalize w6.heap.size = s7 at *
          go_wp2
          refine ⟨⟨k + 1, by omega, by go_num, by rw [Hm1.out], ?_⟩, by simp only [intOf]; omega⟩
          rw [hk1, HV.out]
          exact HS7.out.put V
      · have hlt' : decide ((k : Int) < U.round) = false := by rw [Ur.out]; simp; omega
        have hkr : (k : Int) = t.round := by have := Hrn.out; omega
        have q1 : (m == 1) = true := by
          rw [← Hm.out]
          unfold wentN
          rw [if_pos (by have := Hl.out; omega)]
          rfl
        have q2 : (U.seq == x) = true := by
          rw [← HU.out, hkr, turned_all HF.out x]
          simp
        have H3 : Hid (taskB U = true) := by
          have hu := (fixB_iff U).2 (by rw [← HU.out]; exact turned_is HF.out HX.out (by omega) (by omega))
          simp only [fixB, Bool.and_eq_true] at hu
          exact hu.1
        clear hkr
        go_wp2_with (go_at_call 11; refine (hT.out U _).mono ?_; rintro e w6 ⟨rfl, k6⟩; rw [H3.out])
        go_ret
        exact ⟨rfl, HS.out.kp.trans k6⟩
  · obtain ⟨y1, y2⟩ := offT_yes ho
    rw [Hg.out] at y1
    subst y1
    rw [HN.out] at y2
    rcases y2 with y2 | ⟨y2, y3, y4⟩
    · go_wp2
      go_ret
      exact ⟨rfl, KX.trans K4⟩
    · go_wp2_with (go_at_call 10; refine (specTaskOk_any t _).mono ?_; rintro e w6 ⟨rfl, k6'⟩; have k6 : Keeps W3 w6 := K4.trans k6'; rw [y3])
      go_ret
      exact ⟨rfl, KX.trans k6⟩
end Go.Proofs.Ytndjifbjlhmmiaa
