/-
  The walk of FnAble, over contracts of the program's functions.
-/
import Derived.Test.YtojfjafaeabkfaaPickOn
import Derived.Test.YtojfjafaeabkfaaGDraw3
namespace Go.Proofs.Ytojfjafaeabkfaa
open Go.RowKit
attribute [local go_sem] Keeps.refl Keeps.alloc Keeps.drew Keeps.drewN

/-- An executor does not wait; who does not wait is its own. -/
theorem exec_waits {ts : List Tsk} {ls : List Lk} {no : Int} (R : Right ls) (h : (execI ts ls no != 0) = true) : waitIx ls (execI ts ls no) = none ∧ (waitIx ls no = none → execI ts ls no = no) := by
  obtain ⟨c, hc⟩ := R.chain no
  have e : chainC ls no = c := by unfold chainC; rw [hc.is]
  have h2 := (exec_there h).2.1
  rw [e] at h2
  refine ⟨?_, fun hw => ?_⟩
  · rw [h2]
    exact hc.last (lastI_at hc.pos) (by have := hc.pos; omega)
  · rw [h2, hc.one (Ends.stop hw)]
    rfl

set_option maxRecDepth 100000 in
set_option maxHeartbeats 8000000 in
theorem able_walk (HC : SaysCanTurn) (HAB : SaysAble) (HE : SaysExecutor) (HAT : SaysTaskAt) (HW : SaysWaitAt) (a : Option Addr) (n cap : Nat) (w : World) (hm : n ≤ maxLen) (hb : ∀ g, w.heap.size ≤ g → Bytes g w a n) :
    Calls Try.prog 9 #[.slice a n cap] w fun e w' => e = .returned (.bool true) ∧ Keeps w w' := by
  have hC : Hid SaysCanTurn := HC
  have hAB : Hid SaysAble := HAB
  have hE : Hid SaysExecutor := HE
  have hA : Hid SaysTaskAt := HAT
  have hW : Hid SaysWaitAt := HW
  clear HC HAB HE HAT HW
  by_cases hn : n ≤ 1048576
  rotate_left
  · have hd : decide (1048576 < (n : Int)) = true := by simp; omega
    go_enter Try.func9, Try.ntmps9
    go_wp2_with (go_at_call 30; refine (big_any _ _ _ _ hm).mono ?_; rintro e w0 ⟨rfl, hw0⟩; have hw2 := hw0.symm; subst hw2; rw [hd])
    go_ret
    exact ⟨rfl, Keeps.refl _⟩
  have hd : decide (1048576 < (n : Int)) = false := by simp; omega
  go_enter Try.func9, Try.ntmps9
  go_wp2_with fail
  refine (big_any _ _ _ _ hm).mono ?_
  rintro e w0 ⟨rfl, hw0⟩
  have hw2 := hw0.symm
  subst hw2
  clear hw0
  rw [hd]
  go_wp2_with fail
  refine (drawCanTurn_any _ _ _ _ hn hb).mono ?_
  rintro e w1 ⟨b, cp, ts, v, ls, no, rfl, B⟩
  clear hd hb
  obtain ⟨a2, m2, cap2, rfl, h2⟩ := B.two
  have hcp := B.room
  have h13 := B.len
  have K1 : Hid (Keeps w w1) := B.keep
  clear B
  obtain ⟨m, Hm⟩ : ∃ m, Hid (ts.length = m) := ⟨_, rfl⟩
  rw [Hm.out] at h2 hcp h13 ⊢
  have H : Hid (Two w1 (some ⟨b, 0, none⟩) m cp ts a2 m2 cap2 ls) := h2
  clear h2
  obtain ⟨cn, Hcn⟩ : ∃ z, Hid (canP ts ls no = z) := ⟨_, rfl⟩
  obtain ⟨ab, Hab⟩ : ∃ z, Hid (ableP ts ls no = z) := ⟨_, rfl⟩
  obtain ⟨x, Hx⟩ : ∃ z, Hid (execP ts ls no = z) := ⟨_, rfl⟩
  have n0 : (x != x) = false := by simp
  have n1 : (cn != cn) = false := by simp
  have n2 : (ab != ab) = false := by simp
  go_wp2_with (first
    | (go_at_call 25; refine (H.out.iCan hC.out hcp no Hcn.out (Keeps.refl _)).mono ?_; rintro e w2 ⟨rfl, k2⟩)
    | (go_at_call 23; refine (H.out.iAble hAB.out hcp no Hab.out k2).mono ?_; rintro e w3 ⟨rfl, k3⟩; have K3 := k2.trans k3)
    | (go_at_call 19; refine (H.out.iExec hE.out hcp no Hx.out K3).mono ?_; rintro e w4 ⟨rfl, k4⟩; have K4 := K3.trans k4)
    | fail)
  refine (H.out.sCan no Hcn.out K4).mono ?_
  rintro e w5 ⟨rfl, k5⟩
  have K5 := K4.trans k5
  clear k2 k3 k4 k5 K3 K4
  go_wp2_with fail
  refine (H.out.sAble no Hab.out K5).mono ?_
  rintro e w6 ⟨rfl, k6⟩
  have K6 := K5.trans k6
  clear k6 K5
  go_wp2_with fail
  refine (H.out.sExec no Hx.out K6).mono ?_
  rintro e w7 ⟨rfl, k7⟩
  have K7 := K6.trans k7
  clear k7 K6
  cases ab
  · have ec : cn = false := by
      rw [← Hcn.out]
      have h := Hab.out
      unfold ableP at h
      unfold canP canB
      cases h1 : bothB ts ls
      · rfl
      · rw [h1] at h
        simp only [Bool.true_and] at h
        rw [h]; rfl
    subst ec
    go_wp2
    go_ret
    exact ⟨rfl, K1.out.trans K7⟩
  have hbo : bothB ts ls = true ∧ ableB ts ls no = true := by
    have h := Hab.out
    unfold ableP at h
    rw [Bool.and_eq_true] at h
    exact h
  have ex : execI ts ls no = x := by rw [← Hx.out]; unfold execP; rw [hbo.1]; rfl
  have hab := hbo.2
  unfold ableB at hab
  rw [ex, Bool.and_eq_true, Bool.and_eq_true] at hab
  have hxn : (execI ts ls no != 0) = true := by rw [ex]; exact hab.1
  have th := exec_there hxn
  rw [ex] at th
  have R : Right ls := by
    have h := hbo.1
    unfold bothB at h
    rw [Bool.and_eq_true] at h
    exact right_iff.1 h.2
  have ew := exec_waits R hxn
  rw [ex] at ew
  obtain ⟨k, b1, o1, hk, eb, ek, -, -, -, r1⟩ := H.out.t.there th.2.2.1
  simp only [Option.some.injEq, Addr.mk.injEq] at eb
  obtain ⟨rfl, rfl, -⟩ := eb
  obtain ⟨j, b2, o2, hj, eb, ej, -, -, -, r2⟩ := H.out.t.there th.2.2.2
  simp only [Option.some.injEq, Addr.mk.injEq] at eb
  obtain ⟨rfl, rfl, -⟩ := eb
  simp only [Nat.zero_add] at r1 r2
  have ecn : cn = mayB (tAt ts no) := by rw [← Hcn.out]; unfold canP canB; rw [hbo.1, hbo.2]; rfl
  have s1 : (tAt ts no).st = 1 := by simpa using hab.2.1
  have s2 : (tAt ts x).st = 1 := by simpa using hab.2.2
  generalize tAt ts no = t at *
  generalize tAt ts x = u at *
  have s1' : (t.st != 1) = false := by simpa using s1
  have s2' : (u.st != 1) = false := by simpa using s2
  have HK : Hid (atFrom ts no = (k : Int)) := ek
  have HJ : Hid (atFrom ts x = (j : Int)) := ej
  have hk' : (k : Int) < (m : Int) := by omega
  have hj' : (j : Int) < (m : Int) := by omega
  have d1 : decide ((k : Int) < 0) = false := by simp
  have d2 : decide ((j : Int) < 0) = false := by simp
  have wx : Hid (waitAt ls x = -1) := by show _ = _; simp [waitAt, ew.1]
  have HE2 : Hid (waitIx ls no = none → x = no) := ew.2
  clear s1 s2 ek ej ew R th hxn hab ex hbo
  obtain ⟨wn, Hwn⟩ : ∃ z, Hid (waitAt ls no = z) := ⟨_, rfl⟩
  have hwn : decide (0 ≤ wn) = true ∨ (decide (0 ≤ wn) = false ∧ x = no) := by
    rw [← Hwn.out]
    unfold waitAt
    cases h : waitIx ls no with
    | none => exact .inr ⟨by simp, HE2.out h⟩
    | some i => exact .inl (by simp)
  have n3 : ∀ c : Bool, (c == c) = true := by simp
  cases c1 : (t.cls != 1)
  · have ec : cn = decide (0 < t.left) := by rw [ecn]; unfold mayB; rw [c1]; rfl
    clear ecn
    obtain ⟨dl, Hdl⟩ : ∃ dl, decide (0 < t.left) = dl := ⟨_, rfl⟩
    rw [Hdl] at ec
    subst ec
    rcases hwn with hw1 | ⟨hw1, hxe⟩
    · go_wp2_with (first
        | (go_at_call 37; have k0 := K7; clear K7; refine (H.out.t.iTaskAt hA.out no HK.out k0).mono ?_; rintro e w8 ⟨rfl, k8⟩; have K8 := k0.trans k8)
        | (go_at_call 37; have k0 := K8; clear K8; refine (H.out.t.iTaskAt hA.out x HJ.out k0).mono ?_; rintro e w9 ⟨rfl, k9⟩; have K9 := k0.trans k9)
        | (go_at_call 38; have k0 := K9; clear K9; refine (H.out.l.iWaitAt hW.out x wx.out k0).mono ?_; rintro e w10 ⟨rfl, k10⟩; have K10 := k0.trans k10)
        | (go_at_call 38; have k0 := K10; clear K10; refine (H.out.l.iWaitAt hW.out no Hwn.out k0).mono ?_; rintro e w11 ⟨rfl, k11⟩; have K11 := k0.trans k11))
      go_ret
      exact ⟨rfl, K1.out.trans K11⟩
    · have n4 : (x == no) = true := by simpa using hxe
      clear hxe
      go_wp2_with (first
        | (go_at_call 37; have k0 := K7; clear K7; refine (H.out.t.iTaskAt hA.out no HK.out k0).mono ?_; rintro e w8 ⟨rfl, k8⟩; have K8 := k0.trans k8)
        | (go_at_call 37; have k0 := K8; clear K8; refine (H.out.t.iTaskAt hA.out x HJ.out k0).mono ?_; rintro e w9 ⟨rfl, k9⟩; have K9 := k0.trans k9)
        | (go_at_call 38; have k0 := K9; clear K9; refine (H.out.l.iWaitAt hW.out x wx.out k0).mono ?_; rintro e w10 ⟨rfl, k10⟩; have K10 := k0.trans k10)
        | (go_at_call 38; have k0 := K10; clear K10; refine (H.out.l.iWaitAt hW.out no Hwn.out k0).mono ?_; rintro e w11 ⟨rfl, k11⟩; have K11 := k0.trans k11))
      go_ret
      exact ⟨rfl, K1.out.trans K11⟩
  · have ec : cn = true := by rw [ecn]; unfold mayB; rw [c1]; rfl
    clear ecn
    subst ec
    rcases hwn with hw1 | ⟨hw1, hxe⟩
    · go_wp2_with (first
        | (go_at_call 37; have k0 := K7; clear K7; refine (H.out.t.iTaskAt hA.out no HK.out k0).mono ?_; rintro e w8 ⟨rfl, k8⟩; have K8 := k0.trans k8)
        | (go_at_call 37; have k0 := K8; clear K8; refine (H.out.t.iTaskAt hA.out x HJ.out k0).mono ?_; rintro e w9 ⟨rfl, k9⟩; have K9 := k0.trans k9)
        | (go_at_call 38; have k0 := K9; clear K9; refine (H.out.l.iWaitAt hW.out x wx.out k0).mono ?_; rintro e w10 ⟨rfl, k10⟩; have K10 := k0.trans k10)
        | (go_at_call 38; have k0 := K10; clear K10; refine (H.out.l.iWaitAt hW.out no Hwn.out k0).mono ?_; rintro e w11 ⟨rfl, k11⟩; have K11 := k0.trans k11))
      go_ret
      exact ⟨rfl, K1.out.trans K11⟩
    · have n4 : (x == no) = true := by simpa using hxe
      clear hxe
      go_wp2_with (first
        | (go_at_call 37; have k0 := K7; clear K7; refine (H.out.t.iTaskAt hA.out no HK.out k0).mono ?_; rintro e w8 ⟨rfl, k8⟩; have K8 := k0.trans k8)
        | (go_at_call 37; have k0 := K8; clear K8; refine (H.out.t.iTaskAt hA.out x HJ.out k0).mono ?_; rintro e w9 ⟨rfl, k9⟩; have K9 := k0.trans k9)
        | (go_at_call 38; have k0 := K9; clear K9; refine (H.out.l.iWaitAt hW.out x wx.out k0).mono ?_; rintro e w10 ⟨rfl, k10⟩; have K10 := k0.trans k10)
        | (go_at_call 38; have k0 := K10; clear K10; refine (H.out.l.iWaitAt hW.out no Hwn.out k0).mono ?_; rintro e w11 ⟨rfl, k11⟩; have K11 := k0.trans k11))
      go_ret
      exact ⟨rfl, K1.out.trans K11⟩
end Go.Proofs.Ytojfjafaeabkfaa
