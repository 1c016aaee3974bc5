/-
  The model's CallLine: the words, the numbers, the line.
-/
import Derived.Test.YtpikopdfkhagmaaDoorDeskCallP
import Derived.Test.YtpikopdfkhagmaaDoorDeskNum
import Derived.Test.YtpikopdfkhagmaaDoorCallLaws
import Derived.Test.YtpikopdfkhagmaaDoorInts
import Derived.Deep.RegionHeld3
namespace Go.Proofs.YtpikopdfkhagmaaDoor
open Go.RowKit
attribute [local go_sem] Keeps.refl Keeps.alloc Keeps.drew Keeps.drewN

set_option maxRecDepth 100000 in
set_option maxHeartbeats 2000000 in
theorem l14Word_any (k : Int) (w : World) (h : 1 ≤ k ∧ k ≤ 11) :
    Calls Tryd.prog 18 #[.int .i64 k] w fun e w' => e = .returned (strV (wordL k)) ∧ Keeps w w' := by
  have h2 : k = 1 ∨ k = 2 ∨ k = 3 ∨ k = 4 ∨ k = 5 ∨ k = 6 ∨ k = 7 ∨ k = 8 ∨ k = 9 ∨ k = 10 ∨ k = 11 := by omega
  rcases h2 with rfl | rfl | rfl | rfl | rfl | rfl | rfl | rfl | rfl | rfl | rfl <;>
  (go_enter Tryd.func18, Tryd.ntmps18) <;>
  go_wp2 <;>
  go_ret <;>
  exact ⟨rfl, (Keeps.refl _).alloc _⟩
theorem ns_second (w : World) (o : Obj) (xs : List Int) (t : TypeId) : Ns ((w.alloc o).alloc (.cells (xs.map (Value.int .i64)).toArray t)) (some ⟨w.heap.size + 1, 0, none⟩) xs := by
  refine .inr ⟨_, _, rfl, by simp, fun i x hx => ?_⟩
  have h := (Blk.new (w.alloc o) (xs.map (Value.int .i64)).toArray t).cells i
  simp only [World.size_alloc] at h
  rw [Nat.zero_add, h]
  simp [hx]
set_option maxRecDepth 100000 in
set_option maxHeartbeats 4000000 in
theorem l14Nums_any (c : Cl) (w : World) :
    Calls Tryd.prog 19 #[ck c] w fun e w' => ∃ b n, e = .returned (.slice (some ⟨b, 0, none⟩) n n) ∧ (numsL c).length = n ∧ Ns w' (some ⟨b, 0, none⟩) (numsL c) ∧ Keeps w w' := by
  cases c1 : (c.kind == 1)
  rotate_left
  · have HE : Hid (numsL c = [c.no, c.cpu, c.a, c.b]) := by show _ = _; simp [numsL, c1]
    go_enter Tryd.func19, Tryd.ntmps19
    go_wp2
    go_ret
    exact ⟨_, _, rfl, by rw [HE.out]; rfl, by rw [HE.out]; exact ns_second w (.cells (cc c) 26) [c.no, c.cpu, c.a, c.b] 3, ((Keeps.refl _).alloc _).alloc _⟩
  cases c2 : (c.kind == 2)
  rotate_left
  · have HE : Hid (numsL c = [c.no, c.cpu, c.a, c.b]) := by show _ = _; simp [numsL, c1, c2]
    go_enter Tryd.func19, Tryd.ntmps19
    go_wp2
    go_ret
    exact ⟨_, _, rfl, by rw [HE.out]; rfl, by rw [HE.out]; exact ns_second w (.cells (cc c) 26) [c.no, c.cpu, c.a, c.b] 3, ((Keeps.refl _).alloc _).alloc _⟩
  cases c3 : (c.kind == 3)
  rotate_left
  · have HE : Hid (numsL c = [c.no, c.cpu, c.a]) := by show _ = _; simp [numsL, c1, c2, c3]
    go_enter Tryd.func19, Tryd.ntmps19
    go_wp2
    go_ret
    exact ⟨_, _, rfl, by rw [HE.out]; rfl, by rw [HE.out]; exact ns_second w (.cells (cc c) 26) [c.no, c.cpu, c.a] 3, ((Keeps.refl _).alloc _).alloc _⟩
  cases c7 : (c.kind == 7)
  rotate_left
  · have HE : Hid (numsL c = [c.no, c.a]) := by show _ = _; simp [numsL, c1, c2, c3, c7]
    go_enter Tryd.func19, Tryd.ntmps19
    go_wp2
    go_ret
    exact ⟨_, _, rfl, by rw [HE.out]; rfl, by rw [HE.out]; exact ns_second w (.cells (cc c) 26) [c.no, c.a] 3, ((Keeps.refl _).alloc _).alloc _⟩
  cases c8 : (c.kind == 8)
  rotate_left
  · have HE : Hid (numsL c = [c.no, c.a]) := by show _ = _; simp [numsL, c1, c2, c3, c7, c8]
    go_enter Tryd.func19, Tryd.ntmps19
    go_wp2
    go_ret
    exact ⟨_, _, rfl, by rw [HE.out]; rfl, by rw [HE.out]; exact ns_second w (.cells (cc c) 26) [c.no, c.a] 3, ((Keeps.refl _).alloc _).alloc _⟩
  cases c9 : (c.kind == 9)
  rotate_left
  · have HE : Hid (numsL c = [c.no, c.a]) := by show _ = _; simp [numsL, c1, c2, c3, c7, c8, c9]
    go_enter Tryd.func19, Tryd.ntmps19
    go_wp2
    go_ret
    exact ⟨_, _, rfl, by rw [HE.out]; rfl, by rw [HE.out]; exact ns_second w (.cells (cc c) 26) [c.no, c.a] 3, ((Keeps.refl _).alloc _).alloc _⟩
  cases c10 : (c.kind == 10)
  rotate_left
  · have HE : Hid (numsL c = [c.no, c.cpu]) := by show _ = _; simp [numsL, c1, c2, c3, c7, c8, c9, c10]
    go_enter Tryd.func19, Tryd.ntmps19
    go_wp2
    go_ret
    exact ⟨_, _, rfl, by rw [HE.out]; rfl, by rw [HE.out]; exact ns_second w (.cells (cc c) 26) [c.no, c.cpu] 3, ((Keeps.refl _).alloc _).alloc _⟩
  cases c11 : (c.kind == 11)
  rotate_left
  · have HE : Hid (numsL c = [c.a]) := by show _ = _; simp [numsL, c1, c2, c3, c7, c8, c9, c10, c11]
    go_enter Tryd.func19, Tryd.ntmps19
    go_wp2
    go_ret
    exact ⟨_, _, rfl, by rw [HE.out]; rfl, by rw [HE.out]; exact ns_second w (.cells (cc c) 26) [c.a] 3, ((Keeps.refl _).alloc _).alloc _⟩
  have HE : Hid (numsL c = [c.no]) := by show _ = _; simp [numsL, c1, c2, c3, c7, c8, c9, c10, c11]
  go_enter Tryd.func19, Tryd.ntmps19
  go_wp2
  go_ret
  exact ⟨_, _, rfl, by rw [HE.out]; rfl, by rw [HE.out]; exact ns_second w (.cells (cc c) 26) [c.no] 3, ((Keeps.refl _).alloc _).alloc _⟩
theorem lineB_no {c : Cl} {k : Nat} (hk : k < (numsL c).length) (h : numOkB c k ((numsL c).getD k 0) = false) : lineB c = false ∧ lineL c = [] := by
  have e : lineB c = false := by unfold lineB; rw [firstsB_no h _ hk, Bool.and_false]
  exact ⟨e, by unfold lineL; rw [e]; rfl⟩
theorem Ns.getAt {w : World} {b : Nat} {xs : List Int} (h : Ns w (some ⟨b, 0, none⟩) xs) {k : Nat} {x : Int} (hx : xs[k]? = some x) : ∀ w', Keeps w w' → w'.cell? ⟨b, k, none⟩ = some (.int .i64 x) := by
  rcases h with rfl | ⟨b', off, e, _, h⟩
  · simp at hx
  · simp only [Option.some.injEq, Addr.mk.injEq] at e
    obtain ⟨rfl, rfl, -⟩ := e
    have := h k x hx
    rw [Nat.zero_add] at this
    exact Keeps.has this
set_option maxRecDepth 100000 in
set_option maxHeartbeats 4000000 in
theorem specCallLine_any (c : Cl) (w : World) :
    Calls Tryd.prog 6 #[ck c] w fun e w' => e = .returned (.tuple #[strV (lineL c), .bool (lineB c)]) ∧ Keeps w w' := by
  have kW := blkK w (.cells (cc c) 26)
  have hb := blkR w (cc c) 26
  go_enter Tryd.func6, Tryd.ntmps6
  go_wp2_with fail
  generalize w.alloc (.cells (cc c) 26) = W at *
  refine (specCallOk_any c W).mono ?_
  rintro e w1 ⟨rfl, k1⟩
  cases hcb : callB c
  · have H1 : Hid (lineB c = false ∧ lineL c = []) := by
      have e : lineB c = false := by unfold lineB; rw [hcb]; rfl
      exact ⟨e, by unfold lineL; rw [e]; rfl⟩
    go_wp2
    go_ret2
    exact ⟨by rw [H1.out.1, H1.out.2]; rfl, kW.trans k1⟩
  have hkd : 1 ≤ c.kind ∧ c.kind ≤ 11 := by
    unfold callB at hcb
    rw [Bool.and_eq_true] at hcb
    exact inB_iff.1 hcb.1
  have HF : Hid (lineB c = firstsB c (numsL c).length) := by show _ = _; unfold lineB; rw [hcb]; rfl
  have r1 := fun w' (k : Keeps w1 w') => hb w' (k1.trans k)
  obtain ⟨WD, HWD⟩ : ∃ x : List UInt8, Hid (wordL c.kind = x) := ⟨_, rfl⟩
  have hwl : WD.length ≤ 6 := by rw [← HWD.out]; exact wordL_length _
  have cW := l14Word_any c.kind w1 hkd
  rw [HWD.out] at cW
  clear hb hcb
  go_upto_region 4 with (go_at_call 18; refine cW.mono ?_; rintro e w2 ⟨rfl, k2⟩)
  have r2 := fun w' (k : Keeps w2 w') => r1 w' (k2.trans k)
  clear r1 cW
  go_upto_region 6 with (go_at_call 19; refine (l14Nums_any c _).mono ?_; rintro e w3 ⟨nb, n, rfl, hn, hns, k3⟩)
  have HN : Hid ((numsL c).length = n) := hn
  have HNs : Hid (Ns w3 (some ⟨nb, 0, none⟩) (numsL c)) := hns
  have hn4 : 1 ≤ n ∧ n ≤ 4 := by have := numsL_length c; omega
  have K3 : Hid (Keeps w w3) := ((kW.trans k1).trans k2).trans k3
  have r3 := fun w' (k : Keeps w3 w') => r2 w' (k3.trans k)
  clear r2 hn hns k3 k2 k1 kW
  go_loopw [4, 6] (fun o i wr => ∃ (k : Nat) (l : List UInt8), k ≤ n ∧ l.length ≤ 6 + 20 * k ∧ i = .int .i64 k ∧ o = strV l ∧ Hid (l = lineK c k) ∧ Hid (firstsB c k = true) ∧ Hid (Keeps w3 wr)) (fun _ i _ => n - (intOf i).toNat)
  case atStart => exact ⟨0, WD, Nat.zero_le _, by omega, rfl, rfl, HWD.out.symm, rfl, Keeps.refl _⟩
  case round =>
    obtain ⟨k, l, hk, hll, rfl, rfl, HE, HA, hK⟩ := hrel
    have r4 := fun w' (q : Keeps wr w') => r3 w' (hK.out.trans q)
    clear r3
    by_cases hlt : k < n
    · obtain ⟨x, hx⟩ := some_in (xs := numsL c) (k := k) (by rw [HN.out]; exact hlt)
      have hc0 : ∀ w', Keeps wr w' → w'.cell? ⟨nb, k, none⟩ = some (.int .i64 x) := fun w' q => (HNs.out.getAt hx) w' (hK.out.trans q)
      have hgx : (numsL c).getD k 0 = x := by rw [List.getD_eq_getElem?_getD, hx]; rfl
      have hlt' : (k : Int) < (n : Int) := by omega
      obtain ⟨LB, HLB⟩ : ∃ b, Hid (((c.kind == 3 || c.kind == 9) && decide (k + 1 = n)) = b) := ⟨_, rfl⟩
      have HLI : Hid (leastI c k = if LB then -9 else 0) := by show _ = _; unfold leastI; rw [HN.out, HLB.out]
      go_upto_region 9 with fail
      go_cut [36] (fun v wx => v = .bool LB ∧ wx = wr)
      case first =>
        cases c3 : (c.kind == 3)
        · cases c9 : (c.kind == 9)
          · obtain rfl : LB = false := by rw [← HLB.out, c3, c9]; rfl
            go_wp2
            go_meet
            exact ⟨rfl, rfl⟩
          · by_cases hl : k + 1 = n
            · obtain rfl : LB = true := by rw [← HLB.out, c3, c9]; simp [hl]
              have he : ((k : Int) == (n : Int) - 1) = true := by simp; omega
              go_wp2
              go_meet
              exact ⟨rfl, rfl⟩
            · obtain rfl : LB = false := by rw [← HLB.out, c3, c9]; simp [hl]
              have he : ((k : Int) == (n : Int) - 1) = false := by simp; omega
              go_wp2
              go_meet
              exact ⟨rfl, rfl⟩
        · by_cases hl : k + 1 = n
          · obtain rfl : LB = true := by rw [← HLB.out, c3]; simp [hl]
            have he : ((k : Int) == (n : Int) - 1) = true := by simp; omega
            go_wp2
            go_meet
            exact ⟨rfl, rfl⟩
          · obtain rfl : LB = false := by rw [← HLB.out, c3]; simp [hl]
            have he : ((k : Int) == (n : Int) - 1) = false := by simp; omega
            go_wp2
            go_meet
            exact ⟨rfl, rfl⟩
      case rest =>
      obtain ⟨rfl, rfl⟩ := hcut
      obtain ⟨ok, Hok⟩ : ∃ b, Hid (inB x (leastI c k) 9999999 = b) := ⟨_, rfl⟩
      have cI : ∀ W, Calls Tryd.prog 20 #[.int .i64 x, .int .i64 (leastI c k), .int .i64 9999999] W fun e w' => e = .returned (.bool ok) ∧ w' = W := fun W => by have := l1In_any x (leastI c k) 9999999 W; rw [Hok.out] at this; exact this
      have hleast : leastI c k = -9 ∨ leastI c k = 0 := by rw [HLI.out]; cases LB <;> simp
      rw [HLI.out] at cI
      cases ok
      · have H2 : Hid (lineB c = false ∧ lineL c = []) := lineB_no (by rw [HN.out]; exact hlt) (by unfold numOkB; rw [hgx]; exact Hok.out)
        cases LB
        · simp only [Bool.false_eq_true, if_false] at cI
          go_wp2_with (go_at_call 20; refine (cI _).mono ?_; rintro e w' ⟨rfl, hw'⟩; have hw2 := hw'.symm; subst hw2)
          go_ret2
          exact ⟨by rw [H2.out.1, H2.out.2]; rfl, K3.out.trans hK.out⟩
        · simp only [if_true] at cI
          go_wp2_with (go_at_call 20; refine (cI _).mono ?_; rintro e w' ⟨rfl, hw'⟩; have hw2 := hw'.symm; subst hw2)
          go_ret2
          exact ⟨by rw [H2.out.1, H2.out.2]; rfl, K3.out.trans hK.out⟩
      · have hin := inB_iff.1 Hok.out
        have HA2 : Hid (firstsB c (k + 1) = true) := by show (firstsB c k && _) = true; rw [HA.out]; unfold numOkB; rw [hgx]; exact Hok.out
        obtain ⟨NX, HNX⟩ : ∃ y : List UInt8, Hid (numL x = y) := ⟨_, rfl⟩
        have bnx : NX.length ≤ 9 := by rw [← HNX.out]; exact numL_length (by omega) (by omega)
        have cN : ∀ W, Calls Tryd.prog 21 #[.int .i64 x] W fun e w' => e = .returned (strV NX) ∧ Keeps W w' := fun W => by rw [← HNX.out]; exact l14Num_any _ W (by omega) (by omega)
        obtain ⟨P1, hP1⟩ : ∃ y : List UInt8, l ++ [32] = y := ⟨_, rfl⟩
        have HP1 : Hid (l ++ [32] = P1) := hP1
        clear hP1
        have p1 : P1.length ≤ 7 + 20 * k := by rw [← HP1.out]; simp; omega
        obtain ⟨P2, HP2⟩ : ∃ y : List UInt8, Hid (P1 ++ NX = y) := ⟨_, rfl⟩
        have p2 : P2.length ≤ 16 + 20 * k := by rw [← HP2.out]; simp; omega
        have a1 : ∀ W : World, (Op.stringOp .add ⟨l.toArray⟩ ⟨#[32]⟩).run Tryd.prog W = .ok (strV P1) W := fun W => by rw [show (#[32] : Array UInt8) = [32].toArray from rfl, run_addStr W _ _ (by omega) (by simp), HP1.out]
        have a2 : ∀ W : World, (Op.stringOp .add ⟨P1.toArray⟩ ⟨NX.toArray⟩).run Tryd.prog W = .ok (strV P2) W := fun W => by rw [run_addStr W _ _ (by omega) (by omega), HP2.out]
        have HE2 : Hid (P2 = lineK c (k + 1)) := by show P2 = lineK c k ++ [32] ++ numL ((numsL c).getD k 0); rw [hgx, ← HE.out, HP1.out, HNX.out, HP2.out]
        clear HE HP1 HP2 HNX hx hgx
        cases LB
        · simp only [Bool.false_eq_true, if_false] at cI
          go_wp2_with (first
            | (go_at_call 20; refine (cI _).mono ?_; rintro e w' ⟨rfl, hw'⟩; have hw2 := hw'.symm; subst hw2)
            | (go_at_call 21; refine (cN _).mono ?_; rintro e w5 ⟨rfl, k5⟩))
          exact ⟨⟨k + 1, P2, by omega, by omega, by go_num, rfl, HE2, HA2, hK.out.trans k5⟩, by simp only [intOf]; omega⟩
        · simp only [if_true] at cI
          go_wp2_with (first
            | (go_at_call 20; refine (cI _).mono ?_; rintro e w' ⟨rfl, hw'⟩; have hw2 := hw'.symm; subst hw2)
            | (go_at_call 21; refine (cN _).mono ?_; rintro e w5 ⟨rfl, k5⟩))
          exact ⟨⟨k + 1, P2, by omega, by omega, by go_num, rfl, HE2, HA2, hK.out.trans k5⟩, by simp only [intOf]; omega⟩
    · have hlt' : decide ((k : Int) < (n : Int)) = false := by simp; omega
      have HR : Hid (lineB c = true ∧ lineL c = l) := by
        have e : lineB c = true := by rw [HF.out, HN.out, show n = k from by omega]; exact HA.out
        refine ⟨e, ?_⟩
        unfold lineL
        rw [e, HN.out, show n = k from by omega]
        exact HE.out.symm
      go_wp2
      go_ret2
      exact ⟨by rw [HR.out.1, HR.out.2]; rfl, K3.out.trans hK.out⟩
end Go.Proofs.YtpikopdfkhagmaaDoor
