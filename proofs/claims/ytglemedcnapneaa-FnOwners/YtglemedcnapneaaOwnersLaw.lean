/-
  The walk of FnOwners, over contracts of the program's functions.
-/
import Derived.Test.YtglemedcnapneaaLockSame
namespace Go.Proofs.Ytglemedcnapneaa
open Go.RowKit
attribute [local go_sem] Keeps.refl Keeps.alloc Keeps.drew Keeps.drewN

theorem ownsB_take {ls : List Lk} {k : Nat} {l : Lk} (h : ls[k]? = some l) (no : Int) : ownsB (ls.take (k + 1)) no = (ownsB (ls.take k) no || (no != 0 && l.owner == no)) := by
  rw [List.take_add_one, h]
  simp [ownsB]

set_option maxRecDepth 100000 in
set_option maxHeartbeats 8000000 in
theorem owners_walk (HO : SaysOwnsAny) (HW : SaysWaitAt) (a : Option Addr) (n cap : Nat) (w : World) (hm : n ≤ maxLen) (hb : ∀ g, w.heap.size ≤ g → Bytes g w a n) :
    Calls Try.prog 12 #[.slice a n cap] w fun e w' => e = .returned (.bool true) ∧ Keeps w w' := by
  have hO : Hid SaysOwnsAny := HO
  have hW : Hid SaysWaitAt := HW
  have HB : Hid (∀ g, w.heap.size ≤ g → Bytes g w a n) := hb
  clear HO HW hb
  by_cases hn : n ≤ 1048576
  · have hd : decide (1048576 < (n : Int)) = false := by simp; omega
    go_enter Try.func12, Try.ntmps12
    go_wp2_with fail
    refine (big_any _ _ _ _ hm).mono ?_
    rintro e w0 ⟨rfl, hw0⟩
    have hw2 := hw0.symm
    subst hw2
    clear hw0
    rw [hd]
    go_wp2_with fail
    refine (drawOwnsAny_any _ _ _ _ hn HB.out).mono ?_
    rintro e w1 ⟨v, ls, no, rfl, D⟩
    clear hd
    obtain ⟨a1, c1, rfl, L, P⟩ := D.args
    have HL : Hid (Lks true w1 a1 ls) := L
    have HP : Hid (Plain w1 a1 ls.length c1) := P
    have HZ : Hid (sizeN ls ≤ 2097152) := Nat.le_trans D.size (by decide)
    have hm6 := D.le
    have k1 := D.keep
    clear D L P
    obtain ⟨g, Hg⟩ : ∃ g, Hid (ownsB ls no = g) := ⟨_, rfl⟩
    obtain ⟨m, Hm⟩ : ∃ m, Hid (ls.length = m) := ⟨_, rfl⟩
    rw [Hm.out] at hm6 ⊢
    go_wp2_with fail
    have c2 := hO.out a1 c1 ls no w1 HZ.out HP.out HL.out
    rw [Hm.out, Hg.out] at c2
    refine c2.mono ?_
    clear c2
    rintro e w2 ⟨rfl, k2⟩
    go_wp2_with fail
    have c3 := specOwnsAny_any a1 c1 ls no w2 (by rw [Hm.out]; unfold maxLen; omega) (HL.out.keeps k2)
    rw [Hm.out, Hg.out] at c3
    refine c3.mono ?_
    clear c3
    rintro e w3 ⟨rfl, k3⟩
    have K13 : Hid (Keeps w1 w3) := k2.trans k3
    have n0 : (g != g) = false := by simp
    go_wp2
    go_loopw [6, 7] (fun s i wr => ∃ (k : Nat) (q : Bool), k ≤ m ∧ i = .int .i64 k ∧ s = .bool q ∧ Hid (ownsB (ls.take k) no = q) ∧ Keeps w1 wr) (fun _ i _ => m - (intOf i).toNat)
    case atStart => exact ⟨0, false, Nat.zero_le _, rfl, rfl, by show _ = _; simp [ownsB], K13.out⟩
    case round =>
      obtain ⟨k, q, hk, rfl, rfl, Hq, hK⟩ := hrel
      by_cases hlt : k < m
      · obtain ⟨l, hl1⟩ := some_in (xs := ls) (k := k) (by rw [Hm.out]; exact hlt)
        have hlt' : (k : Int) < (m : Int) := by omega
        have HT : Hid (ownsB (ls.take (k + 1)) no = (q || (no != 0 && l.owner == no))) := by show _ = _; rw [ownsB_take hl1, Hq.out]
        obtain ⟨b, off, a', cap', rfl, r0, -, -, -⟩ := HL.out.at hl1
        clear hl1
        cases q
        · cases e0 : (no != 0)
          · have HT2 : Hid (ownsB (ls.take (k + 1)) no = false) := by show _ = _; rw [HT.out, e0]; rfl
            go_wp2
            exact ⟨⟨k + 1, false, by omega, by go_num, rfl, HT2, hK⟩, by simp only [intOf]; omega⟩
          · have HT2 : Hid (ownsB (ls.take (k + 1)) no = (l.owner == no)) := by show _ = _; rw [HT.out, e0]; simp
            go_wp2
            exact ⟨⟨k + 1, _, by omega, by go_num, rfl, HT2, hK⟩, by simp only [intOf]; omega⟩
        · have HT2 : Hid (ownsB (ls.take (k + 1)) no = true) := by show _ = _; rw [HT.out]; rfl
          go_wp2
          exact ⟨⟨k + 1, true, by omega, by go_num, rfl, HT2, hK⟩, by simp only [intOf]; omega⟩
      · have e : k = m := by omega
        subst e
        have Hq2 : g = q := by rw [← Hg.out, ← Hq.out, ← Hm.out, List.take_length]
        subst Hq2
        go_wp2_with fail
        refine (drawWaitAt_any _ _ _ _ hn (fun g hg => (HB.out g (Nat.le_trans (k1.trans hK).size hg)).but (.of (k1.trans hK)))).mono ?_
        rintro e w4 ⟨v4, ls4, x, rfl, D4⟩
        obtain ⟨a4, c4, rfl, L4, P4⟩ := D4.args
        have HL4 : Hid (Lks true w4 a4 ls4) := L4
        have HP4 : Hid (Plain w4 a4 ls4.length c4) := P4
        have HZ4 : Hid (sizeN ls4 ≤ 2097152) := Nat.le_trans D4.size (by decide)
        have hm4 := D4.le
        have K4 : Keeps w w4 := (k1.trans hK).trans D4.keep
        clear D4 L4 P4 HL HP HZ
        obtain ⟨m4, Hm4⟩ : ∃ m, Hid (ls4.length = m) := ⟨_, rfl⟩
        obtain ⟨at4, Ha4⟩ : ∃ z, Hid (waitAt ls4 x = z) := ⟨_, rfl⟩
        rw [Hm4.out] at hm4 ⊢
        go_wp2_with fail
        have c5 := hW.out a4 c4 ls4 x w4 HZ4.out HP4.out HL4.out
        rw [Hm4.out, Ha4.out] at c5
        refine c5.mono ?_
        clear c5
        rintro e w5 ⟨rfl, k5⟩
        go_wp2_with fail
        have c6 := specWaitAt_any a4 c4 ls4 x w5 (by rw [Hm4.out]; unfold maxLen; omega) (HL4.out.keeps k5)
        rw [Hm4.out, Ha4.out] at c6
        refine c6.mono ?_
        clear c6
        rintro e w6 ⟨rfl, k6⟩
        have K46 : Hid (Keeps w4 w6) := k5.trans k6
        have K6 : Hid (Keeps w w6) := K4.trans K46.out
        have n1 : (at4 != at4) = false := by simp
        have n2 : (g == g) = true := by simp
        cases hx : waitIx ls4 x with
        | none =>
          have e4 : at4 = -1 := by rw [← Ha4.out]; simp [waitAt, hx]
          subst e4
          go_wp2
          go_ret
          exact ⟨rfl, K6.out⟩
        | some i =>
          have e4 : at4 = (i : Int) := by rw [← Ha4.out]; simp [waitAt, hx]
          subst e4
          obtain ⟨l, hl1, hl2, -⟩ := waitIx_some hx
          have Hl2 : Hid (hasB l.waits x = true) := hl2
          have hi : i < m4 := by rw [← Hm4.out]; exact lt_of_some hl1
          have hi' : (i : Int) < (m4 : Int) := by omega
          have hneg : decide ((i : Int) < 0) = false := by simp
          obtain ⟨b, off, a', cap', rfl, -, r1, hle, hns⟩ := HL4.out.at hl1
          have r1' := r1 _ K46.out
          have Hle : Hid (l.waits.length ≤ maxLen) := hle
          have N1 : Hid (Ns w4 a' l.waits) := hns
          clear hl1 hl2 hx r1 hle hns
          go_wp2_with (go_at_call 36; refine (within_any _ _ l.waits x _ Hle.out (N1.out.keeps K46.out)).mono ?_; rintro e w7 ⟨rfl, k7⟩; rw [Hl2.out])
          go_ret
          exact ⟨rfl, K6.out.trans k7⟩
  · have hd : decide (1048576 < (n : Int)) = true := by simp; omega
    go_enter Try.func12, Try.ntmps12
    go_wp2_with (go_at_call 33; refine (big_any _ _ _ _ hm).mono ?_; rintro e w0 ⟨rfl, hw0⟩; have hw2 := hw0.symm; subst hw2; rw [hd])
    go_ret
    exact ⟨rfl, Keeps.refl _⟩
end Go.Proofs.Ytglemedcnapneaa
