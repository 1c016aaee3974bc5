/-
  Rows of locks: the laws' own helpers over them.
-/
import Derived.Test.YtglemedcnapneaaLockRows
import Derived.Test.YtglemedcnapneaaPutC
import Derived.Deep.RegionHeld3
namespace Go.Proofs.Ytglemedcnapneaa
open Go.RowKit
variable {p p' : Bool}
attribute [local go_sem] Keeps.refl Keeps.alloc Keeps.drew Keeps.drewN

def sumW : List Lk → Nat
  | [] => 0
  | l :: r => l.waits.length + sumW r
theorem sumW_append (xs ys : List Lk) : sumW (xs ++ ys) = sumW xs + sumW ys := by
  induction xs with
  | nil => simp [sumW]
  | cons x r ih => simp only [List.cons_append, sumW, ih]; omega
theorem sumW_take {ls : List Lk} {k : Nat} {l : Lk} (h : ls[k]? = some l) : sumW (ls.take (k + 1)) = sumW (ls.take k) + l.waits.length := by
  rw [List.take_add_one, h, sumW_append]
  simp [sumW]
theorem sumW_le (ls : List Lk) (k : Nat) : sumW (ls.take k) ≤ sumW ls := by
  have := sumW_append (ls.take k) (ls.drop k)
  rw [List.take_append_drop] at this
  omega
theorem sumW_mem {ls : List Lk} {k : Nat} {l : Lk} (h : ls[k]? = some l) : l.waits.length ≤ sumW ls := by
  have := sumW_take h
  have := sumW_le ls (k + 1)
  omega
/-- How many numbers locks hold. -/
def sizeN (ls : List Lk) : Nat := ls.length + sumW ls
/-- What is left of a million beside them; -1 where they are more. -/
def szAll (ls : List Lk) : Int := if sizeN ls ≤ 1048576 then 1048576 - (sizeN ls : Int) else -1
def offN (ls : List Lk) (k : Nat) : Nat := k + sumW (ls.take k)
theorem offN_zero (ls : List Lk) : offN ls 0 = 0 := by simp [offN, sumW]
theorem offN_succ {ls : List Lk} {k : Nat} {l : Lk} (h : ls[k]? = some l) : offN ls (k + 1) = offN ls k + 1 + l.waits.length := by
  unfold offN
  rw [sumW_take h]
  omega
theorem offN_all (ls : List Lk) : offN ls ls.length = sizeN ls := by simp [offN, sizeN]
theorem offN_le {ls : List Lk} {k : Nat} (h : k ≤ ls.length) : offN ls k ≤ sizeN ls := by
  have := sumW_le ls k
  unfold offN sizeN
  omega

set_option maxRecDepth 100000 in
theorem szLock_any (o : Int) (a : Option Addr) (cap n : Nat) (left : Int) (w : World) (hl : n ≤ maxLen) (h0 : 0 ≤ left) (h1 : left ≤ 1048576) :
    Calls Try.prog 42 #[.agg #[.int .i64 o, .slice a n cap], .int .i64 left] w fun e w' => e = .returned (.int .i64 (szOf n left)) ∧ Keeps w w' := by
  by_cases h : (n : Int) ≤ left
  · have Hz : Hid (szOf n left = left - n) := if_pos h
    have hz : decide (left - (n : Int) < 0) = false := by simp; omega
    go_enter Try.func42, Try.ntmps42
    go_wp2_with (go_at_call 65; refine (szIntS_any _ _ _ _ _ hl h0 h1).mono ?_; rintro e w1 ⟨rfl, rfl⟩; rw [Hz.out])
    go_ret
    exact ⟨by rw [Hz.out]; rfl, (Keeps.refl _).alloc _⟩
  · have Hz : Hid (szOf n left = -1) := if_neg h
    go_enter Try.func42, Try.ntmps42
    go_wp2_with (go_at_call 65; refine (szIntS_any _ _ _ _ _ hl h0 h1).mono ?_; rintro e w1 ⟨rfl, rfl⟩; rw [Hz.out])
    go_ret
    exact ⟨by rw [Hz.out]; rfl, (Keeps.refl _).alloc _⟩

set_option maxRecDepth 100000 in
set_option maxHeartbeats 1000000 in
theorem szLockS_any (a : Option Addr) (cap : Nat) (ls : List Lk) (w : World) (hl : ls.length ≤ maxLen) (hs : Lks p w a ls) :
    Calls Try.prog 13 #[.slice a ls.length cap, .int .i64 1048576] w fun e w' => e = .returned (.int .i64 (szAll ls)) ∧ Keeps w w' := by
  unfold maxLen at hl
  generalize hn : ls.length = n at hl
  have Hn : Hid (ls.length = n) := hn
  clear hn
  by_cases h0 : n ≤ 1048576
  · go_enter Try.func13, Try.ntmps13
    go_wp2
    go_loopw [1, 5] (fun c i wr => ∃ k : Nat, k ≤ n ∧ i = .int .i64 k ∧ Keeps w wr ∧ ∃ s : Nat, Hid (sumW (ls.take k) = s) ∧ n + s ≤ 1048576 ∧ c = .int .i64 (1048576 - (n : Int) - (s : Int))) (fun _ i _ => n - (intOf i).toNat)
    case atStart => exact ⟨0, Nat.zero_le _, rfl, Keeps.refl _, 0, by show _ = _; simp [sumW], by omega, by simp⟩
    case round =>
      obtain ⟨k, hk, rfl, hK, s, Hs, hs1, rfl⟩ := hrel
      by_cases hlt : k < n
      · obtain ⟨l, hl1⟩ := some_in (xs := ls) (k := k) (by rw [Hn.out]; exact hlt)
        obtain ⟨b, off, a', cap', rfl, r0, r1, hle, hns⟩ := hs.at hl1
        have hlt' : (k : Int) < (n : Int) := by omega
        have Hl : Hid (ls[k]? = some l) := hl1
        have Hle : Hid (l.waits.length ≤ maxLen) := hle
        clear hs hl1 hns hle
        obtain ⟨m, Hm⟩ : ∃ m : Nat, Hid (l.waits.length = m) := ⟨_, rfl⟩
        rw [Hm.out] at r1
        by_cases hf : (m : Int) ≤ 1048576 - (n : Int) - (s : Int)
        · have Hz : Hid (szOf m (1048576 - (n : Int) - (s : Int)) = 1048576 - (n : Int) - (s : Int) - m) := if_pos hf
          have hz : decide (1048576 - (n : Int) - (s : Int) - (m : Int) < 0) = false := by simp; omega
          go_wp2_with (go_at_call 42; refine (szLock_any _ _ _ _ _ _ (by have := Hle.out; rw [Hm.out] at this; exact this) (by omega) (by omega)).mono ?_; rintro e w1 ⟨rfl, k1⟩; rw [Hz.out])
          exact ⟨⟨k + 1, by omega, by go_num, hK.trans k1, s + m, by show _ = _; rw [sumW_take Hl.out, Hs.out, Hm.out], by omega, by rw [show 1048576 - (n : Int) - ((s + m : Nat) : Int) = 1048576 - (n : Int) - (s : Int) - (m : Int) from by omega]⟩, by simp only [intOf]; omega⟩
        · have Hz : Hid (szOf m (1048576 - (n : Int) - (s : Int)) = -1) := if_neg hf
          have Hr : Hid (szAll ls = -1) := by
            refine if_neg ?_
            have h1 := sumW_take Hl.out
            have h2 := sumW_le ls (k + 1)
            rw [Hs.out, Hm.out] at h1
            have h3 := Hn.out
            unfold sizeN
            omega
          go_wp2_with (go_at_call 42; refine (szLock_any _ _ _ _ _ _ (by have := Hle.out; rw [Hm.out] at this; exact this) (by omega) (by omega)).mono ?_; rintro e w1 ⟨rfl, k1⟩; rw [Hz.out])
          go_ret
          exact ⟨by rw [Hr.out]; rfl, hK.trans k1⟩
      · have e : k = n := by omega
        subst e
        have Hr : Hid (szAll ls = 1048576 - (k : Int) - (s : Int)) := by
          show _ = _
          have h1 := Hs.out
          rw [← Hn.out, List.take_length] at h1
          have h2 := Hn.out
          unfold szAll sizeN
          rw [if_pos (by omega)]
          omega
        go_wp2
        go_ret
        exact ⟨by rw [Hr.out]; rfl, hK⟩
  · have Hr : Hid (szAll ls = -1) := by
      refine if_neg ?_
      have h2 := Hn.out
      unfold sizeN
      omega
    go_enter Try.func13, Try.ntmps13
    go_wp2
    go_ret
    exact ⟨by rw [Hr.out]; rfl, Keeps.refl _⟩

set_option maxRecDepth 100000 in
set_option maxHeartbeats 1000000 in
theorem eqLock_same (o : Int) (a a' : Option Addr) (cap cap' : Nat) (xs : List Int) (w : World) (hl : xs.length ≤ maxLen) (hs : Ns w a xs) (hs' : Ns w a' xs) :
    Calls Try.prog 51 #[.agg #[.int .i64 o, .slice a xs.length cap], .agg #[.int .i64 o, .slice a' xs.length cap']] w fun e w' => e = .returned (.bool true) ∧ Keeps w w' := by
  have hoo : (o != o) = false := by simp
  have S1 : Hid (Ns w a xs) := hs
  have S2 : Hid (Ns w a' xs) := hs'
  clear hs hs'
  go_enter Try.func51, Try.ntmps51
  go_wp2_with (go_at_call 22; refine (eqIntS_same _ _ _ _ xs _ hl (S1.out.keeps (((Keeps.refl w).alloc _).alloc _)) (S2.out.keeps (((Keeps.refl w).alloc _).alloc _))).mono ?_; rintro e w1 ⟨rfl, k1⟩)
  go_ret
  exact ⟨rfl, (((Keeps.refl w).alloc _).alloc _).trans k1⟩

set_option maxRecDepth 100000 in
set_option maxHeartbeats 1000000 in
theorem eqLockS_same (a a' : Option Addr) (cap cap' : Nat) (ls : List Lk) (w : World) (hl : ls.length ≤ maxLen) (hs : Lks p w a ls) (hs' : Lks p' w a' ls) :
    Calls Try.prog 17 #[.slice a ls.length cap, .slice a' ls.length cap'] w fun e w' => e = .returned (.bool true) ∧ Keeps w w' := by
  unfold maxLen at hl
  generalize hn : ls.length = n at hl
  have Hn : Hid (ls.length = n) := hn
  clear hn
  have hne : ((n : Int) != (n : Int)) = false := by simp
  go_enter Try.func17, Try.ntmps17
  go_wp2
  go_loopw [5] (fun i wr => ∃ k : Nat, k ≤ n ∧ i = .int .i64 k ∧ Keeps w wr) (fun i _ => n - (intOf i).toNat)
  case atStart => exact ⟨0, Nat.zero_le _, rfl, Keeps.refl _⟩
  case round =>
    obtain ⟨k, hk, rfl, hK⟩ := hrel
    by_cases hlt : k < n
    · obtain ⟨l, hl1⟩ := some_in (xs := ls) (k := k) (by rw [Hn.out]; exact hlt)
      obtain ⟨b, off, a1, cap1, rfl, r0, r1, hle, hns⟩ := hs.at hl1
      obtain ⟨b', off', a2, cap2, rfl, r0', r1', _, hns'⟩ := hs'.at hl1
      have hlt' : (k : Int) < (n : Int) := by omega
      have Hle : Hid (l.waits.length ≤ maxLen) := hle
      have N1 : Hid (Ns w a1 l.waits) := hns
      have N2 : Hid (Ns w a2 l.waits) := hns'
      clear hs hs' hl1 hle hns hns'
      go_wp2_with fail
      go_region_held3 (fun w' => Keeps w w') (first | exact Keeps.drew (by assumption) | exact Keeps.trans (by assumption) (by assumption))
        (first
        | (go_at_call 51; refine (eqLock_same _ _ _ _ _ l.waits _ Hle.out (N1.out.keeps (by assumption)) (N2.out.keeps (by assumption))).mono ?_; rintro e w1 ⟨rfl, hb⟩))
      go_wp2
      exact ⟨⟨k + 1, by omega, by go_num, by assumption⟩, by simp only [intOf]; omega⟩
    · go_wp2
      go_ret
      exact ⟨rfl, hK⟩
end Go.Proofs.Ytglemedcnapneaa
