/-
  Locks that lie there, as the laws and later chapters hand them on.
  How much is left of what may be asked, once some locks are counted.
  The walks of the exact laws over ChainOf, LockAsk and LockFree, over contracts of the program's functions.
  What the laws call of locks that lie there: the program's functions.
-/
import Derived.Test.YthpdlbcdbncnhaaGreatDoorGLock2
import Derived.Test.YthpdlbcdbncnhaaGreatDoorGLock1
import Derived.Test.YthpdlbcdbncnhaaGreatDoorGLock3
namespace Go.Proofs.YthpdlbcdbncnhaaGreatDoor
open Go.RowKit

theorem len_le_size (ls : List Lk) : ls.length ≤ sizeN ls := by unfold sizeN; omega
/-- What the laws call of some locks that lie there. -/
structure On (w : World) (a : Option Addr) (m cap : Nat) (ls : List Lk) : Prop where
  len : ls.length = m
  size : sizeN ls ≤ 2097152
  lks : Lks true w a ls
  pl : Plain w a m cap
theorem On.keeps {w w' : World} {a : Option Addr} {m cap : Nat} {ls : List Lk} (h : On w a m cap ls) (k : Keeps w w') : On w' a m cap ls := ⟨h.len, h.size, h.lks.keeps k, h.pl.keeps k⟩
theorem On.small {w : World} {a : Option Addr} {m cap : Nat} {ls : List Lk} (h : On w a m cap ls) : ls.length ≤ maxLen := by have := len_le_size ls; have := h.size; unfold maxLen; omega
theorem On.of {w : World} {lo hi : Nat} {v : Value} {vs : List Lv} {ls : List Lk} (M : Mine w lo hi v vs ls) (h : sizeN ls ≤ 2097152) : ∃ a cap, v = .slice a ls.length cap ∧ On w a ls.length cap ls := by
  obtain ⟨a, cap, e, L, P, -⟩ := M.args
  exact ⟨a, cap, e, rfl, h, L, P⟩
section calls
variable {w w' : World} {a : Option Addr} {m cap : Nat} {ls : List Lk}
set_option maxRecDepth 100000 in
theorem On.sLocksOk (h : On w a m cap ls) {z : Bool} (hz : locksB ls = z) (k : Keeps w w') : Calls Tryz.prog 113 #[.slice a m cap] w' fun e w'' => e = .returned (.bool z) ∧ Keeps w' w'' := by
  have h' := h.keeps k
  have := specLocksOk_any a cap ls w' h'.size h'.lks
  rw [h'.len, hz] at this
  exact this
theorem On.at (h : On w a m cap ls) {i : Nat} {l : Lk} (hl : ls[i]? = some l) : i < m ∧ ∃ b off a' cap', a = some ⟨b, off, none⟩ ∧ (∀ w', Keeps w w' → w'.cell? ⟨b, off + i * 2, none⟩ = some (.int .i64 l.owner)) ∧ (∀ w', Keeps w w' → w'.cell? ⟨b, off + i * 2 + 1, none⟩ = some (.slice a' l.waits.length cap')) ∧ l.waits.length ≤ maxLen ∧ Ns w a' l.waits :=
  ⟨by rw [← h.len]; exact lt_of_some hl, h.lks.at hl⟩
set_option maxRecDepth 100000 in
theorem On.sChain (h : On w a m cap ls) (x : Int) (k : Keeps w w') : Calls Tryz.prog 159 #[.slice a m cap, .int .i64 x] w' fun e w'' => ∃ v, e = .returned (.tuple #[v, .bool (chainN ls (ls.length + 1) x).2]) ∧ OwnN w'' w'.heap.size v (chainN ls (ls.length + 1) x).1 ∧ Keeps w' w'' := by
  have h' := h.keeps k
  have := specChain_any a cap ls x w' (by have := len_le_size ls; have := h'.size; omega) h'.lks
  rw [h'.len] at this
  rw [h'.len]
  exact this
theorem On.all (h : On w a m cap ls) (hm : 0 < m) : ∃ b off, a = some ⟨b, off, none⟩ ∧ ∀ (i : Nat) (l : Lk), ls[i]? = some l → ∃ a' cap', (∀ w', Keeps w w' → w'.cell? ⟨b, off + i * 2, none⟩ = some (.int .i64 l.owner)) ∧ (∀ w', Keeps w w' → w'.cell? ⟨b, off + i * 2 + 1, none⟩ = some (.slice a' l.waits.length cap')) ∧ l.waits.length ≤ maxLen ∧ Ns w a' l.waits := by
  obtain ⟨l0, h0⟩ := some_in (xs := ls) (k := 0) (by rw [h.len]; exact hm)
  obtain ⟨-, b, off, _, _, rfl, -⟩ := h.at h0
  refine ⟨b, off, rfl, fun i l hl => ?_⟩
  obtain ⟨-, b', off', a', cap', e, r⟩ := h.at hl
  simp only [Option.some.injEq, Addr.mk.injEq] at e
  obtain ⟨rfl, rfl, -⟩ := e
  exact ⟨a', cap', r⟩
end calls
theorem Ns.take {w : World} {a : Option Addr} {xs : List Int} (h : Ns w a xs) (k : Nat) : Ns w a (xs.take k) := by
  rcases h with rfl | ⟨b, off, rfl, hb, h⟩
  · exact .inl (by simp)
  · refine .inr ⟨b, off, rfl, hb, fun i x hx => h i x ?_⟩
    rw [List.getElem?_take] at hx
    split at hx
    · exact hx
    · cases hx
/-- What a chain's cells hold. -/
theorem OwnN.cells {w : World} {base : Nat} {v : Value} {xs : List Int} (h : OwnN w base v xs) (hp : 0 < xs.length) : ∃ b cap, v = .slice (some ⟨b, 0, none⟩) xs.length cap ∧ xs.length ≤ cap ∧ ∀ (k : Nat) (x : Int), xs[k]? = some x → ∀ w', Keeps w w' → w'.cell? ⟨b, k, none⟩ = some (.int .i64 x) := by
  obtain ⟨b, cap, rfl⟩ := Own.blk h hp
  obtain ⟨_, _, e, _, h1, _⟩ := OwnN.ns h
  simp only [Value.slice.injEq] at e
  obtain ⟨rfl, -, rfl⟩ := e
  refine ⟨b, cap, rfl, h1, fun k x hx => Keeps.has ?_⟩
  have := Own.cellAt h ic_size (i := k) (k := 0) hx (by omega)
  simpa using this
end Go.Proofs.YthpdlbcdbncnhaaGreatDoor
namespace Go.Proofs.YthpdlbcdbncnhaaGreatDoor
open Go.RowKit
variable {p p' : Bool}
attribute [local go_sem] Keeps.refl Keeps.alloc Keeps.drew Keeps.drewN

def szLeft (ls : List Lk) (c0 : Int) : Int := if (sizeN ls : Int) ≤ c0 then c0 - (sizeN ls : Int) else -1

set_option maxRecDepth 100000 in
set_option maxHeartbeats 1000000 in
theorem szLockS_left (a : Option Addr) (cap : Nat) (ls : List Lk) (c0 : Int) (w : World) (hc0 : 0 ≤ c0) (hc1 : c0 ≤ 1048576) (hl : ls.length ≤ maxLen) (hs : Lks p w a ls) :
    Calls Tryz.prog 32 #[.slice a ls.length cap, .int .i64 c0] w fun e w' => e = .returned (.int .i64 (szLeft ls c0)) ∧ Keeps w w' := by
  unfold maxLen at hl
  generalize hn : ls.length = n at hl
  have Hn : Hid (ls.length = n) := hn
  clear hn
  by_cases h0 : (n : Int) ≤ c0
  · go_enter Tryz.func32, Tryz.ntmps32
    go_wp2
    go_loopw [1, 5] (fun c i wr => ∃ k : Nat, k ≤ n ∧ i = .int .i64 k ∧ Keeps w wr ∧ ∃ s : Nat, Hid (sumW (ls.take k) = s) ∧ (n : Int) + (s : Int) ≤ c0 ∧ c = .int .i64 (c0 - (n : Int) - (s : Int))) (fun _ i _ => n - (intOf i).toNat)
    case atStart => exact ⟨0, Nat.zero_le _, rfl, Keeps.refl _, 0, by show _ = _; simp [sumW], by omega, by simp⟩
    case round =>
      obtain ⟨k, hk, rfl, hK, s, Hs, hs1, rfl⟩ := hrel
      by_cases hlt : k < n
      · obtain ⟨l, hl1⟩ := some_in (xs := ls) (k := k) (by rw [Hn.out]; exact hlt)
        obtain ⟨b, off, a', cap', rfl, r0, r1, hle, hns⟩ := hs.at hl1
        have hlt' : (k : Int) < (n : Int) := by omega
        have Hl : Hid (ls[k]? = some l) := hl1
        have Hle : Hid (l.waits.length ≤ maxLen) := hle
        clear hs hl1 hns hle
        obtain ⟨m, Hm⟩ : ∃ m : Nat, Hid (l.waits.length = m) := ⟨_, rfl⟩
        rw [Hm.out] at r1
        by_cases hf : (m : Int) ≤ c0 - (n : Int) - (s : Int)
        · have Hz : Hid (szOf m (c0 - (n : Int) - (s : Int)) = c0 - (n : Int) - (s : Int) - m) := if_pos hf
          have hz : decide (c0 - (n : Int) - (s : Int) - (m : Int) < 0) = false := by simp; omega
          go_wp2_with (go_at_call 76; refine (szLock_any _ _ _ _ _ _ (by have := Hle.out; rw [Hm.out] at this; exact this) (by omega) (by omega)).mono ?_; rintro e w1 ⟨rfl, k1⟩; rw [Hz.out])
          exact ⟨⟨k + 1, by omega, by go_num, hK.trans k1, s + m, by show _ = _; rw [sumW_take Hl.out, Hs.out, Hm.out], by omega, by rw [show c0 - (n : Int) - ((s + m : Nat) : Int) = c0 - (n : Int) - (s : Int) - (m : Int) from by omega]⟩, by simp only [intOf]; omega⟩
        · have Hz : Hid (szOf m (c0 - (n : Int) - (s : Int)) = -1) := if_neg hf
          have Hr : Hid (szLeft ls c0 = -1) := by
            refine if_neg ?_
            have h1 := sumW_take Hl.out
            have h2 := sumW_le ls (k + 1)
            rw [Hs.out, Hm.out] at h1
            have h3 := Hn.out
            unfold sizeN
            omega
          go_wp2_with (go_at_call 76; refine (szLock_any _ _ _ _ _ _ (by have := Hle.out; rw [Hm.out] at this; exact this) (by omega) (by omega)).mono ?_; rintro e w1 ⟨rfl, k1⟩; rw [Hz.out])
          go_ret
          exact ⟨by rw [Hr.out]; rfl, hK.trans k1⟩
      · have e : k = n := by omega
        subst e
        have Hr : Hid (szLeft ls c0 = c0 - (k : Int) - (s : Int)) := by
          show _ = _
          have h1 := Hs.out
          rw [← Hn.out, List.take_length] at h1
          have h2 := Hn.out
          unfold szLeft sizeN
          rw [if_pos (by omega)]
          omega
        go_wp2
        go_ret
        exact ⟨by rw [Hr.out]; rfl, hK⟩
  · have Hr : Hid (szLeft ls c0 = -1) := by
      refine if_neg ?_
      have h2 := Hn.out
      unfold sizeN
      omega
    go_enter Tryz.func32, Tryz.ntmps32
    go_wp2
    go_ret
    exact ⟨by rw [Hr.out]; rfl, Keeps.refl _⟩

end Go.Proofs.YthpdlbcdbncnhaaGreatDoor
namespace Go.Proofs.YthpdlbcdbncnhaaGreatDoor
open Go.RowKit
variable {p : Bool}
attribute [local go_sem] Keeps.refl Keeps.alloc Keeps.drew Keeps.drewN

theorem sumW_set : ∀ {ls : List Lk} {j : Nat} {l : Lk} (m : Lk), ls[j]? = some l → sumW (ls.set j m) + l.waits.length = sumW ls + m.waits.length
  | [], j, l, m, h => by simp at h
  | x :: r, 0, l, m, h => by
    simp at h
    subst h
    simp only [List.set_cons_zero, sumW]
    omega
  | x :: r, j + 1, l, m, h => by
    have := sumW_set (ls := r) (j := j) m (by simpa using h)
    simp only [List.set_cons_succ, sumW]
    omega
theorem sizeN_set {ls : List Lk} {j : Nat} {l : Lk} (m : Lk) (h : ls[j]? = some l) : sizeN (ls.set j m) + l.waits.length = sizeN ls + m.waits.length := by
  have := sumW_set m h
  unfold sizeN
  rw [List.length_set]
  omega
theorem sizeN_modify {ls : List Lk} (f : Lk → Lk) (j : Nat) (hf : ∀ l, (f l).waits.length ≤ l.waits.length + 1) : sizeN (ls.modify j f) ≤ sizeN ls + 1 := by
  cases h : ls[j]? with
  | none =>
    have hl : ls.length ≤ j := by
      rcases Nat.lt_or_ge j ls.length with h1 | h1
      · rw [List.getElem?_eq_getElem h1] at h; cases h
      · exact h1
    have : ls.modify j f = ls := by
      apply List.ext_getElem?
      intro i
      rw [List.getElem?_modify]
      by_cases e : j = i
      · subst e; rw [h]; rfl
      · simp [e]
    rw [this]; omega
  | some l =>
    rw [modify_set h]
    have := sizeN_set (f l) h
    have := hf l
    omega
theorem askL_size (ls : List Lk) (i no : Int) : sizeN (askL ls i no) ≤ sizeN ls + 1 := by
  unfold askL
  split
  · simp [sizeN, sumW]
  · split
    · exact sizeN_modify _ _ fun l => by simp [setOwner]
    · split
      · exact sizeN_modify _ _ fun l => by simp [addWait]
      · omega
theorem freeL_size (ls : List Lk) (i no next : Int) : sizeN (freeL ls i no next) ≤ sizeN ls + 1 := by
  unfold freeL
  split
  · simp [sizeN, sumW]
  · split
    · exact sizeN_modify _ _ fun l => by have := lessL_le l.waits next; simp [freed]; omega
    · omega
theorem chainL_size (ls : List Lk) (no : Int) : (chainL ls no).length ≤ ls.length + 2 := by
  unfold chainL
  split
  · exact chainN_len ls _ no
  · simp

end Go.Proofs.YthpdlbcdbncnhaaGreatDoor
namespace Go.Proofs.YthpdlbcdbncnhaaGreatDoor
open Go.RowKit

section calls
variable {w w' : World} {a : Option Addr} {m cap : Nat} {ls : List Lk}
set_option maxRecDepth 100000 in
theorem On.iLocksOk (H : SaysLocksOk) (h : On w a m cap ls) {z : Bool} (hz : locksB ls = z) (k : Keeps w w') : Calls Tryz.prog 174 #[.slice a m cap] w' fun e w'' => e = .returned (.bool z) ∧ Keeps w' w'' := by
  have h' := h.keeps k
  have := H a cap ls w' h'.size (by rw [h'.len]; exact h'.pl) h'.lks
  rw [h'.len, hz] at this
  exact this
set_option maxRecDepth 100000 in
theorem On.iChainOf (H : SaysChainOf) (h : On w a m cap ls) (x : Int) {C : List Int} (hz : chainL ls x = C) (k : Keeps w w') : Calls Tryz.prog 193 #[.slice a m cap, .int .i64 x] w' fun e w'' => ∃ v, e = .returned v ∧ OwnN w'' w'.heap.size v C ∧ Keeps w' w'' := by
  have h' := h.keeps k
  have := H a cap ls x w' h'.size (by rw [h'.len]; exact h'.pl) h'.lks
  rw [h'.len, hz] at this
  exact this
end calls
end Go.Proofs.YthpdlbcdbncnhaaGreatDoor
