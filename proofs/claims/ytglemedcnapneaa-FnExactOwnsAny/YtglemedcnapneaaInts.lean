/-
  Rows of numbers: the laws' own helpers over them.
-/
import Derived.Test.YtglemedcnapneaaGrow
import Derived.Test.YtglemedcnapneaaLockPure
namespace Go.Proofs.Ytglemedcnapneaa
open Go.RowKit
attribute [local go_sem] Keeps.refl Keeps.alloc Keeps.drew Keeps.drewN

theorem some_in {α : Type} {xs : List α} {k : Nat} (h : k < xs.length) : ∃ x, xs[k]? = some x := ⟨xs[k], List.getElem?_eq_getElem h⟩
theorem lt_of_some {α : Type} {xs : List α} {k : Nat} {x : α} (h : xs[k]? = some x) : k < xs.length := by
  rcases Nat.lt_or_ge k xs.length with h' | h'
  · exact h'
  · rw [List.getElem?_eq_none h'] at h; cases h
/-- The cells of a number. -/
abbrev ic (x : Int) : Array Value := #[.int .i64 x]
theorem ic_size (x : Int) : (ic x).size = 1 := rfl
theorem ic_one (x : Int) : ∀ u ∈ (ic x).toList, u.oneCell' = true := by
  intro u hu
  simp at hu
  subst hu
  rfl
/-- The numbers xs lie there. -/
def Ns (w : World) (a : Option Addr) (xs : List Int) : Prop := xs = [] ∨ ∃ b off, a = some ⟨b, off, none⟩ ∧ b < w.heap.size ∧ ∀ i x, xs[i]? = some x → w.cell? ⟨b, off + i, none⟩ = some (.int .i64 x)
theorem Ns.keeps {w w' : World} {a : Option Addr} {xs : List Int} (h : Ns w a xs) (k : Keeps w w') : Ns w' a xs := by
  rcases h with h | ⟨b, off, rfl, hb, h⟩
  · exact .inl h
  · exact .inr ⟨b, off, rfl, Nat.lt_of_lt_of_le hb k.size, fun i x hx => (k.cells _ _ hb).trans (h i x hx)⟩
theorem Ns.at {w : World} {a : Option Addr} {xs : List Int} (h : Ns w a xs) {i : Nat} {x : Int} (hx : xs[i]? = some x) :
    ∃ b off, a = some ⟨b, off, none⟩ ∧ ∀ w', Keeps w w' → w'.cell? ⟨b, off + i, none⟩ = some (.int .i64 x) := by
  rcases h with rfl | ⟨b, off, rfl, hb, h⟩
  · simp at hx
  · exact ⟨b, off, rfl, fun w' k => (k.cells _ _ hb).trans (h i x hx)⟩
theorem Ns.of_lies {w : World} {a : Option Addr} {xs : List Int} (h : Lies 1 ic w a xs) : Ns w a xs := by
  rcases h with h | ⟨b, off, rfl, hb, h⟩
  · exact .inl h
  · exact .inr ⟨b, off, rfl, hb, fun i x hx => by simpa using h i x hx 0 (by omega)⟩
theorem Ns.lies {w : World} {a : Option Addr} {xs : List Int} (h : Ns w a xs) : Lies 1 ic w a xs := by
  rcases h with h | ⟨b, off, rfl, hb, h⟩
  · exact .inl h
  · refine .inr ⟨b, off, rfl, hb, fun i x hx k hk => ?_⟩
    obtain rfl : k = 0 := by omega
    simpa using h i x hx
/-- A row of numbers of one's own. -/
abbrev OwnN (w : World) (base : Nat) (v : Value) (xs : List Int) : Prop := Own 3 1 ic w base v xs
theorem flatC_ic (xs : List Int) : flatC ic xs = xs.map fun x => .int .i64 x := by
  induction xs with
  | nil => rfl
  | cons x r ih =>
    show (ic x).toList ++ flatC ic r = _
    rw [ih]; rfl
theorem OwnN.ns {w : World} {base : Nat} {v : Value} {xs : List Int} (h : OwnN w base v xs) : ∃ a cap, v = .slice a xs.length cap ∧ Ns w a xs ∧ xs.length ≤ cap ∧ cap ≤ maxLen := by
  obtain ⟨a, cap, e, l, h1, h2⟩ := h.slice ic_size
  exact ⟨a, cap, e, .of_lies l, h1, h2⟩
theorem OwnN.of {w : World} {base b cap : Nat} {xs : List Int} {ys : List Value} (h : w.ownsRow base 3 1 (.slice (some ⟨b, 0, none⟩) xs.length cap) xs.length ys) (hy : ∀ (j : Nat) (x : Int), xs[j]? = some x → ys[j]? = some (.int .i64 x)) : OwnN w base (.slice (some ⟨b, 0, none⟩) xs.length cap) xs := by
  have e : ys = flatC ic xs := by
    rw [flatC_ic]
    have hl : ys.length = xs.length := by have := h.1; omega
    apply List.ext_getElem?
    intro j
    rcases Nat.lt_or_ge j xs.length with hj | hj
    · rw [hy j xs[j] (List.getElem?_eq_getElem hj)]
      simp [hj]
    · rw [List.getElem?_eq_none (by omega), List.getElem?_eq_none (by simpa using hj)]
  unfold OwnN Own
  rw [← e]
  exact h

/-- What is left behind n more; -1 where that is too little. -/
def szOf (n : Nat) (left : Int) : Int := if (n : Int) ≤ left then left - n else -1
set_option maxRecDepth 100000 in
theorem szIntS_any (a : Option Addr) (cap n : Nat) (left : Int) (w : World) (hl : n ≤ maxLen) (h0 : 0 ≤ left) (h1 : left ≤ 1048576) :
    Calls Try.prog 65 #[.slice a n cap, .int .i64 left] w fun e w' => e = .returned (.int .i64 (szOf n left)) ∧ w' = w := by
  unfold maxLen at hl
  unfold szOf
  by_cases h : (n : Int) ≤ left
  · rw [if_pos h]
    go_enter Try.func65, Try.ntmps65
    go_wp2
    go_ret
    exact ⟨rfl, rfl⟩
  · rw [if_neg h]
    go_enter Try.func65, Try.ntmps65
    go_wp2
    go_ret
    exact ⟨rfl, rfl⟩

set_option maxRecDepth 100000 in
set_option maxHeartbeats 1000000 in
theorem eqIntS_same (a a' : Option Addr) (cap cap' : Nat) (xs : List Int) (w : World) (hl : xs.length ≤ maxLen) (hs : Ns w a xs) (hs' : Ns w a' xs) :
    Calls Try.prog 22 #[.slice a xs.length cap, .slice a' xs.length cap'] w fun e w' => e = .returned (.bool true) ∧ Keeps w w' := by
  unfold maxLen at hl
  generalize hn : xs.length = n at hl
  have Hn : Hid (xs.length = n) := hn
  clear hn
  have hne : ((n : Int) != (n : Int)) = false := by simp
  go_enter Try.func22, Try.ntmps22
  go_wp2
  go_loopw [5] (fun i wr => ∃ k : Nat, k ≤ n ∧ i = .int .i64 k ∧ Keeps w wr) (fun i _ => n - (intOf i).toNat)
  case atStart => exact ⟨0, Nat.zero_le _, rfl, Keeps.refl _⟩
  case round =>
    obtain ⟨k, hk, rfl, hK⟩ := hrel
    by_cases hlt : k < n
    · obtain ⟨x, hx⟩ := some_in (xs := xs) (k := k) (by rw [Hn.out]; exact hlt)
      obtain ⟨b, off, rfl, r0⟩ := hs.at hx
      obtain ⟨b', off', rfl, r0'⟩ := hs'.at hx
      have hlt' : (k : Int) < (n : Int) := by omega
      have hxx : (x != x) = false := by simp
      clear hs hs' hx
      go_wp2_with fail
      go_region
      go_wp2
      exact ⟨⟨k + 1, by omega, by go_num, hK.drew⟩, by simp only [intOf]; omega⟩
    · go_wp2
      go_ret
      exact ⟨rfl, hK⟩

set_option maxRecDepth 100000 in
set_option maxHeartbeats 2000000 in
theorem toIntS_any (a : Option Addr) (cap : Nat) (xs : List Int) (w : World) (hl : xs.length ≤ 1048576) (hs : Ns w a xs) :
    Calls Try.prog 66 #[.slice a xs.length cap] w fun e w' => e = .returned (.slice (some ⟨w.heap.size, 0, none⟩) xs.length xs.length) ∧ OwnN w' w.heap.size (.slice (some ⟨w.heap.size, 0, none⟩) xs.length xs.length) xs ∧ Keeps w w' := by
  generalize hn : xs.length = n at hl
  have Hn : Hid (xs.length = n) := hn
  clear hn
  obtain ⟨C, hC, hmk⟩ := run_make_any (P := Try.prog) 31 3 (.int .i64 0) 1 8 Try.underlying31 (by kernel_rfl) n (by omega) (by omega)
  have row0 : Hid ((w.alloc (.cells C 3)).ownsRow w.heap.size 3 1 (.slice (some ⟨w.heap.size, 0, none⟩) n n) n C.toList) := World.ownsRow_lit w C n (Nat.le_refl _) (by unfold maxLen; omega) hC
  clear hC
  go_enter Try.func66, Try.ntmps66
  go_wp2
  go_loopw [4] (fun i wr => ∃ (k : Nat) (ys : List Value), k ≤ n ∧ i = .int .i64 k ∧ Keeps w wr ∧ Hid (wr.ownsRow w.heap.size 3 1 (.slice (some ⟨w.heap.size, 0, none⟩) n n) n ys) ∧ Hid (∀ j x, j < k → xs[j]? = some x → ys[j]? = some (.int .i64 x))) (fun i _ => n - (intOf i).toNat)
  case atStart => exact ⟨0, _, Nat.zero_le _, rfl, (Keeps.refl _).alloc _, row0, fun j _ hj => by omega⟩
  case round =>
    obtain ⟨k, ys, hk, rfl, hK, hrow, hf⟩ := hrel
    clear hmk row0
    by_cases hlt : k < n
    · obtain ⟨x, hx⟩ := some_in (xs := xs) (k := k) (by rw [Hn.out]; exact hlt)
      obtain ⟨b, off, rfl, r0⟩ := hs.at hx
      have Hx : Hid (xs[k]? = some x) := hx
      clear hx hs
      have hlt' : (k : Int) < (n : Int) := by omega
      have hyl : Hid (k < ys.length) := by show _ < _; have := hrow.out.1; omega
      obtain ⟨y, s0⟩ : ∃ y, wr.cell? ⟨w.heap.size, k, none⟩ = some y := by
        obtain ⟨y, hy⟩ := some_in hyl.out
        exact ⟨y, (hrow.out.cellAt k (by omega)).trans hy⟩
      have s1 := hrow.out.frozenAt k
      go_wp2
      refine ⟨⟨k + 1, ys.set k (.int .i64 x), by omega, by go_num, hK.setCell (p := ⟨w.heap.size, k, none⟩) (Nat.le_refl _) _, (hrow.out.stored k (.int .i64 x)).1, ?_⟩, by simp only [intOf]; omega⟩
      intro j z hj hjz
      by_cases hjk : j = k
      · subst hjk
        rw [Hx.out] at hjz
        cases hjz
        rw [List.getElem?_set_self hyl.out]
      · rw [List.getElem?_set_ne (Ne.symm hjk)]
        exact hf.out j z (by omega) hjz
    · have e : k = n := by omega
      subst e
      go_wp2
      go_ret
      have hrow' := hrow.out
      have hf' := hf.out
      rw [← Hn.out] at hrow' hf' ⊢
      exact ⟨rfl, .of hrow' (fun j x hx => hf' j x (lt_of_some hx) hx), hK⟩

/-- n numbers from k on. -/
def upFrom (k : Int) (n : Nat) : List Int := (List.range n).map fun i : Nat => k + (i : Int)
theorem upFrom_length (k : Int) (n : Nat) : (upFrom k n).length = n := by simp [upFrom]
theorem upFrom_at {k : Int} {n i : Nat} (h : i < n) : (upFrom k n)[i]? = some (k + (i : Int)) := by simp [upFrom, h]

set_option maxRecDepth 100000 in
theorem markIntS_none (k0 : Int) (w : World) : Calls Try.prog 24 #[.slice none 0 0, .int .i64 k0] w fun e w' => e = .returned (.int .i64 k0) ∧ w' = w := by
  go_enter Try.func24, Try.ntmps24
  go_wp2
  go_loopw [1, 5] (fun c i wr => i = .int .i64 0 ∧ c = .int .i64 k0 ∧ wr = w) (fun _ _ _ => 0)
  case atStart => exact ⟨rfl, rfl, rfl⟩
  case round =>
    obtain ⟨rfl, rfl, rfl⟩ := hrel
    go_wp2
    go_ret
    exact ⟨rfl, rfl⟩
set_option maxRecDepth 100000 in
set_option maxHeartbeats 2000000 in
theorem markIntS_some (b cap n base : Nat) (ys0 : List Value) (k0 : Int) (w : World) (hl : n ≤ 2097152) (h0 : 0 ≤ k0) (h1 : k0 ≤ 100000000) (hr : w.ownsRow base 3 1 (.slice (some ⟨b, 0, none⟩) n cap) n ys0) :
    Calls Try.prog 24 #[.slice (some ⟨b, 0, none⟩) n cap, .int .i64 k0] w fun e w' => e = .returned (.int .i64 (k0 + (n : Int))) ∧ OwnN w' base (.slice (some ⟨b, 0, none⟩) n cap) (upFrom k0 n) ∧ KeepsBut b w w' := by
  go_enter Try.func24, Try.ntmps24
  go_wp2
  go_loopw [1, 5] (fun c i wr => ∃ (k : Nat) (ys : List Value), k ≤ n ∧ i = .int .i64 k ∧ c = .int .i64 (k0 + (k : Int)) ∧ KeepsBut b w wr ∧ Hid (wr.ownsRow base 3 1 (.slice (some ⟨b, 0, none⟩) n cap) n ys) ∧ Hid (∀ j : Nat, j < k → ys[j]? = some (.int .i64 (k0 + (j : Int))))) (fun _ i _ => n - (intOf i).toNat)
  case atStart => exact ⟨0, ys0, Nat.zero_le _, rfl, by simp, KeepsBut.refl _ _, hr, fun j hj => by omega⟩
  case round =>
    obtain ⟨k, ys, hk, rfl, rfl, hK, hrow, hf⟩ := hrel
    clear hr
    by_cases hlt : k < n
    · have hlt' : (k : Int) < (n : Int) := by omega
      obtain ⟨c, Hc⟩ : ∃ c : Int, Hid (k0 + (k : Int) = c) := ⟨_, rfl⟩
      have hc0 : 0 ≤ c := by have := Hc.out; omega
      have hc1 : c ≤ 200000000 := by have := Hc.out; omega
      rw [Hc.out]
      have hyl : Hid (k < ys.length) := by show _ < _; have := hrow.out.1; omega
      obtain ⟨y, s0⟩ : ∃ y, wr.cell? ⟨b, k, none⟩ = some y := by
        obtain ⟨y, hy⟩ := some_in hyl.out
        exact ⟨y, (hrow.out.cellAt k (by omega)).trans hy⟩
      have s1 := hrow.out.frozenAt k
      go_wp2
      refine ⟨⟨k + 1, ys.set k (.int .i64 c), by omega, by go_num, ?_, hK.setCell _ _, (hrow.out.stored k (.int .i64 c)).1, ?_⟩, by simp only [intOf]; omega⟩
      · have := Hc.out
        rw [show c + 1 = k0 + ((k + 1 : Nat) : Int) from by omega]
      · intro j hj
        by_cases hjk : j = k
        · subst hjk
          rw [List.getElem?_set_self hyl.out, Hc.out]
        · rw [List.getElem?_set_ne (Ne.symm hjk)]
          exact hf.out j (by omega)
    · have e : k = n := by omega
      subst e
      go_wp2
      go_ret
      have hrow' := hrow.out
      rw [show k = (upFrom k0 k).length from (upFrom_length k0 k).symm] at hrow'
      have := OwnN.of hrow' (fun j x hx => by
        have hj : j < k := by have := lt_of_some hx; rwa [upFrom_length] at this
        rw [upFrom_at hj] at hx
        cases hx
        exact hf.out j hj)
      rw [upFrom_length] at this
      exact ⟨rfl, this, hK⟩
set_option maxRecDepth 100000 in
theorem markIntS_own (v : Value) (base : Nat) (xs : List Int) (k0 : Int) (w : World) (hl : xs.length ≤ 2097152) (h0 : 0 ≤ k0) (h1 : k0 ≤ 100000000) (h : OwnN w base v xs) :
    Calls Try.prog 24 #[v, .int .i64 k0] w fun e w' => e = .returned (.int .i64 (k0 + (xs.length : Int))) ∧ OwnN w' base v (upFrom k0 xs.length) ∧ w.grownBy w' v.ownBlock := by
  have h' := h
  obtain ⟨_, ⟨rfl, hn⟩ | ⟨b, cap, cur, rfl, _⟩⟩ := h'
  · rw [hn]
    refine (markIntS_none k0 w).mono ?_
    rintro e w' ⟨rfl, rfl⟩
    exact ⟨by simp, World.ownsRow_nil _ _ _ _, ⟨rfl, rfl, rfl, Nat.le_refl _, fun _ _ _ => rfl⟩⟩
  · refine (markIntS_some b cap xs.length base _ k0 w hl h0 h1 h).mono ?_
    rintro e w' ⟨rfl, O, K⟩
    exact ⟨rfl, O, ⟨K.os, K.tape, K.output, K.size, fun k hk hne => K.block k hk (fun e => hne (by rw [e]; rfl))⟩⟩

set_option maxRecDepth 100000 in
set_option maxHeartbeats 1000000 in
theorem heldIntS_any (a : Option Addr) (cap n : Nat) (k0 : Int) (w : World) (hl : n ≤ 2097152) (h0 : 0 ≤ k0) (h1 : k0 ≤ 100000000) (hs : Ns w a (upFrom k0 n)) :
    Calls Try.prog 25 #[.slice a n cap, .int .i64 k0] w fun e w' => e = .returned (.int .i64 (k0 + (n : Int))) ∧ Keeps w w' := by
  have e1 : ∀ x : Int, (x != x) = false := by simp
  go_enter Try.func25, Try.ntmps25
  go_wp2
  go_loopw [1, 5] (fun c i wr => ∃ k : Nat, k ≤ n ∧ i = .int .i64 k ∧ c = .int .i64 (k0 + (k : Int)) ∧ Keeps w wr) (fun _ i _ => n - (intOf i).toNat)
  case atStart => exact ⟨0, Nat.zero_le _, rfl, by simp, Keeps.refl _⟩
  case round =>
    obtain ⟨k, hk, rfl, rfl, hK⟩ := hrel
    by_cases hlt : k < n
    · have hlt' : (k : Int) < (n : Int) := by omega
      obtain ⟨b, off, rfl, r0⟩ := hs.at (upFrom_at hlt)
      obtain ⟨c, Hc⟩ : ∃ c : Int, Hid (k0 + (k : Int) = c) := ⟨_, rfl⟩
      have hc0 : 0 ≤ c := by have := Hc.out; omega
      have hc1 : c ≤ 200000000 := by have := Hc.out; omega
      rw [Hc.out] at r0
      rw [Hc.out]
      clear hs
      go_wp2
      refine ⟨⟨k + 1, by omega, by go_num, ?_, hK⟩, by simp only [intOf]; omega⟩
      have := Hc.out
      rw [show c + 1 = k0 + ((k + 1 : Nat) : Int) from by omega]
    · have e : k = n := by omega
      subst e
      go_wp2
      go_ret
      exact ⟨rfl, hK⟩
end Go.Proofs.Ytglemedcnapneaa
