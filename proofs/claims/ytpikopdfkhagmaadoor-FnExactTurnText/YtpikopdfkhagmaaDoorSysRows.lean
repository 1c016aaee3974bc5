/-
  Rows of ghosts and of turns: the laws' own helpers.
-/
import Derived.Test.YtpikopdfkhagmaaDoorDeskTurnP
import Derived.Test.YtpikopdfkhagmaaDoorInts
import Derived.Test.YtpikopdfkhagmaaDoorRowSet
import Derived.Test.YtpikopdfkhagmaaDoorLockRows
import Derived.Test.YtpikopdfkhagmaaDoorLockS2
import Derived.Deep.RegionHeld3
namespace Go.Proofs.YtpikopdfkhagmaaDoor
open Go.RowKit
attribute [local go_sem] Keeps.refl Keeps.alloc Keeps.drew Keeps.drewN

abbrev ghc (g : Gh) : Array Value := #[.int .i64 g.cpu, .int .i64 g.q, .int .i64 g.p, .int .i64 g.til]
abbrev tnc (t : Tn) : Array Value := #[.int .i64 t.cpu, .int .i64 t.ctx, .int .i64 t.exe]
theorem tnc_size (t : Tn) : (tnc t).size = 3 := rfl
/-- The ghosts gs lie there; the turns rs lie there. -/
abbrev Gs (w : World) (a : Option Addr) (gs : List Gh) : Prop := Lies 4 ghc w a gs
abbrev Rs (w : World) (a : Option Addr) (rs : List Tn) : Prop := Lies 3 tnc w a rs
/-- What make lays is a row of zero values. -/
theorem flat_zeros {α : Type} {c : α → Array Value} {sz : Nat} (hc : ∀ x, (c x).size = sz) (hsz : 0 < sz) (z : α) (n : Nat) : (madeCells (c z) (n * sz)).toList = flatC c (List.replicate n z) := by
  apply List.ext_getElem?
  intro j
  by_cases hj : j < n * sz
  · have hq : j / sz < n := Nat.div_lt_of_lt_mul (by rw [Nat.mul_comm]; exact hj)
    have hm : j % sz < sz := Nat.mod_lt _ hsz
    have hjj : j / sz * sz + j % sz = j := by rw [Nat.mul_comm]; exact Nat.div_add_mod j sz
    have h := flatC_at hc (List.replicate n z) (j / sz) z (by simp [hq]) (j % sz) hm
    rw [hjj] at h
    rw [h]
    simp only [madeCells, Array.getElem?_toList, Array.getElem?_map, Array.getElem?_range, hj, if_true, Option.map_some, hc]
    rw [Array.getElem?_eq_getElem (by rw [hc]; exact hm)]
    simp [hc, hm]
  · rw [List.getElem?_eq_none (by simpa [madeCells] using hj), List.getElem?_eq_none]
    have := flatC_length hc (List.replicate n z)
    simp at this
    omega
theorem Own.zeros {α : Type} {e : TypeId} {c : α → Array Value} {sz : Nat} (hc : ∀ x, (c x).size = sz) (hsz : 0 < sz) (z : α) (w : World) (n : Nat) (hn : n ≤ maxLen) :
    Own e sz c (w.alloc (.cells (madeCells (c z) (n * sz)) e)) w.heap.size (.slice (Option.some ⟨w.heap.size, 0, none⟩) n n) (List.replicate n z) := by
  have h := World.ownsRow_lit (e := e) (size := sz) (base := w.heap.size) w (madeCells (c z) (n * sz)) n (Nat.le_refl _) hn (size_madeCells _ _)
  rw [flat_zeros hc hsz] at h
  unfold Own
  rw [List.length_replicate]
  exact h
theorem list_eq {α : Type} {xs ys : List α} (hl : ys.length = xs.length) (h : ∀ (j : Nat) (x : α), xs[j]? = some x → ys[j]? = some x) : ys = xs := by
  apply List.ext_getElem?
  intro j
  cases e : xs[j]? with
  | none =>
    have : xs.length ≤ j := List.getElem?_eq_none_iff.1 e
    rw [List.getElem?_eq_none (by omega)]
  | some x => exact h j x e

set_option maxRecDepth 100000 in
theorem szTurnS_any (a : Option Addr) (cap n : Nat) (left : Int) (w : World) (hl : n ≤ maxLen) (h0 : 0 ≤ left) (h1 : left ≤ 1048576) :
    Calls Tryd.prog 12 #[.slice a n cap, .int .i64 left] w fun e w' => e = .returned (.int .i64 (szOf n left)) ∧ w' = w := by
  unfold maxLen at hl
  by_cases h : (n : Int) ≤ left
  · have Hz : Hid (szOf n left = left - n) := if_pos h
    go_enter Tryd.func12, Tryd.ntmps12
    go_wp2
    go_ret
    exact ⟨by rw [Hz.out]; rfl, rfl⟩
  · have Hz : Hid (szOf n left = -1) := if_neg h
    go_enter Tryd.func12, Tryd.ntmps12
    go_wp2
    go_ret
    exact ⟨by rw [Hz.out]; rfl, rfl⟩
set_option maxRecDepth 100000 in
theorem toTurn_any (x : Tn) (w : World) :
    Calls Tryd.prog 31 #[.agg (tnc x)] w fun e w' => e = .returned (.agg (tnc x)) ∧ Keeps w w' := by
  go_enter Tryd.func31, Tryd.ntmps31
  go_wp2
  exact bodyPost_ret (v := .agg (tnc x)) (by simp [results, Tryd.results31, go_sem]) rfl ⟨rfl, by repeat (first | exact Keeps.refl _ | refine Keeps.alloc ?_ _ | refine Keeps.drewN ?_ _ | refine Keeps.trans ?_ (by assumption))⟩
set_option maxRecDepth 100000 in
theorem eqTurn_same (x : Tn) (w : World) :
    Calls Tryd.prog 37 #[.agg (tnc x), .agg (tnc x)] w fun e w' => e = .returned (.bool true) ∧ Keeps w w' := by
  have e1 : ∀ y : Int, (y != y) = false := by simp
  go_enter Tryd.func37, Tryd.ntmps37
  go_wp2
  go_ret
  exact ⟨rfl, ((Keeps.refl _).alloc _).alloc _⟩
set_option maxRecDepth 100000 in
set_option maxHeartbeats 1000000 in
theorem eqTurnS_same (a a' : Option Addr) (cap cap' : Nat) (xs : List Tn) (w : World) (hl : xs.length ≤ maxLen) (hs : Rs w a xs) (hs' : Rs w a' xs) :
    Calls Tryd.prog 16 #[.slice a xs.length cap, .slice a' xs.length cap'] w fun e w' => e = .returned (.bool true) ∧ Keeps w w' := by
  unfold maxLen at hl
  generalize hn : xs.length = n at hl
  have Hn : Hid (xs.length = n) := hn
  clear hn
  have hne : ((n : Int) != (n : Int)) = false := by simp
  go_enter Tryd.func16, Tryd.ntmps16
  go_wp2
  go_loopw [5] (fun i wr => ∃ k : Nat, k ≤ n ∧ i = .int .i64 k ∧ Keeps w wr) (fun i _ => n - (intOf i).toNat)
  case atStart => exact ⟨0, Nat.zero_le _, rfl, Keeps.refl _⟩
  case round =>
    obtain ⟨k, hk, rfl, hK⟩ := hrel
    by_cases hlt : k < n
    · obtain ⟨x, hx⟩ := some_in (xs := xs) (k := k) (by rw [Hn.out]; exact hlt)
      obtain ⟨b, off, rfl, r0, r1⟩ := hs.at hx (by omega)
      obtain ⟨b', off', rfl, r0', r1'⟩ := hs'.at hx (by omega)
      have hlt' : (k : Int) < (n : Int) := by omega
      clear hs hs' hx
      go_wp2
      go_region_held3 (fun w' => Keeps w w') (first | exact Keeps.drew (by assumption) | exact Keeps.trans (by assumption) (by assumption))
        (first
        | (go_at_call 37; refine (eqTurn_same x _).mono ?_; rintro e w1 ⟨rfl, hb⟩))
      go_wp2
      exact ⟨⟨k + 1, by omega, by go_num, by assumption⟩, by simp only [intOf]; omega⟩
    · go_wp2
      go_ret
      exact ⟨rfl, hK⟩
set_option maxRecDepth 100000 in
set_option maxHeartbeats 2000000 in
theorem toTurnS_any (a : Option Addr) (cap : Nat) (xs : List Tn) (w : World) (hl : xs.length ≤ 1048576) (hs : Rs w a xs) :
    Calls Tryd.prog 14 #[.slice a xs.length cap] w fun e w' => ∃ b, e = .returned (.slice (some ⟨b, 0, none⟩) xs.length xs.length) ∧ Own 57 3 tnc w' w.heap.size (.slice (some ⟨b, 0, none⟩) xs.length xs.length) xs ∧ Keeps w w' := by
  generalize hn : xs.length = n at hl
  have Hn : Hid (xs.length = n) := hn
  clear hn
  have hmk := run_make_zero (P := Tryd.prog) 36 57 (.agg (tnc Tn.zero)) 3 24 Tryd.underlying36 (by kernel_rfl) n (by omega) (by omega)
  simp only [Value.cells] at hmk
  have M0 : Hid (Own 57 3 tnc (w.alloc (.cells (madeCells (tnc Tn.zero) (n * 3)) 57)) w.heap.size (.slice (some ⟨w.heap.size, 0, none⟩) n n) (List.replicate n Tn.zero)) := Own.zeros tnc_size (by decide) Tn.zero w n (by unfold maxLen; omega)
  go_enter Tryd.func14, Tryd.ntmps14
  go_wp2
  go_loopw [4] (fun i wr => ∃ (k : Nat) (ys : List Tn), k ≤ n ∧ i = .int .i64 k ∧ Keeps w wr ∧ Hid (Own 57 3 tnc wr w.heap.size (.slice (some ⟨w.heap.size, 0, none⟩) n n) ys) ∧ Hid (ys.length = n) ∧ Hid (∀ (j : Nat) (x : Tn), j < k → xs[j]? = some x → ys[j]? = some x)) (fun i _ => n - (intOf i).toNat)
  case atStart => exact ⟨0, _, Nat.zero_le _, rfl, (Keeps.refl _).alloc _, M0, by show _ = _; simp, fun j _ hj => by omega⟩
  case round =>
    obtain ⟨k, ys, hk, rfl, hK, O, hy, hf⟩ := hrel
    clear hmk M0
    by_cases hlt : k < n
    · obtain ⟨x, hx⟩ := some_in (xs := xs) (k := k) (by rw [Hn.out]; exact hlt)
      obtain ⟨b, off, rfl, r0, r1⟩ := hs.at hx (by omega)
      have hlt' : (k : Int) < (n : Int) := by omega
      have Hx : Hid (xs[k]? = some x) := hx
      clear hs hx
      obtain ⟨y, hyk⟩ := some_in (xs := ys) (k := k) (by rw [hy.out]; exact hlt)
      have O0 : Own 57 3 tnc wr w.heap.size (.slice (some ⟨w.heap.size, 0, none⟩) ys.length n) ys := by have := O.out; rw [hy.out]; exact this
      have bl : Hid (w.heap.size < wr.heap.size) := (O0.ltb _ rfl).2
      have s0 : ∀ w', Keeps wr w' → w'.cell? ⟨w.heap.size, k * 3, none⟩ = some (.int .i64 y.cpu) := Keeps.has (O0.cellAt tnc_size (k := 0) hyk (by omega))
      have s1 : ∀ w', Keeps wr w' → w'.cell? ⟨w.heap.size, k * 3 + 1, none⟩ = some (.int .i64 y.ctx) := Keeps.has (O0.cellAt tnc_size (k := 1) hyk (by omega))
      have s2 : ∀ w', Keeps wr w' → w'.cell? ⟨w.heap.size, k * 3 + 2, none⟩ = some (.int .i64 y.exe) := Keeps.has (O0.cellAt tnc_size (k := 2) hyk (by omega))
      have s9 : ∀ w', Keeps wr w' → ∀ o, w'.frozen? ⟨w.heap.size, o, none⟩ = false := fun w' h o => (h.frozens _ _ bl.out).trans (O0.frozenAt o)
      clear O0 hyk
      go_wp2_with fail
      refine (toTurn_any x _).mono ?_
      rintro e w1 ⟨rfl, k1⟩
      have kk : Keeps wr w1 := k1
      go_wp2
      have O1 : Own 57 3 tnc w1 w.heap.size (.slice (some ⟨w.heap.size, 0, none⟩) ys.length n) ys := by have := O.out.keeps k1; rw [hy.out]; exact this
      have O2 := O1.put tnc_size (i := k) (by rw [hy.out]; exact hlt) x
      rw [List.length_set, hy.out] at O2
      refine ⟨⟨k + 1, ys.set k x, by omega, by go_num, Keeps.putC (b := w.heap.size) (Nat.le_refl _) (tnc x).toList (k * 3) (hK.trans k1), O2, by show _ = _; simpa using hy.out, ?_⟩, by simp only [intOf]; omega⟩
      intro j z hj hjz
      by_cases hjk : j = k
      · subst hjk
        rw [Hx.out] at hjz
        cases hjz
        rw [List.getElem?_set_self (by rw [hy.out]; exact hlt)]
      · rw [List.getElem?_set_ne (Ne.symm hjk)]
        exact hf.out j z (by omega) hjz
    · have e : k = n := by omega
      subst e
      go_wp2
      go_ret
      have e : ys = xs := list_eq (hy.out.trans Hn.out.symm) fun j x hx => hf.out j x (by have := lt_of_some hx; have := Hn.out; omega) hx
      subst e
      exact ⟨_, rfl, O.out, hK⟩

end Go.Proofs.YtpikopdfkhagmaaDoor
