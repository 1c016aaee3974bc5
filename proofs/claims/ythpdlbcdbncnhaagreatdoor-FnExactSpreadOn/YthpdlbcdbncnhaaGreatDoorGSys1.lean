/-
  Rows of ghosts and of turns: the laws' own helpers.
  Where a system lies: its nine cells, and its five rows.
  Calls: what a kind names, and which calls are right.
  Calls: which are right, and the walk of FnExactCallOk, over a contract of the program's CallOk.
  A system that comes in as an argument: what its reading says of its cells.
-/
import Derived.Test.YthpdlbcdbncnhaaGreatDoorGPure2
import Derived.Test.YthpdlbcdbncnhaaGreatDoorGBase2
import Derived.Test.YthpdlbcdbncnhaaGreatDoorGLock1
import Derived.Test.YthpdlbcdbncnhaaGreatDoorGLock2
import Derived.Deep.RegionHeld3
import Derived.Test.YthpdlbcdbncnhaaGreatDoorGPick1
import Derived.Test.YthpdlbcdbncnhaaGreatDoorGLock4
import Derived.Test.YthpdlbcdbncnhaaGreatDoorGTask3
import Derived.Test.YthpdlbcdbncnhaaGreatDoorGBase1
import Derived.Laws.StructEq
import Derived.Test.YthpdlbcdbncnhaaGreatDoorGLock5
namespace Go.Proofs.YthpdlbcdbncnhaaGreatDoor
open Go.RowKit
attribute [local go_sem] Keeps.refl Keeps.alloc Keeps.drew Keeps.drewN

abbrev ghc (g : Gh) : Array Value := #[.int .i64 g.cpu, .int .i64 g.q, .int .i64 g.p, .int .i64 g.til]
abbrev tnc (t : Tn) : Array Value := #[.int .i64 t.cpu, .int .i64 t.ctx, .int .i64 t.exe]
theorem ghc_size (g : Gh) : (ghc g).size = 4 := rfl
theorem tnc_size (t : Tn) : (tnc t).size = 3 := rfl
theorem ghc_one (g : Gh) : ∀ u ∈ (ghc g).toList, u.oneCell' = true := by
  intro u hu
  simp at hu
  rcases hu with rfl | rfl | rfl | rfl <;> rfl
theorem tnc_one (t : Tn) : ∀ u ∈ (tnc t).toList, u.oneCell' = true := by
  intro u hu
  simp at hu
  rcases hu with rfl | rfl | rfl <;> rfl
/-- The ghosts gs lie there; the turns rs lie there. -/
abbrev Gs (w : World) (a : Option Addr) (gs : List Gh) : Prop := Lies 4 ghc w a gs
abbrev Rs (w : World) (a : Option Addr) (rs : List Tn) : Prop := Lies 3 tnc w a rs
/-- What make lays is a row of zero values. -/
theorem flat_zeros {α : Type} {c : α → Array Value} {sz : Nat} (hc : ∀ x, (c x).size = sz) (hsz : 0 < sz) (z : α) (n : Nat) : (madeCells (c z) (n * sz)).toList = flatC c (List.replicate n z) := by
  apply List.ext_getElem?
  intro j
  by_cases hj : j < n * sz
  · have hq : j / sz < n := Nat.div_lt_of_lt_mul (by rw [Nat.mul_comm]; exact hj)
    have hm : j % sz < sz := Nat.mod_lt _ hsz
    have hjj : j / sz * sz + j % sz = j := by rw [Nat.mul_comm]; exact Nat.div_add_mod j sz
    have h := flatC_at hc (List.replicate n z) (j / sz) z (by simp [hq]) (j % sz) hm
    rw [hjj] at h
    rw [h]
    simp only [madeCells, Array.getElem?_toList, Array.getElem?_map, Array.getElem?_range, hj, if_true, Option.map_some, hc]
    rw [Array.getElem?_eq_getElem (by rw [hc]; exact hm)]
    simp [hc, hm]
  · rw [List.getElem?_eq_none (by simpa [madeCells] using hj), List.getElem?_eq_none]
    have := flatC_length hc (List.replicate n z)
    simp at this
    omega
theorem Own.zeros {α : Type} {e : TypeId} {c : α → Array Value} {sz : Nat} (hc : ∀ x, (c x).size = sz) (hsz : 0 < sz) (z : α) (w : World) (n : Nat) (hn : n ≤ maxLen) :
    Own e sz c (w.alloc (.cells (madeCells (c z) (n * sz)) e)) w.heap.size (.slice (Option.some ⟨w.heap.size, 0, none⟩) n n) (List.replicate n z) := by
  have h := World.ownsRow_lit (e := e) (size := sz) (base := w.heap.size) w (madeCells (c z) (n * sz)) n (Nat.le_refl _) hn (size_madeCells _ _)
  rw [flat_zeros hc hsz] at h
  unfold Own
  rw [List.length_replicate]
  exact h
theorem list_eq {α : Type} {xs ys : List α} (hl : ys.length = xs.length) (h : ∀ (j : Nat) (x : α), xs[j]? = some x → ys[j]? = some x) : ys = xs := by
  apply List.ext_getElem?
  intro j
  cases e : xs[j]? with
  | none =>
    have : xs.length ≤ j := List.getElem?_eq_none_iff.1 e
    rw [List.getElem?_eq_none (by omega)]
  | some x => exact h j x e

set_option maxRecDepth 100000 in
theorem szTurnS_any (a : Option Addr) (cap n : Nat) (left : Int) (w : World) (hl : n ≤ maxLen) (h0 : 0 ≤ left) (h1 : left ≤ 1048576) :
    Calls Tryz.prog 35 #[.slice a n cap, .int .i64 left] w fun e w' => e = .returned (.int .i64 (szOf n left)) ∧ w' = w := by
  unfold maxLen at hl
  by_cases h : (n : Int) ≤ left
  · have Hz : Hid (szOf n left = left - n) := if_pos h
    go_enter Tryz.func35, Tryz.ntmps35
    go_wp2
    go_ret
    exact ⟨by rw [Hz.out]; rfl, rfl⟩
  · have Hz : Hid (szOf n left = -1) := if_neg h
    go_enter Tryz.func35, Tryz.ntmps35
    go_wp2
    go_ret
    exact ⟨by rw [Hz.out]; rfl, rfl⟩
set_option maxRecDepth 100000 in
theorem toTurn_any (x : Tn) (w : World) :
    Calls Tryz.prog 80 #[.agg (tnc x)] w fun e w' => e = .returned (.agg (tnc x)) ∧ Keeps w w' := by
  go_enter Tryz.func80, Tryz.ntmps80
  go_wp2
  exact bodyPost_ret (v := .agg (tnc x)) (by simp [results, Tryz.results80, go_sem]) rfl ⟨rfl, by repeat (first | exact Keeps.refl _ | refine Keeps.alloc ?_ _ | refine Keeps.drewN ?_ _ | refine Keeps.trans ?_ (by assumption))⟩
set_option maxRecDepth 100000 in
theorem eqTurn_same (x : Tn) (w : World) :
    Calls Tryz.prog 88 #[.agg (tnc x), .agg (tnc x)] w fun e w' => e = .returned (.bool true) ∧ Keeps w w' := by
  have e1 : ∀ y : Int, (y != y) = false := by simp
  go_enter Tryz.func88, Tryz.ntmps88
  go_wp2
  go_ret
  exact ⟨rfl, ((Keeps.refl _).alloc _).alloc _⟩
set_option maxRecDepth 100000 in
set_option maxHeartbeats 1000000 in
theorem eqTurnS_same (a a' : Option Addr) (cap cap' : Nat) (xs : List Tn) (w : World) (hl : xs.length ≤ maxLen) (hs : Rs w a xs) (hs' : Rs w a' xs) :
    Calls Tryz.prog 49 #[.slice a xs.length cap, .slice a' xs.length cap'] w fun e w' => e = .returned (.bool true) ∧ Keeps w w' := by
  unfold maxLen at hl
  generalize hn : xs.length = n at hl
  have Hn : Hid (xs.length = n) := hn
  clear hn
  have hne : ((n : Int) != (n : Int)) = false := by simp
  go_enter Tryz.func49, Tryz.ntmps49
  go_wp2
  go_loopw [5] (fun i wr => ∃ k : Nat, k ≤ n ∧ i = .int .i64 k ∧ Keeps w wr) (fun i _ => n - (intOf i).toNat)
  case atStart => exact ⟨0, Nat.zero_le _, rfl, Keeps.refl _⟩
  case round =>
    obtain ⟨k, hk, rfl, hK⟩ := hrel
    by_cases hlt : k < n
    · obtain ⟨x, hx⟩ := some_in (xs := xs) (k := k) (by rw [Hn.out]; exact hlt)
      obtain ⟨b, off, rfl, r0, r1⟩ := hs.at hx (by omega)
      obtain ⟨b', off', rfl, r0', r1'⟩ := hs'.at hx (by omega)
      have hlt' : (k : Int) < (n : Int) := by omega
      clear hs hs' hx
      go_wp2
      go_region_held3 (fun w' => Keeps w w') (first | exact Keeps.drew (by assumption) | exact Keeps.trans (by assumption) (by assumption))
        (first
        | (go_at_call 88; refine (eqTurn_same x _).mono ?_; rintro e w1 ⟨rfl, hb⟩))
      go_wp2
      exact ⟨⟨k + 1, by omega, by go_num, by assumption⟩, by simp only [intOf]; omega⟩
    · go_wp2
      go_ret
      exact ⟨rfl, hK⟩
set_option maxRecDepth 100000 in
set_option maxHeartbeats 2000000 in
theorem toTurnS_any (a : Option Addr) (cap : Nat) (xs : List Tn) (w : World) (hl : xs.length ≤ 1048576) (hs : Rs w a xs) :
    Calls Tryz.prog 41 #[.slice a xs.length cap] w fun e w' => ∃ b, e = .returned (.slice (some ⟨b, 0, none⟩) xs.length xs.length) ∧ Own 85 3 tnc w' w.heap.size (.slice (some ⟨b, 0, none⟩) xs.length xs.length) xs ∧ Keeps w w' := by
  generalize hn : xs.length = n at hl
  have Hn : Hid (xs.length = n) := hn
  clear hn
  have hmk := run_make_zero (P := Tryz.prog) 35 85 (.agg (tnc Tn.zero)) 3 24 Tryz.underlying35 (by kernel_rfl) n (by omega) (by omega)
  simp only [Value.cells] at hmk
  have M0 : Hid (Own 85 3 tnc (w.alloc (.cells (madeCells (tnc Tn.zero) (n * 3)) 85)) w.heap.size (.slice (some ⟨w.heap.size, 0, none⟩) n n) (List.replicate n Tn.zero)) := Own.zeros tnc_size (by decide) Tn.zero w n (by unfold maxLen; omega)
  go_enter Tryz.func41, Tryz.ntmps41
  go_wp2
  go_loopw [4] (fun i wr => ∃ (k : Nat) (ys : List Tn), k ≤ n ∧ i = .int .i64 k ∧ Keeps w wr ∧ Hid (Own 85 3 tnc wr w.heap.size (.slice (some ⟨w.heap.size, 0, none⟩) n n) ys) ∧ Hid (ys.length = n) ∧ Hid (∀ (j : Nat) (x : Tn), j < k → xs[j]? = some x → ys[j]? = some x)) (fun i _ => n - (intOf i).toNat)
  case atStart => exact ⟨0, _, Nat.zero_le _, rfl, (Keeps.refl _).alloc _, M0, by show _ = _; simp, fun j _ hj => by omega⟩
  case round =>
    obtain ⟨k, ys, hk, rfl, hK, O, hy, hf⟩ := hrel
    clear hmk M0
    by_cases hlt : k < n
    · obtain ⟨x, hx⟩ := some_in (xs := xs) (k := k) (by rw [Hn.out]; exact hlt)
      obtain ⟨b, off, rfl, r0, r1⟩ := hs.at hx (by omega)
      have hlt' : (k : Int) < (n : Int) := by omega
      have Hx : Hid (xs[k]? = some x) := hx
      clear hs hx
      obtain ⟨y, hyk⟩ := some_in (xs := ys) (k := k) (by rw [hy.out]; exact hlt)
      have O0 : Own 85 3 tnc wr w.heap.size (.slice (some ⟨w.heap.size, 0, none⟩) ys.length n) ys := by have := O.out; rw [hy.out]; exact this
      have bl : Hid (w.heap.size < wr.heap.size) := (O0.ltb _ rfl).2
      have s0 : ∀ w', Keeps wr w' → w'.cell? ⟨w.heap.size, k * 3, none⟩ = some (.int .i64 y.cpu) := Keeps.has (O0.cellAt tnc_size (k := 0) hyk (by omega))
      have s1 : ∀ w', Keeps wr w' → w'.cell? ⟨w.heap.size, k * 3 + 1, none⟩ = some (.int .i64 y.ctx) := Keeps.has (O0.cellAt tnc_size (k := 1) hyk (by omega))
      have s2 : ∀ w', Keeps wr w' → w'.cell? ⟨w.heap.size, k * 3 + 2, none⟩ = some (.int .i64 y.exe) := Keeps.has (O0.cellAt tnc_size (k := 2) hyk (by omega))
      have s9 : ∀ w', Keeps wr w' → ∀ o, w'.frozen? ⟨w.heap.size, o, none⟩ = false := fun w' h o => (h.frozens _ _ bl.out).trans (O0.frozenAt o)
      clear O0 hyk
      go_wp2_with fail
      refine (toTurn_any x _).mono ?_
      rintro e w1 ⟨rfl, k1⟩
      have kk : Keeps wr w1 := k1
      go_wp2
      have O1 : Own 85 3 tnc w1 w.heap.size (.slice (some ⟨w.heap.size, 0, none⟩) ys.length n) ys := by have := O.out.keeps k1; rw [hy.out]; exact this
      have O2 := O1.put tnc_size (i := k) (by rw [hy.out]; exact hlt) x
      rw [List.length_set, hy.out] at O2
      refine ⟨⟨k + 1, ys.set k x, by omega, by go_num, Keeps.putC (b := w.heap.size) (Nat.le_refl _) (tnc x).toList (k * 3) (hK.trans k1), O2, by show _ = _; simpa using hy.out, ?_⟩, by simp only [intOf]; omega⟩
      intro j z hj hjz
      by_cases hjk : j = k
      · subst hjk
        rw [Hx.out] at hjz
        cases hjz
        rw [List.getElem?_set_self (by rw [hy.out]; exact hlt)]
      · rw [List.getElem?_set_ne (Ne.symm hjk)]
        exact hf.out j z (by omega) hjz
    · have e : k = n := by omega
      subst e
      go_wp2
      go_ret
      have e : ys = xs := list_eq (hy.out.trans Hn.out.symm) fun j x hx => hf.out j x (by have := lt_of_some hx; have := Hn.out; omega) hx
      subst e
      exact ⟨_, rfl, O.out, hK⟩

set_option maxRecDepth 100000 in
theorem eqShare_two (q p : Int) (w : World) :
    Calls Tryz.prog 140 #[.agg #[.int .i64 q, .int .i64 p], .agg #[.int .i64 q, .int .i64 p]] w fun e w' => e = .returned (.bool true) ∧ Keeps w w' := by
  have e1 : ∀ y : Int, (y != y) = false := by simp
  go_enter Tryz.func140, Tryz.ntmps140
  go_wp2
  go_ret
  exact ⟨rfl, ((Keeps.refl _).alloc _).alloc _⟩

set_option maxRecDepth 100000 in
theorem szGhostS_any (a : Option Addr) (cap n : Nat) (left : Int) (w : World) (hl : n ≤ maxLen) (h0 : 0 ≤ left) (h1 : left ≤ 1048576) :
    Calls Tryz.prog 33 #[.slice a n cap, .int .i64 left] w fun e w' => e = .returned (.int .i64 (szOf n left)) ∧ w' = w := by
  unfold maxLen at hl
  by_cases h : (n : Int) ≤ left
  · have Hz : Hid (szOf n left = left - n) := if_pos h
    go_enter Tryz.func33, Tryz.ntmps33
    go_wp2
    go_ret
    exact ⟨by rw [Hz.out]; rfl, rfl⟩
  · have Hz : Hid (szOf n left = -1) := if_neg h
    go_enter Tryz.func33, Tryz.ntmps33
    go_wp2
    go_ret
    exact ⟨by rw [Hz.out]; rfl, rfl⟩
set_option maxRecDepth 100000 in
set_option maxHeartbeats 1000000 in
theorem toGhost_any (x : Gh) (w : World) :
    Calls Tryz.prog 79 #[.agg (ghc x)] w fun e w' => e = .returned (.agg (ghc x)) ∧ Keeps w w' := by
  go_enter Tryz.func79, Tryz.ntmps79
  go_wp2_with fail
  refine (toShare_any x.q x.p _).mono ?_
  rintro e w1 ⟨rfl, k1⟩
  have B1 := (((Blk.new w (ghc x) 111).alloc (.cells (ghc Gh.zero) 107)).alloc (.cells #[.int .i64 x.cpu, .int .i64 0, .int .i64 0, .int .i64 0] 107)).keeps k1
  have B2 := ((Blk.new (w.alloc (.cells (ghc x) 111)) (ghc Gh.zero) 107).alloc (.cells #[.int .i64 x.cpu, .int .i64 0, .int .i64 0, .int .i64 0] 107)).keeps k1
  have B3 := (Blk.new ((w.alloc (.cells (ghc x) 111)).alloc (.cells (ghc Gh.zero) 107)) #[.int .i64 x.cpu, .int .i64 0, .int .i64 0, .int .i64 0] 107).keeps k1
  have K1 : Hid (Keeps w w1) := ((((Keeps.refl w).alloc _).alloc _).alloc _).trans k1
  simp only [World.size_alloc] at B2 B3
  have R : Hid (Blk w1 (w.heap.size + 1) (ghc Gh.zero)) := B2
  obtain ⟨_, b1, b2⟩ := B1
  obtain ⟨_, c1, c2⟩ := B2
  obtain ⟨_, d1, d2⟩ := B3
  clear k1
  go_wp2
  have D := (((R.out.far (c := w.heap.size + 1 + 1) (o := 1) (by omega) (.int .i64 x.q)).far (c := w.heap.size + 1 + 1) (o := 2) (by omega) (.int .i64 x.p)).far (c := w.heap.size + 1 + 1) (o := 3) (by omega) (.int .i64 x.til)).putC (ghc x).toList rfl
  have K := Keeps.putC (b := w.heap.size + 1) (by omega) (ghc x).toList 0 (((K1.out.setCell (p := ⟨w.heap.size + 1 + 1, 1, none⟩) (by show _ ≤ w.heap.size + 1 + 1; omega) (.int .i64 x.q)).setCell (p := ⟨w.heap.size + 1 + 1, 2, none⟩) (by show _ ≤ w.heap.size + 1 + 1; omega) (.int .i64 x.p)).setCell (p := ⟨w.heap.size + 1 + 1, 3, none⟩) (by show _ ≤ w.heap.size + 1 + 1; omega) (.int .i64 x.til))
  change bodyPost _ _ _ _ _ (putC (((w1.setCell ⟨w.heap.size + 1 + 1, 1, none⟩ (.int .i64 x.q)).setCell ⟨w.heap.size + 1 + 1, 2, none⟩ (.int .i64 x.p)).setCell ⟨w.heap.size + 1 + 1, 3, none⟩ (.int .i64 x.til)) (w.heap.size + 1) 0 (ghc x).toList)
  generalize putC (((w1.setCell ⟨w.heap.size + 1 + 1, 1, none⟩ (.int .i64 x.q)).setCell ⟨w.heap.size + 1 + 1, 2, none⟩ (.int .i64 x.p)).setCell ⟨w.heap.size + 1 + 1, 3, none⟩ (.int .i64 x.til)) (w.heap.size + 1) 0 (ghc x).toList = X at D K ⊢
  exact bodyPost_ret (v := .agg (ghc x)) (by simp [results, Tryz.results79, go_sem, D.cells]) rfl ⟨rfl, K⟩
set_option maxRecDepth 100000 in
theorem eqGhost_same (x : Gh) (w : World) :
    Calls Tryz.prog 87 #[.agg (ghc x), .agg (ghc x)] w fun e w' => e = .returned (.bool true) ∧ Keeps w w' := by
  have e1 : ∀ y : Int, (y != y) = false := by simp
  go_enter Tryz.func87, Tryz.ntmps87
  go_wp2_with fail
  have kW : Keeps w ((w.alloc (.cells (ghc x) 107)).alloc (.cells (ghc x) 107)) := ((Keeps.refl w).alloc _).alloc _
  have r1 : ∀ w', Keeps ((w.alloc (.cells (ghc x) 107)).alloc (.cells (ghc x) 107)) w' → ∀ k, w'.cell? ⟨w.heap.size, k, none⟩ = (ghc x)[k]? := fun w' h => (((Blk.new w (ghc x) 107).alloc _).keeps h).cells
  have r2 : ∀ w', Keeps ((w.alloc (.cells (ghc x) 107)).alloc (.cells (ghc x) 107)) w' → ∀ k, w'.cell? ⟨w.heap.size + 1, k, none⟩ = (ghc x)[k]? := fun w' h => by
    have := (Blk.new (w.alloc (.cells (ghc x) 107)) (ghc x) 107).keeps h
    simp only [World.size_alloc] at this
    exact this.cells
  generalize (w.alloc (.cells (ghc x) 107)).alloc (.cells (ghc x) 107) = W at *
  refine (eqShare_two _ _ _).mono ?_
  rintro e w1 ⟨rfl, k1⟩
  go_wp2
  go_ret
  exact ⟨rfl, kW.trans k1⟩
set_option maxRecDepth 100000 in
set_option maxHeartbeats 1000000 in
theorem eqGhostS_same (a a' : Option Addr) (cap cap' : Nat) (xs : List Gh) (w : World) (hl : xs.length ≤ maxLen) (hs : Gs w a xs) (hs' : Gs w a' xs) :
    Calls Tryz.prog 47 #[.slice a xs.length cap, .slice a' xs.length cap'] w fun e w' => e = .returned (.bool true) ∧ Keeps w w' := by
  unfold maxLen at hl
  generalize hn : xs.length = n at hl
  have Hn : Hid (xs.length = n) := hn
  clear hn
  have hne : ((n : Int) != (n : Int)) = false := by simp
  go_enter Tryz.func47, Tryz.ntmps47
  go_wp2
  go_loopw [5] (fun i wr => ∃ k : Nat, k ≤ n ∧ i = .int .i64 k ∧ Keeps w wr) (fun i _ => n - (intOf i).toNat)
  case atStart => exact ⟨0, Nat.zero_le _, rfl, Keeps.refl _⟩
  case round =>
    obtain ⟨k, hk, rfl, hK⟩ := hrel
    by_cases hlt : k < n
    · obtain ⟨x, hx⟩ := some_in (xs := xs) (k := k) (by rw [Hn.out]; exact hlt)
      obtain ⟨b, off, rfl, r0, r1⟩ := hs.at hx (by omega)
      obtain ⟨b', off', rfl, r0', r1'⟩ := hs'.at hx (by omega)
      have hlt' : (k : Int) < (n : Int) := by omega
      clear hs hs' hx
      go_wp2
      go_region_held3 (fun w' => Keeps w w') (first | exact Keeps.drew (by assumption) | exact Keeps.trans (by assumption) (by assumption))
        (first
        | (go_at_call 87; refine (eqGhost_same x _).mono ?_; rintro e w1 ⟨rfl, hb⟩))
      go_wp2
      exact ⟨⟨k + 1, by omega, by go_num, by assumption⟩, by simp only [intOf]; omega⟩
    · go_wp2
      go_ret
      exact ⟨rfl, hK⟩
set_option maxRecDepth 100000 in
set_option maxHeartbeats 2000000 in
theorem toGhostS_any (a : Option Addr) (cap : Nat) (xs : List Gh) (w : World) (hl : xs.length ≤ 1048576) (hs : Gs w a xs) :
    Calls Tryz.prog 39 #[.slice a xs.length cap] w fun e w' => ∃ b, e = .returned (.slice (some ⟨b, 0, none⟩) xs.length xs.length) ∧ Own 107 4 ghc w' w.heap.size (.slice (some ⟨b, 0, none⟩) xs.length xs.length) xs ∧ Keeps w w' := by
  generalize hn : xs.length = n at hl
  have Hn : Hid (xs.length = n) := hn
  clear hn
  have hmk := run_make_zero (P := Tryz.prog) 34 107 (.agg (ghc Gh.zero)) 4 32 Tryz.underlying34 (by kernel_rfl) n (by omega) (by omega)
  simp only [Value.cells] at hmk
  have M0 : Hid (Own 107 4 ghc (w.alloc (.cells (madeCells (ghc Gh.zero) (n * 4)) 107)) w.heap.size (.slice (some ⟨w.heap.size, 0, none⟩) n n) (List.replicate n Gh.zero)) := Own.zeros ghc_size (by decide) Gh.zero w n (by unfold maxLen; omega)
  go_enter Tryz.func39, Tryz.ntmps39
  go_wp2
  go_loopw [4] (fun i wr => ∃ (k : Nat) (ys : List Gh), k ≤ n ∧ i = .int .i64 k ∧ Keeps w wr ∧ Hid (Own 107 4 ghc wr w.heap.size (.slice (some ⟨w.heap.size, 0, none⟩) n n) ys) ∧ Hid (ys.length = n) ∧ Hid (∀ (j : Nat) (x : Gh), j < k → xs[j]? = some x → ys[j]? = some x)) (fun i _ => n - (intOf i).toNat)
  case atStart => exact ⟨0, _, Nat.zero_le _, rfl, (Keeps.refl _).alloc _, M0, by show _ = _; simp, fun j _ hj => by omega⟩
  case round =>
    obtain ⟨k, ys, hk, rfl, hK, O, hy, hf⟩ := hrel
    clear hmk M0
    by_cases hlt : k < n
    · obtain ⟨x, hx⟩ := some_in (xs := xs) (k := k) (by rw [Hn.out]; exact hlt)
      obtain ⟨b, off, rfl, r0, r1⟩ := hs.at hx (by omega)
      have hlt' : (k : Int) < (n : Int) := by omega
      have Hx : Hid (xs[k]? = some x) := hx
      clear hs hx
      obtain ⟨y, hyk⟩ := some_in (xs := ys) (k := k) (by rw [hy.out]; exact hlt)
      have O0 : Own 107 4 ghc wr w.heap.size (.slice (some ⟨w.heap.size, 0, none⟩) ys.length n) ys := by have := O.out; rw [hy.out]; exact this
      have bl : Hid (w.heap.size < wr.heap.size) := (O0.ltb _ rfl).2
      have s0 : ∀ w', Keeps wr w' → w'.cell? ⟨w.heap.size, k * 4, none⟩ = some (.int .i64 y.cpu) := Keeps.has (O0.cellAt ghc_size (k := 0) hyk (by omega))
      have s1 : ∀ w', Keeps wr w' → w'.cell? ⟨w.heap.size, k * 4 + 1, none⟩ = some (.int .i64 y.q) := Keeps.has (O0.cellAt ghc_size (k := 1) hyk (by omega))
      have s2 : ∀ w', Keeps wr w' → w'.cell? ⟨w.heap.size, k * 4 + 2, none⟩ = some (.int .i64 y.p) := Keeps.has (O0.cellAt ghc_size (k := 2) hyk (by omega))
      have s3 : ∀ w', Keeps wr w' → w'.cell? ⟨w.heap.size, k * 4 + 3, none⟩ = some (.int .i64 y.til) := Keeps.has (O0.cellAt ghc_size (k := 3) hyk (by omega))
      have s9 : ∀ w', Keeps wr w' → ∀ o, w'.frozen? ⟨w.heap.size, o, none⟩ = false := fun w' h o => (h.frozens _ _ bl.out).trans (O0.frozenAt o)
      clear O0 hyk
      go_wp2_with fail
      refine (toGhost_any x _).mono ?_
      rintro e w1 ⟨rfl, k1⟩
      have kk : Keeps wr w1 := k1
      go_wp2
      have O1 : Own 107 4 ghc w1 w.heap.size (.slice (some ⟨w.heap.size, 0, none⟩) ys.length n) ys := by have := O.out.keeps k1; rw [hy.out]; exact this
      have O2 := O1.put ghc_size (i := k) (by rw [hy.out]; exact hlt) x
      rw [List.length_set, hy.out] at O2
      refine ⟨⟨k + 1, ys.set k x, by omega, by go_num, Keeps.putC (b := w.heap.size) (Nat.le_refl _) (ghc x).toList (k * 4) (hK.trans k1), O2, by show _ = _; simpa using hy.out, ?_⟩, by simp only [intOf]; omega⟩
      intro j z hj hjz
      by_cases hjk : j = k
      · subst hjk
        rw [Hx.out] at hjz
        cases hjz
        rw [List.getElem?_set_self (by rw [hy.out]; exact hlt)]
      · rw [List.getElem?_set_ne (Ne.symm hjk)]
        exact hf.out j z (by omega) hjz
    · have e : k = n := by omega
      subst e
      go_wp2
      go_ret
      have e : ys = xs := list_eq (hy.out.trans Hn.out.symm) fun j x hx => hf.out j x (by have := lt_of_some hx; have := Hn.out; omega) hx
      subst e
      exact ⟨_, rfl, O.out, hK⟩
end Go.Proofs.YthpdlbcdbncnhaaGreatDoor
namespace Go.Proofs.YthpdlbcdbncnhaaGreatDoor
open Go.RowKit

/-- A row as a slice. -/
structure Rw where
  a : Option Addr
  n : Nat
  cap : Nat
abbrev Rw.val (x : Rw) : Value := .slice x.a x.n x.cap
/-- The rows of a system. -/
structure Sv where
  t : Rw
  l : Rw
  g : Rw
  f : Rw
  r : Rw
abbrev syc (s : Sy) (v : Sv) : Array Value := #[.int .i64 s.now, .int .i64 s.cpus, .slice v.t.a v.t.n v.t.cap, .slice v.l.a v.l.n v.l.cap, .slice v.g.a v.g.n v.g.cap, .slice v.f.a v.f.n v.f.cap, .int .i64 s.seq, .int .i64 s.missed, .slice v.r.a v.r.n v.r.cap]
/-- How many there are, of all kinds. -/
def sizeS (s : Sy) : Nat := s.tasks.length + sizeN s.locks + s.ghosts.length + s.floors.length + s.trace.length
/-- A system as it is handed to a law. -/
structure SysLay (p : Bool) (w : World) (v : Sv) (s : Sy) : Prop where
  tl : s.tasks.length = v.t.n
  tm : v.t.n ≤ maxLen
  t : Ts w v.t.a s.tasks
  ll : s.locks.length = v.l.n
  lm : v.l.n ≤ maxLen
  l : Lks p w v.l.a s.locks
  gl : s.ghosts.length = v.g.n
  gm : v.g.n ≤ maxLen
  g : Gs w v.g.a s.ghosts
  fl : s.floors.length = v.f.n
  fm : v.f.n ≤ maxLen
  f : Ns w v.f.a s.floors
  rl : s.trace.length = v.r.n
  rm : v.r.n ≤ maxLen
  r : Rs w v.r.a s.trace
theorem SysLay.keeps {p : Bool} {w w' : World} {v : Sv} {s : Sy} (h : SysLay p w v s) (k : Keeps w w') : SysLay p w' v s :=
  ⟨h.tl, h.tm, h.t.keeps k, h.ll, h.lm, h.l.keeps k, h.gl, h.gm, h.g.keeps k, h.fl, h.fm, h.f.keeps k, h.rl, h.rm, h.r.keeps k⟩
/-- A system as it is handed on. -/
structure SysOn (w : World) (v : Sv) (s : Sy) : Prop where
  lay : SysLay true w v s
  tc : Plain w v.t.a v.t.n v.t.cap
  lc : Plain w v.l.a v.l.n v.l.cap
  gc : Plain w v.g.a v.g.n v.g.cap
  fc : Plain w v.f.a v.f.n v.f.cap
  rc : Plain w v.r.a v.r.n v.r.cap
  size : sizeS s ≤ 2000000
theorem SysOn.keeps {w w' : World} {v : Sv} {s : Sy} (h : SysOn w v s) (k : Keeps w w') : SysOn w' v s := ⟨h.lay.keeps k, h.tc.keeps k, h.lc.keeps k, h.gc.keeps k, h.fc.keeps k, h.rc.keeps k, h.size⟩
theorem SysOn.onT {w : World} {v : Sv} {s : Sy} (h : SysOn w v s) : OnT w v.t.a v.t.n v.t.cap s.tasks := ⟨h.lay.tl, by rw [h.lay.tl]; exact h.lay.tm, h.lay.t⟩
theorem SysOn.onL {w : World} {v : Sv} {s : Sy} (h : SysOn w v s) : On w v.l.a v.l.n v.l.cap s.locks := ⟨h.lay.ll, by have := h.size; unfold sizeS at this; omega, h.lay.l, h.lc⟩
/-- Which blocks are of which kind. -/
def ofKind (v : Sv) (vs : List Lv) : Nat → Nat → Prop
  | 0, b => v.t.val.ownBlock = some b
  | 1, b => v.l.val.ownBlock = some b ∨ ∃ x ∈ vs, x.row.ownBlock = some b
  | 2, b => v.g.val.ownBlock = some b
  | 3, b => v.f.val.ownBlock = some b
  | 4, b => v.r.val.ownBlock = some b
  | _, _ => False
/-- A system of one's own: no row lies in another one's block. -/
structure OwnS (w : World) (lo : Nat) (v : Sv) (vs : List Lv) (s : Sy) : Prop where
  t : Own 47 14 tc w lo v.t.val s.tasks
  l : Mine w lo w.heap.size v.l.val vs s.locks
  g : Own 107 4 ghc w lo v.g.val s.ghosts
  f : OwnN w lo v.f.val s.floors
  r : Own 85 3 tnc w lo v.r.val s.trace
  ap : ∀ i j b, ofKind v vs i b → ofKind v vs j b → i = j
theorem OwnS.keeps {w w' : World} {lo : Nat} {v : Sv} {vs : List Lv} {s : Sy} (h : OwnS w lo v vs s) (k : Keeps w w') : OwnS w' lo v vs s :=
  ⟨h.t.keeps k, (h.l.keeps k).widen (Nat.le_refl _) k.size, h.g.keeps k, h.f.keeps k, h.r.keeps k, h.ap⟩
theorem OwnS.base {w : World} {lo lo' : Nat} {v : Sv} {vs : List Lv} {s : Sy} (h : OwnS w lo v vs s) (k : lo' ≤ lo) : OwnS w lo' v vs s :=
  ⟨h.t.base k, h.l.widen k (Nat.le_refl _), h.g.base k, h.f.base k, h.r.base k, h.ap⟩
theorem Plain.le {w : World} {a : Option Addr} {n cap : Nat} (h : Plain w a n cap) : n ≤ cap := by
  rcases h with ⟨-, rfl, rfl⟩ | ⟨_, _, _, _, h⟩
  · exact Nat.le_refl _
  · exact h
theorem Own.row {α : Type} {e : TypeId} {sz : Nat} {c : α → Array Value} {w : World} {base : Nat} {x : Rw} {xs : List α} (h : Own e sz c w base x.val xs) (hc : ∀ x, (c x).size = sz) : xs.length = x.n ∧ Lies sz c w x.a xs ∧ Plain w x.a x.n x.cap ∧ x.n ≤ maxLen := by
  have hb := h.ltb
  have hp : Plain w x.a x.n x.cap := by
    obtain ⟨_, ⟨e, _⟩ | ⟨b, cap, cur, e, _, _, hl, _⟩⟩ := h
    · simp only [Rw.val, Value.slice.injEq] at e
      exact .inl e
    · simp only [Rw.val, Value.slice.injEq] at e
      obtain ⟨e1, e2, e3⟩ := e
      refine .inr ⟨b, 0, e1, (hb b ?_).2, ?_⟩
      · show (Value.slice x.a x.n x.cap).ownBlock = _
        rw [e1]; rfl
      · rw [e2, e3]; exact hl
  obtain ⟨a, cap, e, l, h1, h2⟩ := h.slice hc
  simp only [Rw.val, Value.slice.injEq] at e
  obtain ⟨e1, e2, e3⟩ := e
  refine ⟨e2.symm, by rw [e1]; exact l, hp, ?_⟩
  rw [e2]; omega
theorem OwnS.on {w : World} {lo : Nat} {v : Sv} {vs : List Lv} {s : Sy} (h : OwnS w lo v vs s) (hs : sizeS s ≤ 2000000) : SysOn w v s := by
  obtain ⟨t1, t2, t3, t4⟩ := h.t.row tc_size
  obtain ⟨g1, g2, g3, g4⟩ := h.g.row ghc_size
  obtain ⟨f1, f2, f3, f4⟩ := h.f.row ic_size
  obtain ⟨r1, r2, r3, r4⟩ := h.r.row tnc_size
  obtain ⟨a, cap, e, l1, l2, l3⟩ := h.l.args
  simp only [Rw.val, Value.slice.injEq] at e
  obtain ⟨e1, e2, e3⟩ := e
  rw [← e1] at l1 l2
  rw [← e2] at l2 l3
  rw [← e3] at l2
  exact ⟨⟨t1, t4, t2, e2.symm, l3, l1, g1, g4, g2, f1, f4, Ns.of_lies f2, r1, r4, r2⟩, t3, l2, g3, f3, r3, hs⟩
/-- Five fresh rows, one behind the other: no two share a block. -/
theorem apart_of {v : Sv} {vs : List Lv} (b0 b1 b2 b3 b4 b5 : Nat) (h0 : ∀ b, v.t.val.ownBlock = some b → b0 ≤ b ∧ b < b1) (h1 : ∀ b, (v.l.val.ownBlock = some b ∨ ∃ x ∈ vs, x.row.ownBlock = some b) → b1 ≤ b ∧ b < b2)
    (h2 : ∀ b, v.g.val.ownBlock = some b → b2 ≤ b ∧ b < b3) (h3 : ∀ b, v.f.val.ownBlock = some b → b3 ≤ b ∧ b < b4) (h4 : ∀ b, v.r.val.ownBlock = some b → b4 ≤ b ∧ b < b5) (l2 : b1 ≤ b2) (l3 : b2 ≤ b3) (l4 : b3 ≤ b4) :
    ∀ i j b, ofKind v vs i b → ofKind v vs j b → i = j := by
  have key : ∀ i b, ofKind v vs i b → (i = 0 ∧ b0 ≤ b ∧ b < b1) ∨ (i = 1 ∧ b1 ≤ b ∧ b < b2) ∨ (i = 2 ∧ b2 ≤ b ∧ b < b3) ∨ (i = 3 ∧ b3 ≤ b ∧ b < b4) ∨ (i = 4 ∧ b4 ≤ b ∧ b < b5) := by
    intro i b h
    match i, h with
    | 0, h => exact .inl ⟨rfl, h0 b h⟩
    | 1, h => exact .inr (.inl ⟨rfl, h1 b h⟩)
    | 2, h => exact .inr (.inr (.inl ⟨rfl, h2 b h⟩))
    | 3, h => exact .inr (.inr (.inr (.inl ⟨rfl, h3 b h⟩)))
    | 4, h => exact .inr (.inr (.inr (.inr ⟨rfl, h4 b h⟩)))
    | n + 5, h => exact h.elim
  intro i j b hi hj
  have := key i b hi
  have := key j b hj
  omega
end Go.Proofs.YthpdlbcdbncnhaaGreatDoor
namespace Go.Proofs.YthpdlbcdbncnhaaGreatDoor
open Go.RowKit
attribute [local go_sem] Keeps.refl Keeps.alloc Keeps.drew Keeps.drewN

abbrev cc (c : Cl) : Array Value := #[.int .i64 c.kind, .int .i64 c.no, .int .i64 c.cpu, .int .i64 c.a, .int .i64 c.b]
abbrev ck (c : Cl) : Value := .agg (cc c)
theorem cc_size (c : Cl) : (cc c).size = 5 := rfl
set_option maxRecDepth 100000 in
theorem run_eqlIn_call (d : Nat) (w : World) (a b : Cl) : (Op.equalIn (d + 2) 189 (ck a) (ck b)).run Tryz.prog w = .ok (eqC a b) w := by
  obtain ⟨a0, a1, a2, a3, a4⟩ := a
  obtain ⟨b0, b1, b2, b3, b4⟩ := b
  simp only [eqC]
  rw [run_equalIn_agg _ _ _ _ _ (by kernel_rfl) (by kernel_rfl)]
  go_simp
  by_cases h0 : a0 = b0
  case neg => simp only [if_neg h0, beq_eq_false_iff_ne.2 h0, Bool.false_and]
  simp only [if_pos h0, beq_iff_eq.2 h0, Bool.true_and]
  by_cases h1 : a1 = b1
  case neg => simp only [if_neg h1, beq_eq_false_iff_ne.2 h1, Bool.false_and]
  simp only [if_pos h1, beq_iff_eq.2 h1, Bool.true_and]
  by_cases h2 : a2 = b2
  case neg => simp only [if_neg h2, beq_eq_false_iff_ne.2 h2, Bool.false_and]
  simp only [if_pos h2, beq_iff_eq.2 h2, Bool.true_and]
  by_cases h3 : a3 = b3
  case neg => simp only [if_neg h3, beq_eq_false_iff_ne.2 h3, Bool.false_and]
  simp only [if_pos h3, beq_iff_eq.2 h3, Bool.true_and]
  by_cases h4 : a4 = b4
  case neg => simp only [if_neg h4, beq_eq_false_iff_ne.2 h4]
  simp only [if_pos h4, beq_iff_eq.2 h4]
set_option maxRecDepth 100000 in
theorem run_eql_call (w : World) (a b : Cl) : (binOp .eql 189 (ck a) (ck b)).run Tryz.prog w = .ok (.bool (eqC a b)) w := by
  rw [run_eql_struct, run_eqlIn_call 9998]; rfl
set_option maxRecDepth 100000 in
set_option maxHeartbeats 4000000 in
theorem l11Clean_any (c : Cl) (w : World) :
    Calls Tryz.prog 214 #[ck c] w fun e w' => e = .returned (ck (cleanC c)) ∧ Keeps w w' := by
  cases c1 : (c.kind == 1)
  rotate_left
  · have Hr : Hid (cleanC c = c) := by show _ = _; simp [cleanC, c1]
    go_enter Tryz.func214, Tryz.ntmps214
    go_wp2
    exact bodyPost_ret (v := ck c) (by simp [results, Tryz.results214, go_sem]) rfl ⟨by rw [Hr.out], by repeat (first | exact Keeps.refl _ | refine Keeps.setCell ?_ (by simp) _ | refine Keeps.alloc ?_ _ | refine Keeps.drewN ?_ _)⟩
  cases c2 : (c.kind == 2)
  rotate_left
  · have Hr : Hid (cleanC c = c) := by show _ = _; simp [cleanC, c1, c2]
    go_enter Tryz.func214, Tryz.ntmps214
    go_wp2
    exact bodyPost_ret (v := ck c) (by simp [results, Tryz.results214, go_sem]) rfl ⟨by rw [Hr.out], by repeat (first | exact Keeps.refl _ | refine Keeps.setCell ?_ (by simp) _ | refine Keeps.alloc ?_ _ | refine Keeps.drewN ?_ _)⟩
  cases c3 : (c.kind == 3)
  rotate_left
  · have Hr : Hid (cleanC c = { c with b := 0 }) := by show _ = _; simp [cleanC, c1, c2, c3]
    go_enter Tryz.func214, Tryz.ntmps214
    go_wp2
    exact bodyPost_ret (v := ck { c with b := 0 }) (by simp [results, Tryz.results214, go_sem]) rfl ⟨by rw [Hr.out], by repeat (first | exact Keeps.refl _ | refine Keeps.setCell ?_ (by simp) _ | refine Keeps.alloc ?_ _ | refine Keeps.drewN ?_ _)⟩
  cases c4 : (c.kind == 4)
  rotate_left
  · have Hr : Hid (cleanC c = { c with cpu := 0, a := 0, b := 0 }) := by show _ = _; simp [cleanC, c1, c2, c3, c4]
    go_enter Tryz.func214, Tryz.ntmps214
    go_wp2
    exact bodyPost_ret (v := ck { c with cpu := 0, a := 0, b := 0 }) (by simp [results, Tryz.results214, go_sem]) rfl ⟨by rw [Hr.out], by repeat (first | exact Keeps.refl _ | refine Keeps.setCell ?_ (by simp) _ | refine Keeps.alloc ?_ _ | refine Keeps.drewN ?_ _)⟩
  cases c5 : (c.kind == 5)
  rotate_left
  · have Hr : Hid (cleanC c = { c with cpu := 0, a := 0, b := 0 }) := by show _ = _; simp [cleanC, c1, c2, c3, c4, c5]
    go_enter Tryz.func214, Tryz.ntmps214
    go_wp2
    exact bodyPost_ret (v := ck { c with cpu := 0, a := 0, b := 0 }) (by simp [results, Tryz.results214, go_sem]) rfl ⟨by rw [Hr.out], by repeat (first | exact Keeps.refl _ | refine Keeps.setCell ?_ (by simp) _ | refine Keeps.alloc ?_ _ | refine Keeps.drewN ?_ _)⟩
  cases c6 : (c.kind == 6)
  rotate_left
  · have Hr : Hid (cleanC c = { c with cpu := 0, a := 0, b := 0 }) := by show _ = _; simp [cleanC, c1, c2, c3, c4, c5, c6]
    go_enter Tryz.func214, Tryz.ntmps214
    go_wp2
    exact bodyPost_ret (v := ck { c with cpu := 0, a := 0, b := 0 }) (by simp [results, Tryz.results214, go_sem]) rfl ⟨by rw [Hr.out], by repeat (first | exact Keeps.refl _ | refine Keeps.setCell ?_ (by simp) _ | refine Keeps.alloc ?_ _ | refine Keeps.drewN ?_ _)⟩
  cases c7 : (c.kind == 7)
  rotate_left
  · have Hr : Hid (cleanC c = { c with cpu := 0, b := 0 }) := by show _ = _; simp [cleanC, c1, c2, c3, c4, c5, c6, c7]
    go_enter Tryz.func214, Tryz.ntmps214
    go_wp2
    exact bodyPost_ret (v := ck { c with cpu := 0, b := 0 }) (by simp [results, Tryz.results214, go_sem]) rfl ⟨by rw [Hr.out], by repeat (first | exact Keeps.refl _ | refine Keeps.setCell ?_ (by simp) _ | refine Keeps.alloc ?_ _ | refine Keeps.drewN ?_ _)⟩
  cases c8 : (c.kind == 8)
  rotate_left
  · have Hr : Hid (cleanC c = { c with cpu := 0, b := 0 }) := by show _ = _; simp [cleanC, c1, c2, c3, c4, c5, c6, c7, c8]
    go_enter Tryz.func214, Tryz.ntmps214
    go_wp2
    exact bodyPost_ret (v := ck { c with cpu := 0, b := 0 }) (by simp [results, Tryz.results214, go_sem]) rfl ⟨by rw [Hr.out], by repeat (first | exact Keeps.refl _ | refine Keeps.setCell ?_ (by simp) _ | refine Keeps.alloc ?_ _ | refine Keeps.drewN ?_ _)⟩
  cases c9 : (c.kind == 9)
  rotate_left
  · have Hr : Hid (cleanC c = { c with cpu := 0, b := 0 }) := by show _ = _; simp [cleanC, c1, c2, c3, c4, c5, c6, c7, c8, c9]
    go_enter Tryz.func214, Tryz.ntmps214
    go_wp2
    exact bodyPost_ret (v := ck { c with cpu := 0, b := 0 }) (by simp [results, Tryz.results214, go_sem]) rfl ⟨by rw [Hr.out], by repeat (first | exact Keeps.refl _ | refine Keeps.setCell ?_ (by simp) _ | refine Keeps.alloc ?_ _ | refine Keeps.drewN ?_ _)⟩
  cases c10 : (c.kind == 10)
  rotate_left
  · have Hr : Hid (cleanC c = { c with a := 0, b := 0 }) := by show _ = _; simp [cleanC, c1, c2, c3, c4, c5, c6, c7, c8, c9, c10]
    go_enter Tryz.func214, Tryz.ntmps214
    go_wp2
    exact bodyPost_ret (v := ck { c with a := 0, b := 0 }) (by simp [results, Tryz.results214, go_sem]) rfl ⟨by rw [Hr.out], by repeat (first | exact Keeps.refl _ | refine Keeps.setCell ?_ (by simp) _ | refine Keeps.alloc ?_ _ | refine Keeps.drewN ?_ _)⟩
  cases c11 : (c.kind == 11)
  rotate_left
  · have Hr : Hid (cleanC c = { c with no := 0, cpu := 0, b := 0 }) := by show _ = _; simp [cleanC, c1, c2, c3, c4, c5, c6, c7, c8, c9, c10, c11]
    go_enter Tryz.func214, Tryz.ntmps214
    go_wp2
    exact bodyPost_ret (v := ck { c with no := 0, cpu := 0, b := 0 }) (by simp [results, Tryz.results214, go_sem]) rfl ⟨by rw [Hr.out], by repeat (first | exact Keeps.refl _ | refine Keeps.setCell ?_ (by simp) _ | refine Keeps.alloc ?_ _ | refine Keeps.drewN ?_ _)⟩
  have Hr : Hid (cleanC c = c) := by show _ = _; simp [cleanC, c1, c2, c3, c4, c5, c6, c7, c8, c9, c10, c11]
  go_enter Tryz.func214, Tryz.ntmps214
  go_wp2
  exact bodyPost_ret (v := ck c) (by simp [results, Tryz.results214, go_sem]) rfl ⟨by rw [Hr.out], by repeat (first | exact Keeps.refl _ | refine Keeps.setCell ?_ (by simp) _ | refine Keeps.alloc ?_ _ | refine Keeps.drewN ?_ _)⟩
end Go.Proofs.YthpdlbcdbncnhaaGreatDoor
namespace Go.Proofs.YthpdlbcdbncnhaaGreatDoor
open Go.RowKit
attribute [local go_sem] Keeps.refl Keeps.alloc Keeps.drew Keeps.drewN
attribute [local go_sem high] run_eql_call

set_option maxRecDepth 100000 in
set_option maxHeartbeats 2000000 in
theorem specCallOk_any (c : Cl) (w : World) :
    Calls Tryz.prog 182 #[ck c] w fun e w' => e = .returned (.bool (callB c)) ∧ Keeps w w' := by
  have kW : Keeps w (w.alloc (.cells (cc c) 189)) := (Keeps.refl _).alloc _
  have r1 : ∀ w', Keeps (w.alloc (.cells (cc c) 189)) w' → ∀ k, w'.cell? ⟨w.heap.size, k, none⟩ = (cc c)[k]? := fun w' h => ((Blk.new w (cc c) 189).keeps h).cells
  cases b : inB c.kind 1 11
  · have Hr : Hid (callB c = false) := by show _ = _; simp [callB, b]
    go_enter Tryz.func182, Tryz.ntmps182
    go_wp2_with fail
    generalize w.alloc (.cells (cc c) 189) = W at *
    refine wp_region_held_drew (S := (fun w' => Keeps W w')) (by kernel_rfl) ?_ (fun hHeld => ?_)
    · exact (Keeps.refl W).drew
    refine Plan.go [0, 1] ?_
    iterate 2 (refine takeL (by simp only [opsAt]; rfl) (by kernel_rfl) (by exact fun _ _ _ h => h) (by rfl) (by assumption) (fun w _ => by go_simp; try (with_reducible rfl)) ?_; try simp only [putAtH])
    refine Plan.nil ?_
    refine callH 2 (by kernel_rfl) (by simp only [opsAt]; rfl) (fun K hK => ?_)
    go_simp
    first
      | (go_at_call 64; refine (l1In_any _ _ _ _).mono ?_; rintro e w' ⟨rfl, hw1⟩; have hw2 := hw1.symm; subst hw2; rw [b])
      | (go_at_call 214; refine (l11Clean_any c _).mono ?_; rintro e w1 ⟨rfl, k1⟩)
    try go_wp2_with fail
    refine hK.out _ _ ?_ (fun hHeld => ?_)
    · first | assumption | exact Keeps.trans (by assumption) (by assumption)
    clear hK K
    try simp only [putAtH]
    refine takeH 3 (v := ?_) (by simp only [opsAt]; rfl) (by kernel_rfl) (by exact fun _ _ _ h => h) (by rfl) (by assumption) ?_ ?_
    rotate_left
    · (intro w _; go_simp; try (with_reducible rfl))
    try simp only [putAtH]
    refine Plan.go [4, 5, 6, 7] ?_
    iterate 4 (refine skipL (by simp only [opsAt]; rfl) (by kernel_rfl) (by exact fun _ _ _ h => h) (by rfl) (by assumption) ?_; try simp only [putAtH])
    refine Plan.nil ?_
    refine Plan.go [8, 9] ?_
    iterate 2 (refine takeL (by simp only [opsAt]; rfl) (by kernel_rfl) (by exact fun _ _ _ h => h) (by rfl) (by assumption) (fun w _ => by go_simp; try (with_reducible rfl)) ?_; try simp only [putAtH])
    refine Plan.nil ?_
    refine wpAnyH_done (by kernel_rfl) ?_ _
    go_wp2
    go_ret
    exact ⟨by rw [Hr.out]; rfl, kW.trans (by assumption)⟩
  · have Hr : Hid (callB c = eqC c (cleanC c)) := by show _ = _; simp [callB, b]
    go_enter Tryz.func182, Tryz.ntmps182
    go_wp2_with fail
    generalize w.alloc (.cells (cc c) 189) = W at *
    refine wp_region_held_drew (S := (fun w' => Keeps W w')) (by kernel_rfl) ?_ (fun hHeld => ?_)
    · exact (Keeps.refl W).drew
    refine Plan.go [0, 1] ?_
    iterate 2 (refine takeL (by simp only [opsAt]; rfl) (by kernel_rfl) (by exact fun _ _ _ h => h) (by rfl) (by assumption) (fun w _ => by go_simp; try (with_reducible rfl)) ?_; try simp only [putAtH])
    refine Plan.nil ?_
    refine callH 2 (by kernel_rfl) (by simp only [opsAt]; rfl) (fun K hK => ?_)
    go_simp
    first
      | (go_at_call 64; refine (l1In_any _ _ _ _).mono ?_; rintro e w' ⟨rfl, hw1⟩; have hw2 := hw1.symm; subst hw2; rw [b])
      | (go_at_call 214; refine (l11Clean_any c _).mono ?_; rintro e w1 ⟨rfl, k1⟩)
    try go_wp2_with fail
    refine hK.out _ _ ?_ (fun hHeld => ?_)
    · first | assumption | exact Keeps.trans (by assumption) (by assumption)
    clear hK K
    try simp only [putAtH]
    refine Plan.go [3, 4, 5] ?_
    iterate 3 (refine takeL (by simp only [opsAt]; rfl) (by kernel_rfl) (by exact fun _ _ _ h => h) (by rfl) (by assumption) (fun w _ => by go_simp; try (with_reducible rfl)) ?_; try simp only [putAtH])
    refine Plan.nil ?_
    refine callH 6 (by kernel_rfl) (by simp only [opsAt]; rfl) (fun K hK => ?_)
    go_simp
    first
      | (go_at_call 64; refine (l1In_any _ _ _ _).mono ?_; rintro e w' ⟨rfl, hw1⟩; have hw2 := hw1.symm; subst hw2; rw [b])
      | (go_at_call 214; refine (l11Clean_any c _).mono ?_; rintro e w1 ⟨rfl, k1⟩)
    try go_wp2_with fail
    refine hK.out _ _ ?_ (fun hHeld => ?_)
    · first | assumption | exact Keeps.trans (by assumption) (by assumption)
    clear hK K
    try simp only [putAtH]
    refine Plan.go [7, 8, 9] ?_
    iterate 3 (refine takeL (by simp only [opsAt]; rfl) (by kernel_rfl) (by exact fun _ _ _ h => h) (by rfl) (by assumption) (fun w _ => by go_simp; try (with_reducible rfl)) ?_; try simp only [putAtH])
    refine Plan.nil ?_
    refine wpAnyH_done (by kernel_rfl) ?_ _
    go_wp2
    go_ret
    exact ⟨by rw [Hr.out]; rfl, kW.trans (by assumption)⟩
end Go.Proofs.YthpdlbcdbncnhaaGreatDoor
namespace Go.Proofs.YthpdlbcdbncnhaaGreatDoor
open Go.ChangeShapes Go.WideShapes Go.ChangeAt Go.RowKit

def inI (x : Int) : Prop := -9223372036854775808 ≤ x ∧ x ≤ 9223372036854775807
/-- The numbers of a system that come in are int's. -/
def WfS (s : Sy) : Prop := inI s.now ∧ inI s.cpus ∧ inI s.seq ∧ inI s.missed
set_option maxRecDepth 100000 in
theorem readIntR {H : Type} {enc : TypeId × Value → H} {W : World} {base : Nat} {spare : Nat → Bool} {held : Bool} {n : Nat} {cs : List Value} {y : DataW H × List MemPlace}
    (h : DataW.trod enc Tryz.prog W base spare held n 3 cs = some y) : ∃ x : Int, cs = [.int .i64 x] ∧ inI x := by
  obtain ⟨x, e, _, r⟩ := DataW.trod_int Tryz.underlying3 h
  refine ⟨x, e, ?_⟩
  simp [Lit.wf, IntKind.min, IntKind.max, IntKind.signed, IntKind.bits] at r
  exact ⟨by omega, by omega⟩
set_option maxRecDepth 100000 in
/-- A row of structs, where each struct's reading says what its cells are. -/
theorem readRow {α : Type} [Inhabited α] {sz : Nat} {c : α → Array Value} (hsz : 0 < sz) (hc : ∀ x, (c x).size = sz) {t e : TypeId} (ht : Tryz.prog.underlying t = some (.slice e)) (ce : Tryz.prog.cellsOf e = sz)
    {H : Type} {enc : TypeId × Value → H} {W : World} {base : Nat} {spare : Nat → Bool} {held : Bool} {fuel : Nat} {cs : List Value} {y : DataW H × List MemPlace}
    (hr : ∀ (n : Nat) (cs : List Value) (y : DataW H × List MemPlace), DataW.trod enc Tryz.prog W base spare held n e cs = some y → ∃ x : α, cs = (c x).toList)
    (h : DataW.trod enc Tryz.prog W base spare held fuel t cs = some y) : ∃ (a : Option Addr) (cap : Nat) (xs : List α), cs = [.slice a xs.length cap] ∧ xs.length ≤ maxLen ∧ Lies sz c W a xs := by
  rcases Go.Deep.open_slice ht h with ⟨hcs, _⟩ | ⟨x, l, cp, m, n, D, Pl, hcs, _, hl, hm, hmm, _, hx⟩
  · exact ⟨none, 0, [], hcs, by simp, .inl rfl⟩
  · have hml : l ≤ m := by rw [hmm]; split <;> omega
    rw [ce] at hx
    have each : ∀ i, i < l → ∃ t : α, ∀ k, k < sz → W.cell? ((x.add (i * sz)).add k) = (c t)[k]? := by
      intro i hi
      obtain ⟨cs', h1, h2⟩ := hx i (by omega)
      obtain ⟨_, _, hcell⟩ := World.cells?_some h1
      obtain ⟨t, rfl⟩ := hr _ _ _ h2
      exact ⟨t, fun k hk => by rw [hcell k hk]; simp⟩
    obtain ⟨T, hT⟩ := Go.Deep.choose_lt each
    refine ⟨some x, cp, (List.range l).map T, by simpa using hcs, by simp; omega, ?_⟩
    obtain ⟨b, off, spot⟩ := x
    by_cases h0 : l = 0
    · subst h0; exact .inl rfl
    · have h1 := (hT 0 (by omega) 0 hsz).trans (Array.getElem?_eq_getElem (by rw [hc]; exact hsz))
      have hs : spot = none := by
        have h2 := World.cell?_spot h1
        simpa [Addr.add] using h2
      subst hs
      have hb : b < W.heap.size := by
        have := World.block_lt_of_cell? W _ h1
        simpa [Addr.add] using this
      refine .inr ⟨b, off, rfl, hb, fun i t hi k hk => ?_⟩
      have hi' : i < l := by have := lt_of_some hi; simpa using this
      have e : T i = t := by simpa [hi'] using hi
      have := hT i hi' k hk
      rwa [addr_add, addr_add, e] at this
set_option maxHeartbeats 1000000 in
set_option maxRecDepth 100000 in
theorem read_share2 {H : Type} {enc : TypeId × Value → H} {W : World} {base : Nat} {spare : Nat → Bool} {held : Bool} {fuel : Nat} {cs : List Value} {x : DataW H × List MemPlace}
    (h : DataW.trod enc Tryz.prog W base spare held fuel 109 cs = some x) : ∃ q p : Int, cs = [.int .i64 q, .int .i64 p] := by
  have ci : Tryz.prog.cellsOf 3 = 1 := by kernel_rfl
  have ct : Tryz.prog.cellsOf 109 = 2 := by kernel_rfl
  obtain ⟨xs, n, _, _, hl, hxl, hf⟩ := DataW.trod_struct Tryz.underlying109 h
  rw [ct] at hl
  replace hxl : xs.length = 2 := hxl
  have g0 : DataW.trod enc Tryz.prog W base spare held n 3 ((cs.drop 0).take (Tryz.prog.cellsOf 3)) = xs[0]? := hf 0 _ rfl
  rw [ci, List.getElem?_eq_getElem (show 0 < xs.length by omega)] at g0
  obtain ⟨x0, e0⟩ := readInt g0
  have g1 : DataW.trod enc Tryz.prog W base spare held n 3 ((cs.drop 1).take (Tryz.prog.cellsOf 3)) = xs[1]? := hf 1 _ rfl
  rw [ci, List.getElem?_eq_getElem (show 1 < xs.length by omega)] at g1
  obtain ⟨x1, e1⟩ := readInt g1
  match cs, hl with
  | [c0, c1], _ =>
    simp at e0 e1
    subst e0 e1
    exact ⟨x0, x1, rfl⟩
set_option maxHeartbeats 1000000 in
set_option maxRecDepth 100000 in
theorem read_ghost {H : Type} {enc : TypeId × Value → H} {W : World} {base : Nat} {spare : Nat → Bool} {held : Bool} {fuel : Nat} {cs : List Value} {x : DataW H × List MemPlace}
    (h : DataW.trod enc Tryz.prog W base spare held fuel 111 cs = some x) : ∃ g : Gh, cs = (ghc g).toList := by
  have ci : Tryz.prog.cellsOf 3 = 1 := by kernel_rfl
  have cs2 : Tryz.prog.cellsOf 109 = 2 := by kernel_rfl
  have ct : Tryz.prog.cellsOf 111 = 4 := by kernel_rfl
  obtain ⟨xs, n, _, _, hl, hxl, hf⟩ := DataW.trod_struct Tryz.underlying111 h
  rw [ct] at hl
  replace hxl : xs.length = 3 := hxl
  have g0 : DataW.trod enc Tryz.prog W base spare held n 3 ((cs.drop 0).take (Tryz.prog.cellsOf 3)) = xs[0]? := hf 0 _ rfl
  rw [ci, List.getElem?_eq_getElem (show 0 < xs.length by omega)] at g0
  obtain ⟨x0, e0⟩ := readInt g0
  have g1 : DataW.trod enc Tryz.prog W base spare held n 109 ((cs.drop 1).take (Tryz.prog.cellsOf 109)) = xs[1]? := hf 1 _ rfl
  rw [cs2, List.getElem?_eq_getElem (show 1 < xs.length by omega)] at g1
  obtain ⟨q, p, e1⟩ := read_share2 g1
  have g2 : DataW.trod enc Tryz.prog W base spare held n 3 ((cs.drop 3).take (Tryz.prog.cellsOf 3)) = xs[2]? := hf 2 _ rfl
  rw [ci, List.getElem?_eq_getElem (show 2 < xs.length by omega)] at g2
  obtain ⟨x2, e2⟩ := readInt g2
  match cs, hl with
  | [c0, c1, c2, c3], _ =>
    simp at e0 e1 e2
    obtain ⟨rfl, rfl⟩ := e1
    subst e0 e2
    exact ⟨⟨x0, q, p, x2⟩, rfl⟩
set_option maxHeartbeats 1000000 in
set_option maxRecDepth 100000 in
theorem read_turn {H : Type} {enc : TypeId × Value → H} {W : World} {base : Nat} {spare : Nat → Bool} {held : Bool} {fuel : Nat} {cs : List Value} {x : DataW H × List MemPlace}
    (h : DataW.trod enc Tryz.prog W base spare held fuel 113 cs = some x) : ∃ r : Tn, cs = (tnc r).toList := by
  have ci : Tryz.prog.cellsOf 3 = 1 := by kernel_rfl
  have ct : Tryz.prog.cellsOf 113 = 3 := by kernel_rfl
  obtain ⟨xs, n, _, _, hl, hxl, hf⟩ := DataW.trod_struct Tryz.underlying113 h
  rw [ct] at hl
  replace hxl : xs.length = 3 := hxl
  have g0 : DataW.trod enc Tryz.prog W base spare held n 3 ((cs.drop 0).take (Tryz.prog.cellsOf 3)) = xs[0]? := hf 0 _ rfl
  rw [ci, List.getElem?_eq_getElem (show 0 < xs.length by omega)] at g0
  obtain ⟨x0, e0⟩ := readInt g0
  have g1 : DataW.trod enc Tryz.prog W base spare held n 3 ((cs.drop 1).take (Tryz.prog.cellsOf 3)) = xs[1]? := hf 1 _ rfl
  rw [ci, List.getElem?_eq_getElem (show 1 < xs.length by omega)] at g1
  obtain ⟨x1, e1⟩ := readInt g1
  have g2 : DataW.trod enc Tryz.prog W base spare held n 3 ((cs.drop 2).take (Tryz.prog.cellsOf 3)) = xs[2]? := hf 2 _ rfl
  rw [ci, List.getElem?_eq_getElem (show 2 < xs.length by omega)] at g2
  obtain ⟨x2, e2⟩ := readInt g2
  match cs, hl with
  | [c0, c1, c2], _ =>
    simp at e0 e1 e2
    subst e0 e1 e2
    exact ⟨⟨x0, x1, x2⟩, rfl⟩
set_option maxRecDepth 100000 in
/-- A row of locks, by its reading. -/
theorem readLocks {H : Type} {enc : TypeId × Value → H} {W : World} {base : Nat} {spare : Nat → Bool} {held : Bool} {fuel : Nat} {cs : List Value} {y : DataW H × List MemPlace}
    (h : DataW.trod enc Tryz.prog W base spare held fuel 23 cs = some y) : ∃ (a : Option Addr) (cap : Nat) (ls : List Lk), cs = [.slice a ls.length cap] ∧ ls.length ≤ maxLen ∧ Lks false W a ls := by
  have ct : Tryz.prog.cellsOf 101 = 2 := by kernel_rfl
  rcases Go.Deep.open_slice Tryz.underlying23 h with ⟨hcs, _⟩ | ⟨x, len, c, m, n, D, Pl, hcs, _, hl, hm, hmm, _, hc⟩
  · exact ⟨none, 0, [], hcs, by simp, Lks.nil _ _ _⟩
  · have hml : len ≤ m := by rw [hmm]; split <;> omega
    rw [ct] at hc
    have each : ∀ i, i < len → ∃ y : Lv × Lk, Fits false W y.1 y.2 ∧ ∀ k, k < 2 → W.cell? ((x.add (i * 2)).add k) = (lvc y.1)[k]? := by
      intro i hi
      obtain ⟨cs', h1, h2⟩ := hc i (by omega)
      obtain ⟨_, _, hcell⟩ := World.cells?_some h1
      obtain ⟨y, rfl, hy⟩ := read_lock h2
      exact ⟨y, hy, fun k hk => by rw [hcell k hk]; simp⟩
    haveI : Inhabited (Lv × Lk) := ⟨(⟨0, none, 0, 0⟩, ⟨0, []⟩)⟩
    obtain ⟨T, hT⟩ := Go.Deep.choose_lt each
    refine ⟨some x, c, (List.range len).map fun i => (T i).2, by simpa using hcs, by simp; omega, (List.range len).map fun i => (T i).1, by simp, ?_, ?_⟩
    · obtain ⟨b, off, spot⟩ := x
      by_cases h0 : len = 0
      · subst h0; exact .inl rfl
      · have hs : spot = none := by
          have h1 := (hT 0 (by omega)).2 0 (by omega)
          have h2 := World.cell?_spot (h1.trans (by rfl : (lvc (T 0).1)[0]? = some (.int .i64 (T 0).1.o)))
          simpa [Addr.add] using h2
        subst hs
        have hb : b < W.heap.size := by
          have h1 := ((hT 0 (by omega)).2 0 (by omega)).trans (by rfl : (lvc (T 0).1)[0]? = some (.int .i64 (T 0).1.o))
          have := World.block_lt_of_cell? W _ h1
          simpa [Addr.add] using this
        refine .inr ⟨b, off, rfl, hb, fun i t hi k hk => ?_⟩
        have hi' : i < len := by have := lt_of_some hi; simpa using this
        have e : (T i).1 = t := by simpa [hi'] using hi
        have := (hT i hi').2 k hk
        rwa [addrAdd, addrAdd, e] at this
    · intro i x l hx hl
      have hi' : i < len := by have := lt_of_some hx; simpa using this
      have e1 : (T i).1 = x := by simpa [hi'] using hx
      have e2 : (T i).2 = l := by simpa [hi'] using hl
      have := (hT i hi').1
      rwa [e1, e2] at this
theorem list9 {α : Type} {cs : List α} (h : cs.length = 9) : ∃ c0 c1 c2 c3 c4 c5 c6 c7 c8, cs = [c0, c1, c2, c3, c4, c5, c6, c7, c8] := by
  match cs, h with
  | [c0, c1, c2, c3, c4, c5, c6, c7, c8], _ => exact ⟨c0, c1, c2, c3, c4, c5, c6, c7, c8, rfl⟩
set_option maxHeartbeats 1000000 in
set_option maxRecDepth 100000 in
theorem read_sys {H : Type} {enc : TypeId × Value → H} {W : World} {base : Nat} {spare : Nat → Bool} {held : Bool} {fuel : Nat} {cs : List Value} {x : DataW H × List MemPlace}
    (h : DataW.trod enc Tryz.prog W base spare held fuel 28 cs = some x) : ∃ (s : Sy) (v : Sv), cs = (syc s v).toList ∧ SysLay false W v s ∧ WfS s := by
  have ci : Tryz.prog.cellsOf 3 = 1 := by kernel_rfl
  have c_t : Tryz.prog.cellsOf 22 = 1 := by kernel_rfl
  have c_l : Tryz.prog.cellsOf 23 = 1 := by kernel_rfl
  have c_g : Tryz.prog.cellsOf 24 = 1 := by kernel_rfl
  have c_f : Tryz.prog.cellsOf 25 = 1 := by kernel_rfl
  have c_r : Tryz.prog.cellsOf 26 = 1 := by kernel_rfl
  have ct : Tryz.prog.cellsOf 28 = 9 := by kernel_rfl
  obtain ⟨xs, n, _, _, hl, hxl, hf⟩ := DataW.trod_struct Tryz.underlying28 h
  rw [ct] at hl
  replace hxl : xs.length = 9 := hxl
  have g0 : DataW.trod enc Tryz.prog W base spare held n 3 ((cs.drop 0).take (Tryz.prog.cellsOf 3)) = xs[0]? := hf 0 _ rfl
  rw [ci, List.getElem?_eq_getElem (show 0 < xs.length by omega)] at g0
  obtain ⟨x0, e0, q0⟩ := readIntR g0
  have g1 : DataW.trod enc Tryz.prog W base spare held n 3 ((cs.drop 1).take (Tryz.prog.cellsOf 3)) = xs[1]? := hf 1 _ rfl
  rw [ci, List.getElem?_eq_getElem (show 1 < xs.length by omega)] at g1
  obtain ⟨x1, e1, q1⟩ := readIntR g1
  have g2 : DataW.trod enc Tryz.prog W base spare held n 22 ((cs.drop 2).take (Tryz.prog.cellsOf 22)) = xs[2]? := hf 2 _ rfl
  rw [c_t, List.getElem?_eq_getElem (show 2 < xs.length by omega)] at g2
  haveI : Inhabited Tsk := ⟨Tsk.zero⟩
  obtain ⟨a2, cap2, ts, e2, m2, l2⟩ := readRow (c := tc) (by decide) tc_size Tryz.underlying22 (by kernel_rfl) (fun _ _ _ h => read_task h) g2
  have g3 : DataW.trod enc Tryz.prog W base spare held n 23 ((cs.drop 3).take (Tryz.prog.cellsOf 23)) = xs[3]? := hf 3 _ rfl
  rw [c_l, List.getElem?_eq_getElem (show 3 < xs.length by omega)] at g3
  obtain ⟨a3, cap3, ls, e3, m3, l3⟩ := readLocks g3
  have g4 : DataW.trod enc Tryz.prog W base spare held n 24 ((cs.drop 4).take (Tryz.prog.cellsOf 24)) = xs[4]? := hf 4 _ rfl
  rw [c_g, List.getElem?_eq_getElem (show 4 < xs.length by omega)] at g4
  haveI : Inhabited Gh := ⟨⟨0, 0, 0, 0⟩⟩
  obtain ⟨a4, cap4, gs, e4, m4, l4⟩ := readRow (c := ghc) (by decide) ghc_size Tryz.underlying24 (by kernel_rfl) (fun _ _ _ h => read_ghost h) g4
  have g5 : DataW.trod enc Tryz.prog W base spare held n 25 ((cs.drop 5).take (Tryz.prog.cellsOf 25)) = xs[5]? := hf 5 _ rfl
  rw [c_f, List.getElem?_eq_getElem (show 5 < xs.length by omega)] at g5
  obtain ⟨a5, cap5, fs, e5, m5, l5⟩ := readInts g5
  have g6 : DataW.trod enc Tryz.prog W base spare held n 3 ((cs.drop 6).take (Tryz.prog.cellsOf 3)) = xs[6]? := hf 6 _ rfl
  rw [ci, List.getElem?_eq_getElem (show 6 < xs.length by omega)] at g6
  obtain ⟨x6, e6, q6⟩ := readIntR g6
  have g7 : DataW.trod enc Tryz.prog W base spare held n 3 ((cs.drop 7).take (Tryz.prog.cellsOf 3)) = xs[7]? := hf 7 _ rfl
  rw [ci, List.getElem?_eq_getElem (show 7 < xs.length by omega)] at g7
  obtain ⟨x7, e7, q7⟩ := readIntR g7
  have g8 : DataW.trod enc Tryz.prog W base spare held n 26 ((cs.drop 8).take (Tryz.prog.cellsOf 26)) = xs[8]? := hf 8 _ rfl
  rw [c_r, List.getElem?_eq_getElem (show 8 < xs.length by omega)] at g8
  haveI : Inhabited Tn := ⟨⟨0, 0, 0⟩⟩
  obtain ⟨a8, cap8, rs, e8, m8, l8⟩ := readRow (c := tnc) (by decide) tnc_size Tryz.underlying26 (by kernel_rfl) (fun _ _ _ h => read_turn h) g8
  obtain ⟨c0, c1, c2, c3, c4, c5, c6, c7, c8, rfl⟩ := list9 hl
  simp at e0 e1 e2 e3 e4 e5 e6 e7 e8
  subst e0 e1 e2 e3 e4 e5 e6 e7 e8
  exact ⟨⟨x0, x1, ts, ls, gs, fs, x6, x7, rs⟩, ⟨⟨a2, ts.length, cap2⟩, ⟨a3, ls.length, cap3⟩, ⟨a4, gs.length, cap4⟩, ⟨a5, fs.length, cap5⟩, ⟨a8, rs.length, cap8⟩⟩, rfl, ⟨rfl, m2, l2, rfl, m3, l3, rfl, m4, l4, rfl, m5, l5, rfl, m8, l8⟩, q0, q1, q6, q7⟩
set_option maxRecDepth 100000 in
theorem open_sys {H : Type} {enc : TypeId × Value → H} {W : World} {r : Reach} {b0 : Nat} {v : Value} {d : DataW H} {p : List MemPlace}
    (hv : Value.okWide Tryz.prog W r b0 28 v) (h : DataW.Trod enc Tryz.prog W 0 (fun _ => true) true 28 v d p) : ∃ (s : Sy) (x : Sv), v = .agg (syc s x) ∧ SysLay false W x s ∧ WfS s := by
  obtain ⟨cs, rfl, _⟩ := okWide_struct Tryz.underlying28 hv
  obtain ⟨fuel, hf⟩ := h
  obtain ⟨s, x, e, l, q⟩ := read_sys hf
  refine ⟨s, x, ?_, l, q⟩
  simp only [Value.cells] at e
  exact congrArg Value.agg (Array.ext' e)
end Go.Proofs.YthpdlbcdbncnhaaGreatDoor
