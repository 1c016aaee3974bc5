/-
  Locks: who waits where, as a map; what is right of them by that map.
  The program's locks: who waits where, and what follows from it, its own helpers.
  The program's locks: what is right of them, chains, owners.
-/
import Derived.Test.YthffapllcbjmlaaGLock2
import Derived.Test.YthffapllcbjmlaaGBase2
import Derived.Test.YthffapllcbjmlaaGItask1
import Derived.Test.YthffapllcbjmlaaGBase1
import Derived.WalkMore
import Derived.Test.YthffapllcbjmlaaGLock3
namespace Go.Proofs.Ythffapllcbjmlaa
open Go.RowKit

def addW (at_ : Int) (es : List (Int × Int)) (no : Int) : List (Int × Int) := if hasM es no then es else es ++ [(no, at_)]
def addL (at_ : Int) (es : List (Int × Int)) (ws : List Int) : List (Int × Int) := ws.foldl (addW at_) es
/-- The map behind the first k locks. -/
def placesTo (ls : List Lk) : Nat → List (Int × Int)
  | 0 => []
  | k + 1 => addL k (placesTo ls k) (match ls[k]? with | some l => l.waits | none => [])
def placesL (ls : List Lk) : List (Int × Int) := placesTo ls ls.length
theorem placesTo_step {ls : List Lk} {k : Nat} {l : Lk} (h : ls[k]? = some l) : placesTo ls (k + 1) = addL k (placesTo ls k) l.waits := by simp [placesTo, h]
theorem addL_take {at_ : Int} {es : List (Int × Int)} {ws : List Int} {j : Nat} {x : Int} (h : ws[j]? = some x) : addL at_ es (ws.take (j + 1)) = addW at_ (addL at_ es (ws.take j)) x := by
  unfold addL
  rw [List.take_add_one, h, List.foldl_append]
  rfl
theorem addW_look (a : Int) (es : List (Int × Int)) (no x : Int) : lookM (addW a es no) x = (lookM es x).or (if no == x then some a else none) := by
  unfold addW hasM
  cases h : lookM es no with
  | none =>
    simp only [Option.isSome_none, Bool.false_eq_true, if_false]
    rw [lookM_append, lookM_one]
  | some v =>
    simp only [Option.isSome_some, if_true]
    by_cases e : no = x
    · subst e; rw [h]; rfl
    · rw [if_neg (by simpa using e)]; simp
theorem addL_look (a : Int) : ∀ (ws : List Int) (es : List (Int × Int)) (x : Int), lookM (addL a es ws) x = (lookM es x).or (if hasB ws x then some a else none)
  | [], es, x => by simp [addL, hasB]
  | y :: r, es, x => by
    have ih := addL_look a r (addW a es y) x
    unfold addL at ih ⊢
    rw [List.foldl_cons, ih, addW_look]
    have e : hasB (y :: r) x = ((y == x) || hasB r x) := by simp [hasB]
    rw [e]
    cases lookM es x with
    | some v => rfl
    | none => cases c : (y == x) <;> simp
theorem placesTo_look (ls : List Lk) : ∀ (k : Nat), k ≤ ls.length → ∀ x, lookM (placesTo ls k) x = (waitIx (ls.take k) x).map fun i : Nat => (i : Int)
  | 0, _, x => by simp [placesTo, lookM, waitIx]
  | k + 1, hk, x => by
    obtain ⟨l, hl⟩ := some_in (xs := ls) (k := k) (by omega)
    rw [placesTo_step hl, addL_look, placesTo_look ls k (by omega) x]
    unfold waitIx
    rw [List.take_add_one, hl, List.findIdx?_append]
    cases h : List.findIdx? (fun l => hasB l.waits x) (ls.take k) with
    | some i => rfl
    | none =>
      simp only [Option.toList_some, List.findIdx?_singleton, Option.map_none, Option.none_or, List.length_take]
      cases hb : hasB l.waits x
      · rfl
      · simp; omega
theorem placesL_look (ls : List Lk) (x : Int) : lookM (placesL ls) x = (waitIx ls x).map fun i : Nat => (i : Int) := by
  have := placesTo_look ls ls.length (Nat.le_refl _) x
  rwa [List.take_length] at this
theorem placesL_none {ls : List Lk} {x : Int} (h : waitIx ls x = none) : hasM (placesL ls) x = false := by unfold hasM; rw [placesL_look, h]; rfl
theorem placesL_some {ls : List Lk} {x : Int} {i : Nat} (h : waitIx ls x = some i) : hasM (placesL ls) x = true ∧ valM (placesL ls) x = (i : Int) := by
  unfold hasM valM
  rw [placesL_look, h]
  exact ⟨rfl, rfl⟩
theorem addW_keys (a : Int) (es : List (Int × Int)) (no : Int) (h : Once es) : Once (addW a es no) := by
  unfold addW hasM
  cases e : lookM es no with
  | some v => simpa using h
  | none =>
    simp only [Option.isSome_none, Bool.false_eq_true, if_false]
    unfold Once at h ⊢
    rw [List.map_append, List.nodup_append]
    refine ⟨h, by simp, fun x hx y hy => ?_⟩
    simp at hy
    subst hy
    exact fun e' => lookM_none.1 e (e' ▸ hx)
theorem addL_keys (a : Int) : ∀ (ws : List Int) (es : List (Int × Int)), Once es → Once (addL a es ws)
  | [], _, h => h
  | y :: r, es, h => addL_keys a r (addW a es y) (addW_keys a es y h)
theorem placesTo_keys (ls : List Lk) : ∀ k, Once (placesTo ls k)
  | 0 => List.nodup_nil
  | k + 1 => addL_keys _ _ _ (placesTo_keys ls k)
theorem placesL_keys (ls : List Lk) : Once (placesL ls) := placesTo_keys ls _

/-- How many entries there are. -/
theorem addL_len (a : Int) : ∀ (ws : List Int) (es : List (Int × Int)), (addL a es ws).length ≤ es.length + ws.length ∧ ((addL a es ws).length = es.length + ws.length ↔ (∀ x ∈ ws, lookM es x = none) ∧ ws.Nodup)
  | [], es => by simp [addL]
  | y :: r, es => by
    have ih := addL_len a r (addW a es y)
    have e1 : addL a es (y :: r) = addL a (addW a es y) r := rfl
    rw [e1]
    cases h : lookM es y with
    | some v =>
      have e2 : addW a es y = es := by unfold addW hasM; rw [h]; rfl
      rw [e2] at ih ⊢
      refine ⟨by simp only [List.length_cons]; omega, fun hh => ?_, fun hh => ?_⟩
      · simp only [List.length_cons] at hh; omega
      · have := hh.1 y (List.mem_cons_self ..); rw [h] at this; cases this
    | none =>
      have e2 : addW a es y = es ++ [(y, a)] := by unfold addW hasM; rw [h]; rfl
      have e3 : (addW a es y).length = es.length + 1 := by rw [e2]; simp
      rw [e3] at ih
      refine ⟨by simp only [List.length_cons]; omega, ?_⟩
      have e4 : (addL a (addW a es y) r).length = es.length + (y :: r).length ↔ (addL a (addW a es y) r).length = es.length + 1 + r.length := by simp only [List.length_cons]; omega
      rw [e4, ih.2, List.nodup_cons]
      have e5 : ∀ x, lookM (addW a es y) x = none ↔ lookM es x = none ∧ y ≠ x := by
        intro x
        rw [addW_look]
        cases lookM es x with
        | some v => simp
        | none => by_cases c : y = x <;> simp [c]
      constructor
      · rintro ⟨h1, h2⟩
        refine ⟨fun x hx => ?_, fun hm => ((e5 y).1 (h1 y hm)).2 rfl, h2⟩
        rcases List.mem_cons.1 hx with rfl | hx
        · exact h
        · exact ((e5 x).1 (h1 x hx)).1
      · rintro ⟨h1, h2, h3⟩
        exact ⟨fun x hx => (e5 x).2 ⟨h1 x (List.mem_cons_of_mem _ hx), fun e => h2 (e ▸ hx)⟩, h3⟩
theorem placesTo_len (ls : List Lk) : ∀ k, k ≤ ls.length → (placesTo ls k).length ≤ sumW (ls.take k) ∧ ((placesTo ls k).length = sumW (ls.take k) ↔ (allW (ls.take k)).Nodup)
  | 0, _ => by simp [placesTo, sumW, allW]
  | k + 1, hk => by
    obtain ⟨l, hl⟩ := some_in (xs := ls) (k := k) (by omega)
    have ih := placesTo_len ls k (by omega)
    have h2 := addL_len k l.waits (placesTo ls k)
    have e0 : allW (ls.take (k + 1)) = allW (ls.take k) ++ l.waits := by rw [List.take_add_one, hl, allW_append]; simp [allW]
    rw [placesTo_step hl, sumW_take hl, e0, List.nodup_append]
    refine ⟨by omega, ?_⟩
    have e1 : (addL k (placesTo ls k) l.waits).length = sumW (ls.take k) + l.waits.length ↔ (addL k (placesTo ls k) l.waits).length = (placesTo ls k).length + l.waits.length ∧ (placesTo ls k).length = sumW (ls.take k) := by omega
    rw [e1, h2.2, ih.2]
    have e2 : ∀ x, lookM (placesTo ls k) x = none ↔ x ∉ allW (ls.take k) := by
      intro x
      rw [placesTo_look ls k (by omega), Option.map_eq_none_iff, allW_none]
    constructor
    · rintro ⟨⟨h3, h4⟩, h5⟩
      exact ⟨h5, h4, fun a ha b hb e => (e2 b).1 (h3 b hb) (e ▸ ha)⟩
    · rintro ⟨h3, h4, h5⟩
      exact ⟨⟨fun x hx => (e2 x).2 fun hm => h5 x hm x hx rfl, h4⟩, h3⟩
theorem placesL_len (ls : List Lk) : (placesL ls).length ≤ sumW ls ∧ ((placesL ls).length = sumW ls ↔ (allW ls).Nodup) := by
  have := placesTo_len ls ls.length (Nat.le_refl _)
  rwa [List.take_length] at this
/-- One lock by itself is right. -/
def rightL (l : Lk) : Bool := l.waits.all (fun x => inB x 1 1000) && (inB l.owner 0 1000 && (!(l.owner == 0) || l.waits.length == 0))
/-- What the program asks of locks is what is right. -/
theorem locks_by_map (ls : List Lk) : (decide (ls.length ≤ 5) && (ls.all rightL && (decide ((placesL ls).length = sumW ls) && ls.all fun l => (chainN ls (ls.length + 1) l.owner).2))) = locksB ls := by
  apply Bool.eq_iff_iff.2
  rw [right_iff]
  simp only [Bool.and_eq_true, decide_eq_true_eq, List.all_eq_true, (placesL_len ls).2, nodup_count]
  have atm : ∀ {j : Nat} {l : Lk}, ls[j]? = some l → l ∈ ls := fun h => List.mem_of_getElem? h
  constructor
  · rintro ⟨h1, h2, h3, h4⟩
    have key : ∀ l ∈ ls, (∀ x ∈ l.waits, 1 ≤ x ∧ x ≤ 1000) ∧ (0 ≤ l.owner ∧ l.owner ≤ 1000) ∧ (l.owner = 0 → l.waits = []) := by
      intro l hl
      have := h2 l hl
      simp only [rightL, Bool.and_eq_true, List.all_eq_true, inB_iff, Bool.or_eq_true, Bool.not_eq_true', beq_eq_false_iff_ne, beq_iff_eq, List.length_eq_zero_iff] at this
      refine ⟨this.1, this.2.1, fun e => ?_⟩
      rcases this.2.2 with h | h
      · exact absurd e h
      · exact h
    refine ⟨h1, fun j l hl => (key l (atm hl)).2.1, fun j l hl => (key l (atm hl)).2.2, fun j l x hl hx => (key l (atm hl)).1 x (hasB_iff.1 hx), fun j l x hl hx => ?_, fun j l x hl hx => ?_⟩
    · rw [waitsN_all]; exact h3 x (mem_allW.2 ⟨j, l, hl, hx⟩)
    · cases hw : waitIx ls x with
      | none => exact absurd (mem_allW.2 ⟨j, l, hl, hx⟩) (allW_none.1 hw)
      | some i =>
        obtain ⟨m, hm, -, -⟩ := waitIx_some hw
        obtain ⟨c, hc⟩ := chainN_iff.1 (h4 m (atm hm))
        exact ⟨_, Ends.step hw (by rw [ownerAt_of hm]; exact hc)⟩
  · intro R
    have mem : ∀ {l : Lk}, l ∈ ls → ∃ j : Nat, ls[j]? = some l := fun hl => by
      obtain ⟨j, hj, rfl⟩ := List.mem_iff_getElem.1 hl
      exact ⟨j, List.getElem?_eq_getElem hj⟩
    refine ⟨R.len, fun l hl => ?_, fun x hx => ?_, fun l hl => ?_⟩
    · obtain ⟨j, hj⟩ := mem hl
      simp only [rightL, Bool.and_eq_true, List.all_eq_true, inB_iff, Bool.or_eq_true, Bool.not_eq_true', beq_eq_false_iff_ne, beq_iff_eq, List.length_eq_zero_iff]
      refine ⟨fun x hx => R.no j l x hj (hasB_iff.2 hx), R.owner j l hj, ?_⟩
      by_cases e : l.owner = 0
      · exact .inr (R.free j l hj e)
      · exact .inl e
    · obtain ⟨j, l, hj, hx⟩ := mem_allW.1 hx
      rw [← waitsN_all]; exact R.once j l x hj hx
    · rw [chainN_iff]
      cases hw : waitIx ls l.owner with
      | none => exact ⟨_, Ends.stop hw⟩
      | some i =>
        obtain ⟨m, hm, hx, -⟩ := waitIx_some hw
        exact R.ends i m l.owner hm hx
/-- Who still waits, when one is struck from the map. -/
theorem still_less {ls : List Lk} {j : Nat} {l : Lk} (hl : ls[j]? = some l) (x : Int) : l.waits.filter (fun y => hasM (delM (placesL ls) x) y) = lessL l.waits x := by
  unfold lessL
  refine List.filter_congr fun y hy => ?_
  unfold hasM
  rw [lookM_del (placesL_keys ls)]
  by_cases e : x = y
  · subst e; simp
  · rw [if_neg (by simpa using e)]
    have : waitIx ls y ≠ none := fun h => allW_none.1 h (mem_allW.2 ⟨j, l, hl, hasB_iff.2 hy⟩)
    rw [placesL_look]
    cases hw : waitIx ls y with
    | none => exact absurd hw this
    | some i => simp; exact fun e' => e e'.symm
end Go.Proofs.Ythffapllcbjmlaa
namespace Go.Proofs.Ythffapllcbjmlaa
open Go.RowKit
variable {p : Bool}
attribute [local go_sem] Keeps.refl Keeps.alloc Keeps.drew Keeps.drewN

set_option maxRecDepth 100000 in
theorem zeroI (w : World) : (zeroValue 3).run Try.prog w = .ok (.int .i64 0) w := by kernel_rfl

def sliceLen : Value → Nat
  | .slice _ n _ => n
  | _ => 0
end Go.Proofs.Ythffapllcbjmlaa
namespace Go.Proofs.Ythffapllcbjmlaa
open Go.RowKit
variable {p : Bool}
attribute [local go_sem] Keeps.refl Keeps.alloc Keeps.drew Keeps.drewN

theorem rightL_no {l : Lk} {k : Nat} {x : Int} (hx : l.waits[k]? = some x) (h : inB x 1 1000 = false) : rightL l = false := by
  unfold rightL
  have : l.waits.all (fun x => inB x 1 1000) = false := by
    rw [List.all_eq_false]
    exact ⟨x, List.mem_of_getElem? hx, by rw [h]; simp⟩
  rw [this]; rfl
theorem rightL_of {l : Lk} (H : ∀ (j : Nat) (x : Int), l.waits[j]? = some x → inB x 1 1000 = true) : rightL l = (inB l.owner 0 1000 && (!(l.owner == 0) || l.waits.length == 0)) := by
  unfold rightL
  have : l.waits.all (fun x => inB x 1 1000) = true := by
    rw [List.all_eq_true]
    intro x hx
    obtain ⟨j, hj, rfl⟩ := List.mem_iff_getElem.1 hx
    exact H j _ (List.getElem?_eq_getElem hj)
  rw [this]; rfl

def eachB (ls : List Lk) : Bool := ls.all rightL
theorem eachB_no {ls : List Lk} {k : Nat} {l : Lk} (hl : ls[k]? = some l) (h : rightL l = false) : eachB ls = false := by
  unfold eachB
  rw [List.all_eq_false]
  exact ⟨l, List.mem_of_getElem? hl, by rw [h]; simp⟩
theorem eachB_of {ls : List Lk} (H : ∀ (j : Nat) (l : Lk), ls[j]? = some l → rightL l = true) : eachB ls = true := by
  unfold eachB
  rw [List.all_eq_true]
  intro l hl
  obtain ⟨j, hj, rfl⟩ := List.mem_iff_getElem.1 hl
  exact H j _ (List.getElem?_eq_getElem hj)

def endsAllB (ls : List Lk) : Bool := ls.all fun l => (chainN ls (ls.length + 1) l.owner).2
theorem endsAllB_no {ls : List Lk} {k : Nat} {l : Lk} (hl : ls[k]? = some l) (h : (chainN ls (ls.length + 1) l.owner).2 = false) : endsAllB ls = false := by
  unfold endsAllB
  rw [List.all_eq_false]
  exact ⟨l, List.mem_of_getElem? hl, by rw [h]; simp⟩
theorem endsAllB_of {ls : List Lk} (H : ∀ (j : Nat) (l : Lk), ls[j]? = some l → (chainN ls (ls.length + 1) l.owner).2 = true) : endsAllB ls = true := by
  unfold endsAllB
  rw [List.all_eq_true]
  intro l hl
  obtain ⟨j, hj, rfl⟩ := List.mem_iff_getElem.1 hl
  exact H j _ (List.getElem?_eq_getElem hj)

theorem locks_parts (ls : List Lk) : (decide (ls.length ≤ 5) && (eachB ls && (decide ((placesL ls).length = sumW ls) && endsAllB ls))) = locksB ls := locks_by_map ls

end Go.Proofs.Ythffapllcbjmlaa
