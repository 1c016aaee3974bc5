/-
  Locks: what is asked for and freed leaves right ones.
-/
import Derived.Test.YtpikopdfkhagmaaDoorLockPure
namespace Go.Proofs.YtpikopdfkhagmaaDoor
open Go.RowKit

theorem lt_some {α : Type} {xs : List α} {k : Nat} {x : α} (h : xs[k]? = some x) : k < xs.length := by
  rcases Nat.lt_or_ge k xs.length with h' | h'
  · exact h'
  · rw [List.getElem?_eq_none h'] at h; cases h
theorem setAt {ls : List Lk} {k i : Nat} {m y : Lk} (h : (ls.set k y)[i]? = some m) : (i = k ∧ m = y) ∨ (i ≠ k ∧ ls[i]? = some m) := by
  by_cases e : k = i
  · subst e
    have hl : k < ls.length := by have := lt_some h; simpa using this
    rw [List.getElem?_set_self hl] at h
    cases h; exact .inl ⟨rfl, rfl⟩
  · rw [List.getElem?_set_ne e] at h
    exact .inr ⟨Ne.symm e, h⟩
theorem modifySet {ls : List Lk} {i : Nat} {l : Lk} (h : ls[i]? = some l) (f : Lk → Lk) : ls.modify i f = ls.set i (f l) := by
  apply List.ext_getElem?
  intro j
  by_cases e : i = j
  · subst e
    rw [List.getElem?_modify, List.getElem?_set_self (lt_some h), h]
    simp
  · rw [List.getElem?_modify, List.getElem?_set_ne e]
    simp [e]
theorem count_pos {xs : List Int} {x : Int} : 0 < countN xs x ↔ hasB xs x = true := by
  unfold countN hasB
  rw [List.length_pos_iff_exists_mem, List.any_eq_true]
  constructor
  · rintro ⟨y, hy⟩; rw [List.mem_filter] at hy; exact ⟨y, hy.1, hy.2⟩
  · rintro ⟨y, h1, h2⟩; exact ⟨y, List.mem_filter.2 ⟨h1, h2⟩⟩
theorem count_zero {xs : List Int} {x : Int} : countN xs x = 0 ↔ hasB xs x = false := by
  have := count_pos (xs := xs) (x := x)
  cases h : hasB xs x
  · rw [h] at this; simp at this; simp; exact this
  · rw [h] at this; simp at this; simp; omega
theorem waitsN_set : ∀ {ls : List Lk} {j : Nat} {l : Lk} (m : Lk) (x : Int), ls[j]? = some l → waitsN (ls.set j m) x + countN l.waits x = waitsN ls x + countN m.waits x
  | [], j, l, m, x, h => by simp at h
  | y :: r, 0, l, m, x, h => by
    simp at h
    subst h
    simp only [List.set_cons_zero, waitsN]
    omega
  | y :: r, j + 1, l, m, x, h => by
    have := waitsN_set (ls := r) (j := j) m x (by simpa using h)
    simp only [List.set_cons_succ, waitsN]
    omega
theorem waitsN_ge : ∀ {ls : List Lk} {j : Nat} {l : Lk} (x : Int), ls[j]? = some l → countN l.waits x ≤ waitsN ls x
  | [], j, l, x, h => by simp at h
  | y :: r, 0, l, x, h => by simp at h; subst h; simp only [waitsN]; omega
  | y :: r, j + 1, l, x, h => by
    have := waitsN_ge (ls := r) (j := j) x (by simpa using h)
    simp only [waitsN]; omega
/-- Who waits for one waits for no other. -/
theorem waits_once {ls : List Lk} {x : Int} (h1 : waitsN ls x = 1) {i j : Nat} {l m : Lk} (hl : ls[j]? = some l) (hx : hasB l.waits x = true) (hm : ls[i]? = some m) (hij : i ≠ j) : hasB m.waits x = false := by
  have e := waitsN_set (⟨0, []⟩ : Lk) x hl
  have c0 : countN ([] : List Int) x = 0 := rfl
  have cp := count_pos.2 hx
  rw [h1] at e
  simp only [c0] at e
  have hm' : (ls.set j (⟨0, []⟩ : Lk))[i]? = some m := by rw [List.getElem?_set_ne (Ne.symm hij)]; exact hm
  have := waitsN_ge x hm'
  exact count_zero.1 (by omega)

/-- What right locks are. -/
structure Right (ls : List Lk) : Prop where
  len : ls.length ≤ 5
  owner : ∀ (j : Nat) (l : Lk), ls[j]? = some l → 0 ≤ l.owner ∧ l.owner ≤ 1000
  free : ∀ (j : Nat) (l : Lk), ls[j]? = some l → l.owner = 0 → l.waits = []
  no : ∀ (j : Nat) (l : Lk) (x : Int), ls[j]? = some l → hasB l.waits x = true → 1 ≤ x ∧ x ≤ 1000
  once : ∀ (j : Nat) (l : Lk) (x : Int), ls[j]? = some l → hasB l.waits x = true → waitsN ls x = 1
  ends : ∀ (j : Nat) (l : Lk) (x : Int), ls[j]? = some l → hasB l.waits x = true → ∃ c, Ends ls x c
theorem right_iff {ls : List Lk} : locksB ls = true ↔ Right ls := by
  unfold locksB
  simp only [Bool.and_eq_true, decide_eq_true_eq, List.all_eq_true]
  have wb : ∀ x, waiterB ls x = true ↔ (∃ c, Ends ls x c) ∧ (1 ≤ x ∧ x ≤ 1000) ∧ waitsN ls x = 1 := by
    intro x
    unfold waiterB
    rw [Bool.and_eq_true, Bool.and_eq_true, chainN_iff, inB_iff, beq_iff_eq]
  have lb : ∀ l, lockB ls l = true ↔ (0 ≤ l.owner ∧ l.owner ≤ 1000) ∧ (l.owner = 0 → l.waits = []) ∧ ∀ x, hasB l.waits x = true → waiterB ls x = true := by
    intro l
    unfold lockB
    rw [Bool.and_eq_true, Bool.and_eq_true, inB_iff, List.all_eq_true]
    refine and_congr Iff.rfl (and_congr ?_ ?_)
    · rw [Bool.not_eq_true', Bool.and_eq_false_iff]
      constructor
      · rintro (h | h) e
        · simp [e] at h
        · simp at h; exact h
      · intro h
        by_cases e : l.owner = 0
        · right; rw [h e]; rfl
        · left; simpa using e
    · constructor
      · intro h x hx; exact h x (hasB_iff.1 hx)
      · intro h x hx; exact h x (hasB_iff.2 hx)
  constructor
  · rintro ⟨h1, h2⟩
    have key : ∀ (j : Nat) (l : Lk), ls[j]? = some l → lockB ls l = true := fun j l hl => h2 l (List.mem_of_getElem? hl)
    exact ⟨h1, fun j l hl => ((lb l).1 (key j l hl)).1, fun j l hl => ((lb l).1 (key j l hl)).2.1, fun j l x hl hx => ((wb x).1 (((lb l).1 (key j l hl)).2.2 x hx)).2.1, fun j l x hl hx => ((wb x).1 (((lb l).1 (key j l hl)).2.2 x hx)).2.2, fun j l x hl hx => ((wb x).1 (((lb l).1 (key j l hl)).2.2 x hx)).1⟩
  · intro R
    refine ⟨R.len, fun l hl => ?_⟩
    obtain ⟨j, hj, rfl⟩ := List.mem_iff_getElem.1 hl
    have e := List.getElem?_eq_getElem hj
    exact (lb _).2 ⟨R.owner j _ e, R.free j _ e, fun x hx => (wb x).2 ⟨R.ends j _ x e hx, R.no j _ x e hx, R.once j _ x e hx⟩⟩
theorem waitIx_same {ls ls' : List Lk} {x : Int} (hl : ls'.length = ls.length) (h : ∀ (j : Nat) (m m' : Lk), ls[j]? = some m → ls'[j]? = some m' → hasB m'.waits x = hasB m.waits x) : waitIx ls' x = waitIx ls x := by
  have get : ∀ (j : Nat) (m' : Lk), ls'[j]? = some m' → ∃ m, ls[j]? = some m := fun j m' hm => ⟨ls[j]'(by have := lt_some hm; omega), List.getElem?_eq_getElem _⟩
  cases hw : waitIx ls x with
  | none =>
    refine waitIx_of_none fun j m' hm => ?_
    obtain ⟨m, hm0⟩ := get j m' hm
    rw [h j m m' hm0 hm]; exact waitIx_none hw j m hm0
  | some i =>
    obtain ⟨l, hl1, hx, hmin⟩ := waitIx_some hw
    have hi : i < ls'.length := by have := lt_some hl1; omega
    refine waitIx_of (List.getElem?_eq_getElem hi) ?_ fun j m' hj hm => ?_
    · rw [h i l _ hl1 (List.getElem?_eq_getElem hi)]; exact hx
    · obtain ⟨m, hm0⟩ := get j m' hm
      rw [h j m m' hm0 hm]; exact hmin j m hj hm0
theorem ownerAt_set {ls : List Lk} {j i : Nat} {m : Lk} (h : i ≠ j) : ownerAt (ls.set j m) i = ownerAt ls i := by
  unfold ownerAt
  rw [List.getElem?_set_ne (Ne.symm h)]
theorem ownerAt_self {ls : List Lk} {j : Nat} {m : Lk} (h : j < ls.length) : ownerAt (ls.set j m) j = m.owner := by
  unfold ownerAt
  rw [List.getElem?_set_self h]
section wait
variable {ls : List Lk} {j : Nat} {l : Lk} {no : Int}
end wait
end Go.Proofs.YtpikopdfkhagmaaDoor
