/-
  Locks: what is asked for and freed leaves right ones.
-/
import Derived.Test.YtpikopdfkhagmaaDoorLockPure
namespace Go.Proofs.YtpikopdfkhagmaaDoor
open Go.RowKit

theorem lt_some {α : Type} {xs : List α} {k : Nat} {x : α} (h : xs[k]? = some x) : k < xs.length := by
  rcases Nat.lt_or_ge k xs.length with h' | h'
  · exact h'
  · rw [List.getElem?_eq_none h'] at h; cases h
theorem setAt {ls : List Lk} {k i : Nat} {m y : Lk} (h : (ls.set k y)[i]? = some m) : (i = k ∧ m = y) ∨ (i ≠ k ∧ ls[i]? = some m) := by
  by_cases e : k = i
  · subst e
    have hl : k < ls.length := by have := lt_some h; simpa using this
    rw [List.getElem?_set_self hl] at h
    cases h; exact .inl ⟨rfl, rfl⟩
  · rw [List.getElem?_set_ne e] at h
    exact .inr ⟨Ne.symm e, h⟩
theorem modifySet {ls : List Lk} {i : Nat} {l : Lk} (h : ls[i]? = some l) (f : Lk → Lk) : ls.modify i f = ls.set i (f l) := by
  apply List.ext_getElem?
  intro j
  by_cases e : i = j
  · subst e
    rw [List.getElem?_modify, List.getElem?_set_self (lt_some h), h]
    simp
  · rw [List.getElem?_modify, List.getElem?_set_ne e]
    simp [e]
theorem count_pos {xs : List Int} {x : Int} : 0 < countN xs x ↔ hasB xs x = true := by
  unfold countN hasB
  rw [List.length_pos_iff_exists_mem, List.any_eq_true]
  constructor
  · rintro ⟨y, hy⟩; rw [List.mem_filter] at hy; exact ⟨y, hy.1, hy.2⟩
  · rintro ⟨y, h1, h2⟩; exact ⟨y, List.mem_filter.2 ⟨h1, h2⟩⟩
theorem count_zero {xs : List Int} {x : Int} : countN xs x = 0 ↔ hasB xs x = false := by
  have := count_pos (xs := xs) (x := x)
  cases h : hasB xs x
  · rw [h] at this; simp at this; simp; exact this
  · rw [h] at this; simp at this; simp; omega
theorem waitsN_set : ∀ {ls : List Lk} {j : Nat} {l : Lk} (m : Lk) (x : Int), ls[j]? = some l → waitsN (ls.set j m) x + countN l.waits x = waitsN ls x + countN m.waits x
  | [], j, l, m, x, h => by simp at h
  | y :: r, 0, l, m, x, h => by
    simp at h
    subst h
    simp only [List.set_cons_zero, waitsN]
    omega
  | y :: r, j + 1, l, m, x, h => by
    have := waitsN_set (ls := r) (j := j) m x (by simpa using h)
    simp only [List.set_cons_succ, waitsN]
    omega
theorem waitsN_ge : ∀ {ls : List Lk} {j : Nat} {l : Lk} (x : Int), ls[j]? = some l → countN l.waits x ≤ waitsN ls x
  | [], j, l, x, h => by simp at h
  | y :: r, 0, l, x, h => by simp at h; subst h; simp only [waitsN]; omega
  | y :: r, j + 1, l, x, h => by
    have := waitsN_ge (ls := r) (j := j) x (by simpa using h)
    simp only [waitsN]; omega
theorem waitsN_zero {ls : List Lk} {x : Int} (h : ∀ (j : Nat) (l : Lk), ls[j]? = some l → hasB l.waits x = false) : waitsN ls x = 0 := by
  induction ls with
  | nil => rfl
  | cons y r ih =>
    have h0 := count_zero.2 (h 0 y rfl)
    have h1 := ih fun j l hl => h (j + 1) l (by simpa using hl)
    simp only [waitsN]; omega
/-- Who waits for one waits for no other. -/
theorem waits_once {ls : List Lk} {x : Int} (h1 : waitsN ls x = 1) {i j : Nat} {l m : Lk} (hl : ls[j]? = some l) (hx : hasB l.waits x = true) (hm : ls[i]? = some m) (hij : i ≠ j) : hasB m.waits x = false := by
  have e := waitsN_set (⟨0, []⟩ : Lk) x hl
  have c0 : countN ([] : List Int) x = 0 := rfl
  have cp := count_pos.2 hx
  rw [h1] at e
  simp only [c0] at e
  have hm' : (ls.set j (⟨0, []⟩ : Lk))[i]? = some m := by rw [List.getElem?_set_ne (Ne.symm hij)]; exact hm
  have := waitsN_ge x hm'
  exact count_zero.1 (by omega)

/-- What right locks are. -/
structure Right (ls : List Lk) : Prop where
  len : ls.length ≤ 5
  owner : ∀ (j : Nat) (l : Lk), ls[j]? = some l → 0 ≤ l.owner ∧ l.owner ≤ 1000
  free : ∀ (j : Nat) (l : Lk), ls[j]? = some l → l.owner = 0 → l.waits = []
  no : ∀ (j : Nat) (l : Lk) (x : Int), ls[j]? = some l → hasB l.waits x = true → 1 ≤ x ∧ x ≤ 1000
  once : ∀ (j : Nat) (l : Lk) (x : Int), ls[j]? = some l → hasB l.waits x = true → waitsN ls x = 1
  ends : ∀ (j : Nat) (l : Lk) (x : Int), ls[j]? = some l → hasB l.waits x = true → ∃ c, Ends ls x c
theorem right_iff {ls : List Lk} : locksB ls = true ↔ Right ls := by
  unfold locksB
  simp only [Bool.and_eq_true, decide_eq_true_eq, List.all_eq_true]
  have wb : ∀ x, waiterB ls x = true ↔ (∃ c, Ends ls x c) ∧ (1 ≤ x ∧ x ≤ 1000) ∧ waitsN ls x = 1 := by
    intro x
    unfold waiterB
    rw [Bool.and_eq_true, Bool.and_eq_true, chainN_iff, inB_iff, beq_iff_eq]
  have lb : ∀ l, lockB ls l = true ↔ (0 ≤ l.owner ∧ l.owner ≤ 1000) ∧ (l.owner = 0 → l.waits = []) ∧ ∀ x, hasB l.waits x = true → waiterB ls x = true := by
    intro l
    unfold lockB
    rw [Bool.and_eq_true, Bool.and_eq_true, inB_iff, List.all_eq_true]
    refine and_congr Iff.rfl (and_congr ?_ ?_)
    · rw [Bool.not_eq_true', Bool.and_eq_false_iff]
      constructor
      · rintro (h | h) e
        · simp [e] at h
        · simp at h; exact h
      · intro h
        by_cases e : l.owner = 0
        · right; rw [h e]; rfl
        · left; simpa using e
    · constructor
      · intro h x hx; exact h x (hasB_iff.1 hx)
      · intro h x hx; exact h x (hasB_iff.2 hx)
  constructor
  · rintro ⟨h1, h2⟩
    have key : ∀ (j : Nat) (l : Lk), ls[j]? = some l → lockB ls l = true := fun j l hl => h2 l (List.mem_of_getElem? hl)
    exact ⟨h1, fun j l hl => ((lb l).1 (key j l hl)).1, fun j l hl => ((lb l).1 (key j l hl)).2.1, fun j l x hl hx => ((wb x).1 (((lb l).1 (key j l hl)).2.2 x hx)).2.1, fun j l x hl hx => ((wb x).1 (((lb l).1 (key j l hl)).2.2 x hx)).2.2, fun j l x hl hx => ((wb x).1 (((lb l).1 (key j l hl)).2.2 x hx)).1⟩
  · intro R
    refine ⟨R.len, fun l hl => ?_⟩
    obtain ⟨j, hj, rfl⟩ := List.mem_iff_getElem.1 hl
    have e := List.getElem?_eq_getElem hj
    exact (lb _).2 ⟨R.owner j _ e, R.free j _ e, fun x hx => (wb x).2 ⟨R.ends j _ x e hx, R.no j _ x e hx, R.once j _ x e hx⟩⟩
theorem waitIx_same {ls ls' : List Lk} {x : Int} (hl : ls'.length = ls.length) (h : ∀ (j : Nat) (m m' : Lk), ls[j]? = some m → ls'[j]? = some m' → hasB m'.waits x = hasB m.waits x) : waitIx ls' x = waitIx ls x := by
  have get : ∀ (j : Nat) (m' : Lk), ls'[j]? = some m' → ∃ m, ls[j]? = some m := fun j m' hm => ⟨ls[j]'(by have := lt_some hm; omega), List.getElem?_eq_getElem _⟩
  cases hw : waitIx ls x with
  | none =>
    refine waitIx_of_none fun j m' hm => ?_
    obtain ⟨m, hm0⟩ := get j m' hm
    rw [h j m m' hm0 hm]; exact waitIx_none hw j m hm0
  | some i =>
    obtain ⟨l, hl1, hx, hmin⟩ := waitIx_some hw
    have hi : i < ls'.length := by have := lt_some hl1; omega
    refine waitIx_of (List.getElem?_eq_getElem hi) ?_ fun j m' hj hm => ?_
    · rw [h i l _ hl1 (List.getElem?_eq_getElem hi)]; exact hx
    · obtain ⟨m, hm0⟩ := get j m' hm
      rw [h j m m' hm0 hm]; exact hmin j m hj hm0
theorem ownerAt_set {ls : List Lk} {j i : Nat} {m : Lk} (h : i ≠ j) : ownerAt (ls.set j m) i = ownerAt ls i := by
  unfold ownerAt
  rw [List.getElem?_set_ne (Ne.symm h)]
theorem ownerAt_self {ls : List Lk} {j : Nat} {m : Lk} (h : j < ls.length) : ownerAt (ls.set j m) j = m.owner := by
  unfold ownerAt
  rw [List.getElem?_set_self h]
theorem hasB_append (xs ys : List Int) (x : Int) : hasB (xs ++ ys) x = (hasB xs x || hasB ys x) := by simp [hasB]
section wait
variable {ls : List Lk} {j : Nat} {l : Lk} {no : Int}
theorem waited_ix (hl : ls[j]? = some l) (hn : waitIx ls no = none) : (∀ x, x ≠ no → waitIx (ls.set j { l with waits := l.waits ++ [no] }) x = waitIx ls x) ∧ waitIx (ls.set j { l with waits := l.waits ++ [no] }) no = some j := by
  refine ⟨fun x hx => waitIx_same (by simp) fun i m m' hm hm' => ?_, waitIx_of (List.getElem?_set_self (lt_some hl)) (by simp [hasB]) fun i m hi hm => ?_⟩
  · rcases setAt hm' with ⟨rfl, rfl⟩ | ⟨_, h⟩
    · rw [hl] at hm; cases hm
      simp only [hasB_append]
      have : hasB [no] x = false := by simp [hasB]; exact fun e => hx e.symm
      rw [this, Bool.or_false]
    · rw [hm] at h; cases h; rfl
  · rcases setAt hm with ⟨rfl, _⟩ | ⟨_, h⟩
    · omega
    · exact waitIx_none hn i m h
theorem waited_owner (hl : ls[j]? = some l) (i : Nat) : ownerAt (ls.set j { l with waits := l.waits ++ [no] }) i = ownerAt ls i := by
  by_cases e : i = j
  · subst e; rw [ownerAt_self (lt_some hl), ownerAt_of hl]
  · exact ownerAt_set e
theorem waited_far (hl : ls[j]? = some l) (hn : waitIx ls no = none) : ∀ {c : List Int} {x : Int}, Ends ls x c → no ∉ c → Ends (ls.set j { l with waits := l.waits ++ [no] }) x c
  | [], _, h, _ => by rcases h.cases with ⟨_, e⟩ | ⟨_, _, _, e, _⟩ <;> cases e
  | y :: r, x, h, hc => by
    rcases h.cases with ⟨h1, e⟩ | ⟨i, r', h1, e, hr⟩
    · rw [e] at hc ⊢
      exact Ends.stop (((waited_ix hl hn).1 x (fun e => hc (by rw [e]; simp))).trans h1)
    · cases e
      refine Ends.step (((waited_ix hl hn).1 _ (fun e => hc (by rw [e]; simp))).trans h1) ?_
      rw [waited_owner hl]
      exact waited_far hl hn hr (fun h => hc (List.mem_cons_of_mem _ h))
theorem waited_near (hl : ls[j]? = some l) (hn : waitIx ls no = none) {d : List Int} (hd : Ends (ls.set j { l with waits := l.waits ++ [no] }) l.owner d) : ∀ {c : List Int} {x : Int}, Ends ls x c → no ∈ c → Ends (ls.set j { l with waits := l.waits ++ [no] }) x (c ++ d)
  | [], _, h, _ => by rcases h.cases with ⟨_, e⟩ | ⟨_, _, _, e, _⟩ <;> cases e
  | y :: r, x, h, hc => by
    rcases h.cases with ⟨h1, e⟩ | ⟨i, r', h1, e, hr⟩
    · rw [e] at hc ⊢
      have ex : x = no := by have := List.mem_singleton.1 hc; exact this.symm
      subst ex
      refine Ends.step (waited_ix hl hn).2 ?_
      rw [waited_owner hl, ownerAt_of hl]
      exact hd
    · cases e
      have hx : y ≠ no := fun e => by rw [e, hn] at h1; cases h1
      refine Ends.step (((waited_ix hl hn).1 y hx).trans h1) ?_
      rw [waited_owner hl]
      refine waited_near hl hn hd hr ?_
      rcases List.mem_cons.1 hc with e | e
      · exact absurd e.symm hx
      · exact e
/-- One more waits. -/
theorem Right.waited (R : Right ls) (hl : ls[j]? = some l) (h0 : l.owner ≠ 0) (hno : 1 ≤ no ∧ no ≤ 1000) (hn : waitIx ls no = none) {d : List Int} (hd : Ends ls l.owner d) (hnd : no ∉ d) :
    Right (ls.set j { l with waits := l.waits ++ [no] }) ∧ Ends (ls.set j { l with waits := l.waits ++ [no] }) no (no :: d) := by
  have hd' := waited_far hl hn hd hnd
  have e0 : Ends (ls.set j { l with waits := l.waits ++ [no] }) no (no :: d) := by
    refine Ends.step (waited_ix hl hn).2 ?_
    rw [waited_owner hl, ownerAt_of hl]
    exact hd'
  have hz : ∀ (i : Nat) (m : Lk), ls[i]? = some m → hasB m.waits no = false := waitIx_none hn
  have nsame : ∀ x, x ≠ no → waitsN (ls.set j { l with waits := l.waits ++ [no] }) x = waitsN ls x := fun x hx => by
    have := waitsN_set ({ l with waits := l.waits ++ [no] } : Lk) x hl
    have c : countN (l.waits ++ [no]) x = countN l.waits x := by
      unfold countN
      rw [List.filter_append]
      have : ([no].filter fun y => y == x) = [] := by simp; exact fun e => hx e.symm
      rw [this]; simp
    simp only [c] at this
    omega
  have none' : waitsN (ls.set j { l with waits := l.waits ++ [no] }) no = 1 := by
    have := waitsN_set ({ l with waits := l.waits ++ [no] } : Lk) no hl
    have c : countN (l.waits ++ [no]) no = countN l.waits no + 1 := by unfold countN; simp
    simp only [c] at this
    have := waitsN_zero hz
    omega
  have back : ∀ (i : Nat) (m : Lk) (x : Int), (ls.set j { l with waits := l.waits ++ [no] })[i]? = some m → hasB m.waits x = true → x = no ∨ ∃ (k : Nat) (m0 : Lk), ls[k]? = some m0 ∧ hasB m0.waits x = true := by
    intro i m x hm hx
    rcases setAt hm with ⟨rfl, rfl⟩ | ⟨_, h⟩
    · simp only [hasB_append, Bool.or_eq_true] at hx
      rcases hx with h | h
      · exact .inr ⟨i, l, hl, h⟩
      · left; simp [hasB] at h; exact h.symm
    · exact .inr ⟨i, m, h, hx⟩
  refine ⟨⟨by simpa using R.len, ?_, ?_, ?_, ?_, ?_⟩, e0⟩
  · intro i m hm
    rcases setAt hm with ⟨rfl, rfl⟩ | ⟨_, h⟩
    · exact R.owner i l hl
    · exact R.owner i m h
  · intro i m hm e
    rcases setAt hm with ⟨rfl, rfl⟩ | ⟨_, h⟩
    · exact absurd e h0
    · exact R.free i m h e
  · intro i m x hm hx
    rcases back i m x hm hx with rfl | ⟨k, m0, h1, h2⟩
    · exact hno
    · exact R.no k m0 x h1 h2
  · intro i m x hm hx
    by_cases e : x = no
    · rw [e]; exact none'
    · rcases back i m x hm hx with h | ⟨k, m0, h1, h2⟩
      · exact absurd h e
      · rw [nsame x e]; exact R.once k m0 x h1 h2
  · intro i m x hm hx
    rcases back i m x hm hx with rfl | ⟨k, m0, h1, h2⟩
    · exact ⟨_, e0⟩
    · obtain ⟨c, hc⟩ := R.ends k m0 x h1 h2
      by_cases h : no ∈ c
      · exact ⟨_, waited_near hl hn hd' hc h⟩
      · exact ⟨_, waited_far hl hn hc h⟩
end wait
end Go.Proofs.YtpikopdfkhagmaaDoor
