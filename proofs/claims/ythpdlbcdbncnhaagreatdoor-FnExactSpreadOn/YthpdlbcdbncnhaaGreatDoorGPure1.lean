/-
  Locks, as plain functions, and what holds of them.
  Locks: what is asked for and freed leaves right ones.
  Locks: freeing leaves right ones; what asking comes to.
  Deadlines, as plain functions: what a task that wakes, is renewed, spends is; and what holds of them.
  Fixed priorities, as plain functions, and what holds of them.
  Fair shares, as plain functions, and what holds of them.
-/
import Derived.Test.YthpdlbcdbncnhaaGreatDoorGBase1
import Derived.Test.YthpdlbcdbncnhaaGreatDoorGTask2
namespace Go.Proofs.YthpdlbcdbncnhaaGreatDoor
open Go.RowKit

/-- A lock: who has it, and who waits for it. -/
structure Lk where
  owner : Int
  waits : List Int
def hasB (xs : List Int) (x : Int) : Bool := xs.any fun y => y == x
theorem hasB_iff {xs : List Int} {x : Int} : hasB xs x = true ↔ x ∈ xs := by simp [hasB]
theorem hasB_no {xs : List Int} {x : Int} : hasB xs x = false ↔ x ∉ xs := by rw [← hasB_iff]; simp
def waitIx (ls : List Lk) (no : Int) : Option Nat := ls.findIdx? fun l => hasB l.waits no
def waitAt (ls : List Lk) (no : Int) : Int := match waitIx ls no with
  | some i => i
  | none => -1
def ownerAt (ls : List Lk) (i : Nat) : Int := match ls[i]? with
  | some l => l.owner
  | none => 0
/-- Whom one comes to, with so many steps to go; whether one comes to an end. -/
def chainN (ls : List Lk) : Nat → Int → List Int × Bool
  | 0, no => ([no], false)
  | f + 1, no => match waitIx ls no with
    | none => ([no], true)
    | some i => (no :: (chainN ls f (ownerAt ls i)).1, (chainN ls f (ownerAt ls i)).2)
def countN (xs : List Int) (no : Int) : Nat := (xs.filter fun y => y == no).length
def waitsN : List Lk → Int → Nat
  | [], _ => 0
  | l :: r, no => countN l.waits no + waitsN r no
def waiterB (ls : List Lk) (no : Int) : Bool := (chainN ls (ls.length + 1) no).2 && (inB no 1 1000 && waitsN ls no == 1)
def lockB (ls : List Lk) (l : Lk) : Bool := inB l.owner 0 1000 && (!(l.owner == 0 && decide (0 < l.waits.length)) && l.waits.all (waiterB ls))
def locksB (ls : List Lk) : Bool := decide (ls.length ≤ 5) && ls.all (lockB ls)
def chainL (ls : List Lk) (no : Int) : List Int := if locksB ls then (chainN ls (ls.length + 1) no).1 else []
def ownsB (ls : List Lk) (no : Int) : Bool := ls.any fun l => no != 0 && l.owner == no
def setOwner (no : Int) (l : Lk) : Lk := { l with owner := no }
def addWait (no : Int) (l : Lk) : Lk := { l with waits := l.waits ++ [no] }
def lessL (xs : List Int) (x : Int) : List Int := xs.filter fun y => y != x
def freed (next : Int) (l : Lk) : Lk := ⟨next, lessL l.waits next⟩
/-- What asking says. -/
def askN (ls : List Lk) (i no : Int) : Int :=
  if !locksB ls then 2 else if !inB i 0 ((ls.length : Int) - 1) || (!inB no 1 1000 || decide (0 ≤ waitAt ls no)) then 2
  else if ownerAt ls i.toNat == no then 3 else if ownerAt ls i.toNat == 0 then 0 else if hasB (chainL ls (ownerAt ls i.toNat)) no then 4 else 1
def askL (ls : List Lk) (i no : Int) : List Lk :=
  if !locksB ls then [] else if askN ls i no == 0 then ls.modify i.toNat (setOwner no) else if askN ls i no == 1 then ls.modify i.toNat (addWait no) else ls
def waitsAt (ls : List Lk) (i : Nat) : List Int := match ls[i]? with
  | some l => l.waits
  | none => []
def mayNext (xs : List Int) (next : Int) : Bool := if xs.length == 0 then next == 0 else hasB xs next
def freeB (ls : List Lk) (i no next : Int) : Bool :=
  locksB ls && (inB i 0 ((ls.length : Int) - 1) && (!(no == 0) && (ownerAt ls i.toNat == no && mayNext (waitsAt ls i.toNat) next)))
def freeL (ls : List Lk) (i no next : Int) : List Lk :=
  if !locksB ls then [] else if freeB ls i no next then ls.modify i.toNat (freed next) else ls

section chains
variable {ls : List Lk}
theorem waitIx_some {no : Int} {i : Nat} (h : waitIx ls no = some i) : ∃ l, ls[i]? = some l ∧ hasB l.waits no = true ∧ ∀ j m, j < i → ls[j]? = some m → hasB m.waits no = false := by
  obtain ⟨hi, h1, h2⟩ := List.findIdx?_eq_some_iff_getElem.1 h
  refine ⟨ls[i], List.getElem?_eq_getElem hi, h1, fun j m hj hm => ?_⟩
  have hj' : j < ls.length := by omega
  rw [List.getElem?_eq_getElem hj'] at hm
  cases hm
  simpa using h2 j hj
theorem waitIx_none {no : Int} (h : waitIx ls no = none) : ∀ (j : Nat) (m : Lk), ls[j]? = some m → hasB m.waits no = false := by
  intro j m hm
  have := List.findIdx?_eq_none_iff.1 h m (List.mem_of_getElem? hm)
  simpa using this
theorem waitIx_of {no : Int} {i : Nat} {l : Lk} (h0 : ls[i]? = some l) (h1 : hasB l.waits no = true) (h2 : ∀ j m, j < i → ls[j]? = some m → hasB m.waits no = false) : waitIx ls no = some i := by
  have hi : i < ls.length := by
    rcases Nat.lt_or_ge i ls.length with h | h
    · exact h
    · rw [List.getElem?_eq_none h] at h0; cases h0
  refine List.findIdx?_eq_some_iff_getElem.2 ⟨hi, ?_, fun j hj => ?_⟩
  · rw [List.getElem?_eq_getElem hi] at h0; cases h0; exact h1
  · simpa using h2 j ls[j] hj (List.getElem?_eq_getElem _)
theorem waitIx_of_none {no : Int} (h : ∀ (j : Nat) (m : Lk), ls[j]? = some m → hasB m.waits no = false) : waitIx ls no = none := by
  refine List.findIdx?_eq_none_iff.2 fun m hm => ?_
  obtain ⟨j, hj, rfl⟩ := List.mem_iff_getElem.1 hm
  simpa using h j _ (List.getElem?_eq_getElem hj)
theorem waitAt_neg {no : Int} : waitAt ls no < 0 ↔ waitIx ls no = none := by
  unfold waitAt
  split
  · rename_i i h; simp [h]
  · rename_i h; simp [h]
theorem ownerAt_of {i : Nat} {l : Lk} (h : ls[i]? = some l) : ownerAt ls i = l.owner := by simp [ownerAt, h]

theorem chainN_end {f : Nat} {no : Int} (h : waitIx ls no = none) : chainN ls (f + 1) no = ([no], true) := by simp [chainN, h]
theorem chainN_step {f : Nat} {no : Int} {i : Nat} (h : waitIx ls no = some i) : chainN ls (f + 1) no = (no :: (chainN ls f (ownerAt ls i)).1, (chainN ls f (ownerAt ls i)).2) := by simp [chainN, h]
/-- One comes to an end, by the way c. -/
def Ends (ls : List Lk) (no : Int) (c : List Int) : Prop := ∃ f, chainN ls f no = (c, true)
theorem Ends.cases {no : Int} {c : List Int} (h : Ends ls no c) : (waitIx ls no = none ∧ c = [no]) ∨ ∃ i r, waitIx ls no = some i ∧ c = no :: r ∧ Ends ls (ownerAt ls i) r := by
  obtain ⟨f, h⟩ := h
  cases f with
  | zero => simp [chainN] at h
  | succ f =>
    cases hw : waitIx ls no with
    | none => rw [chainN_end hw] at h; cases h; exact .inl ⟨rfl, rfl⟩
    | some i =>
      rw [chainN_step hw] at h
      simp only [Prod.mk.injEq] at h
      exact .inr ⟨i, _, rfl, h.1.symm, f, Prod.ext rfl h.2⟩
theorem Ends.stop {no : Int} (h : waitIx ls no = none) : Ends ls no [no] := ⟨1, chainN_end h⟩
theorem Ends.step {no : Int} {i : Nat} {r : List Int} (h : waitIx ls no = some i) (hr : Ends ls (ownerAt ls i) r) : Ends ls no (no :: r) := by
  obtain ⟨f, hf⟩ := hr
  exact ⟨f + 1, by rw [chainN_step h, hf]⟩
theorem Ends.one : ∀ {c d : List Int} {no : Int}, Ends ls no c → Ends ls no d → c = d
  | [], _, _, h, _ => by rcases h.cases with ⟨_, e⟩ | ⟨_, _, _, e, _⟩ <;> cases e
  | x :: r, d, no, h, h' => by
    rcases h.cases with ⟨hw, e⟩ | ⟨i, r', hw, e, hr⟩
    · rcases h'.cases with ⟨_, e'⟩ | ⟨i', _, hw', _, _⟩
      · rw [e, e']
      · rw [hw] at hw'; cases hw'
    · cases e
      rcases h'.cases with ⟨hw', _⟩ | ⟨i', r'', hw', e', hr'⟩
      · rw [hw] at hw'; cases hw'
      · rw [hw] at hw'; cases hw'
        rw [e', Ends.one hr hr']
/-- With as many steps as the way has. -/
theorem Ends.fuel : ∀ {c : List Int} {no : Int}, Ends ls no c → ∀ g, c.length ≤ g → chainN ls g no = (c, true)
  | [], _, h, _, _ => by rcases h.cases with ⟨_, e⟩ | ⟨_, _, _, e, _⟩ <;> cases e
  | x :: r, no, h, 0, hg => by simp at hg
  | x :: r, no, h, g + 1, hg => by
    rcases h.cases with ⟨hw, e⟩ | ⟨i, r', hw, e, hr⟩
    · rw [chainN_end hw, e]
    · cases e
      rw [chainN_step hw, Ends.fuel hr g (by simpa using hg)]
theorem Ends.len {no : Int} {c : List Int} {f : Nat} (h : chainN ls f no = (c, true)) : Ends ls no c := ⟨f, h⟩
theorem Ends.head {no : Int} {c : List Int} (h : Ends ls no c) : c[0]? = some no := by
  rcases h.cases with ⟨_, rfl⟩ | ⟨_, _, _, rfl, _⟩ <;> rfl
theorem Ends.pos {no : Int} {c : List Int} (h : Ends ls no c) : 0 < c.length := by
  rcases h.cases with ⟨_, rfl⟩ | ⟨_, _, _, rfl, _⟩ <;> simp
/-- From each of a way on it goes as from there. -/
theorem Ends.drop : ∀ {p : Nat} {c : List Int} {no y : Int}, Ends ls no c → c[p]? = some y → Ends ls y (c.drop p)
  | 0, c, no, y, h, hy => by
    rw [h.head] at hy
    cases hy
    simpa using h
  | p + 1, c, no, y, h, hy => by
    rcases h.cases with ⟨_, rfl⟩ | ⟨i, r, _, rfl, hr⟩
    · simp at hy
    · have := Ends.drop (p := p) hr (by simpa using hy)
      simpa using this
theorem Ends.nodup {c : List Int} {no : Int} (h : Ends ls no c) {p q : Nat} {y : Int} (hp : c[p]? = some y) (hq : c[q]? = some y) : p = q := by
  have e := Ends.one (h.drop hp) (h.drop hq)
  have lp : p < c.length := by
    rcases Nat.lt_or_ge p c.length with h | h
    · exact h
    · rw [List.getElem?_eq_none h] at hp; cases hp
  have lq : q < c.length := by
    rcases Nat.lt_or_ge q c.length with h | h
    · exact h
    · rw [List.getElem?_eq_none h] at hq; cases hq
  have := congrArg List.length e
  simp only [List.length_drop] at this
  omega
/-- The next one is the owner of what one waits for. -/
theorem Ends.next {c : List Int} {no : Int} (h : Ends ls no c) {p : Nat} {y z : Int} (hp : c[p]? = some y) (hz : c[p + 1]? = some z) : ∃ i, waitIx ls y = some i ∧ ownerAt ls i = z := by
  rcases (h.drop hp).cases with ⟨_, e⟩ | ⟨i, r, hw, e, hr⟩
  · have : (c.drop p)[1]? = some z := by rw [List.getElem?_drop, ← hz]
    rw [e] at this; simp at this
  · have : (c.drop p)[1]? = some z := by rw [List.getElem?_drop, ← hz]
    rw [e] at this
    have h0 := hr.head
    simp only [List.getElem?_cons_succ] at this
    rw [h0] at this
    exact ⟨i, hw, by simpa using this⟩
theorem Ends.last {c : List Int} {no : Int} (h : Ends ls no c) {p : Nat} {y : Int} (hp : c[p]? = some y) (hl : p + 1 = c.length) : waitIx ls y = none := by
  rcases (h.drop hp).cases with ⟨hw, _⟩ | ⟨i, r, hw, e, hr⟩
  · exact hw
  · have := congrArg List.length e
    have := hr.pos
    simp only [List.length_drop, List.length_cons] at *
    omega
theorem inj_le : ∀ (n m : Nat) (f : Nat → Nat), (∀ i, i < m → f i < n) → (∀ i j, i < m → j < m → f i = f j → i = j) → m ≤ n
  | 0, m, f, h, _ => by
    rcases Nat.eq_zero_or_pos m with e | e
    · omega
    · exact absurd (h 0 e) (Nat.not_lt_zero _)
  | n + 1, m, f, h, hi => by
    by_cases hx : ∃ k, k < m ∧ f k = n
    · obtain ⟨k, hk, e⟩ := hx
      have := inj_le n (m - 1) (fun i => f (if i < k then i else i + 1)) (fun i hm => by
        split
        · have h1 := h i (by omega)
          have h2 : f i ≠ n := fun h3 => by have := hi i k (by omega) hk (h3.trans e.symm); omega
          omega
        · have h1 := h (i + 1) (by omega)
          have h2 : f (i + 1) ≠ n := fun h3 => by have := hi (i + 1) k (by omega) hk (h3.trans e.symm); omega
          omega) (fun i j hm hj he => by
        split at he <;> split at he <;> (have := hi _ _ (by omega) (by omega) he; omega))
      omega
    · have := inj_le n m f (fun i hm => by
        have h1 := h i hm
        have h2 : f i ≠ n := fun h3 => hx ⟨i, hm, h3⟩
        omega) hi
      omega
/-- A way that ends has no more steps than there are locks. -/
theorem Ends.bound {c : List Int} {no : Int} (h : Ends ls no c) : c.length ≤ ls.length + 1 := by
  have key : ∀ p, p < c.length - 1 → ∃ i, waitIx ls (c.getD p 0) = some i ∧ i < ls.length ∧ ownerAt ls i = c.getD (p + 1) 0 := by
    intro p hp
    have h1 : c[p]? = some (c.getD p 0) := by rw [List.getD_eq_getElem?_getD, List.getElem?_eq_getElem (by omega)]; rfl
    have h2 : c[p + 1]? = some (c.getD (p + 1) 0) := by rw [List.getD_eq_getElem?_getD, List.getElem?_eq_getElem (by omega)]; rfl
    obtain ⟨i, hi, ho⟩ := h.next h1 h2
    obtain ⟨l, hl, _⟩ := waitIx_some hi
    refine ⟨i, hi, ?_, ho⟩
    rcases Nat.lt_or_ge i ls.length with h | h
    · exact h
    · rw [List.getElem?_eq_none h] at hl; cases hl
  have := inj_le ls.length (c.length - 1) (fun p => (waitIx ls (c.getD p 0)).getD 0) (fun p hp => by
    obtain ⟨i, hi, hlt, _⟩ := key p hp
    simp only [hi, Option.getD_some]; exact hlt) (fun p q hp hq e => by
    obtain ⟨i, hi, _, ho⟩ := key p hp
    obtain ⟨j, hj, _, ho'⟩ := key q hq
    simp only [hi, hj, Option.getD_some] at e
    subst e
    have h1 : c[p + 1]? = some (c.getD (p + 1) 0) := by rw [List.getD_eq_getElem?_getD, List.getElem?_eq_getElem (by omega)]; rfl
    have h2 : c[q + 1]? = some (c.getD (q + 1) 0) := by rw [List.getD_eq_getElem?_getD, List.getElem?_eq_getElem (by omega)]; rfl
    rw [← ho, ho'] at h1
    have := h.nodup h1 h2
    omega)
  omega
theorem chainN_iff {no : Int} : (chainN ls (ls.length + 1) no).2 = true ↔ ∃ c, Ends ls no c := by
  constructor
  · intro h; exact ⟨(chainN ls (ls.length + 1) no).1, _, Prod.ext rfl h⟩
  · rintro ⟨c, h⟩; rw [h.fuel _ h.bound]
theorem Ends.is {no : Int} {c : List Int} (h : Ends ls no c) : chainN ls (ls.length + 1) no = (c, true) := h.fuel _ h.bound
end chains
end Go.Proofs.YthpdlbcdbncnhaaGreatDoor
namespace Go.Proofs.YthpdlbcdbncnhaaGreatDoor
open Go.RowKit

theorem lt_some {α : Type} {xs : List α} {k : Nat} {x : α} (h : xs[k]? = some x) : k < xs.length := by
  rcases Nat.lt_or_ge k xs.length with h' | h'
  · exact h'
  · rw [List.getElem?_eq_none h'] at h; cases h
theorem setAt {ls : List Lk} {k i : Nat} {m y : Lk} (h : (ls.set k y)[i]? = some m) : (i = k ∧ m = y) ∨ (i ≠ k ∧ ls[i]? = some m) := by
  by_cases e : k = i
  · subst e
    have hl : k < ls.length := by have := lt_some h; simpa using this
    rw [List.getElem?_set_self hl] at h
    cases h; exact .inl ⟨rfl, rfl⟩
  · rw [List.getElem?_set_ne e] at h
    exact .inr ⟨Ne.symm e, h⟩
theorem modifySet {ls : List Lk} {i : Nat} {l : Lk} (h : ls[i]? = some l) (f : Lk → Lk) : ls.modify i f = ls.set i (f l) := by
  apply List.ext_getElem?
  intro j
  by_cases e : i = j
  · subst e
    rw [List.getElem?_modify, List.getElem?_set_self (lt_some h), h]
    simp
  · rw [List.getElem?_modify, List.getElem?_set_ne e]
    simp [e]
theorem count_pos {xs : List Int} {x : Int} : 0 < countN xs x ↔ hasB xs x = true := by
  unfold countN hasB
  rw [List.length_pos_iff_exists_mem, List.any_eq_true]
  constructor
  · rintro ⟨y, hy⟩; rw [List.mem_filter] at hy; exact ⟨y, hy.1, hy.2⟩
  · rintro ⟨y, h1, h2⟩; exact ⟨y, List.mem_filter.2 ⟨h1, h2⟩⟩
theorem count_zero {xs : List Int} {x : Int} : countN xs x = 0 ↔ hasB xs x = false := by
  have := count_pos (xs := xs) (x := x)
  cases h : hasB xs x
  · rw [h] at this; simp at this; simp; exact this
  · rw [h] at this; simp at this; simp; omega
theorem waitsN_set : ∀ {ls : List Lk} {j : Nat} {l : Lk} (m : Lk) (x : Int), ls[j]? = some l → waitsN (ls.set j m) x + countN l.waits x = waitsN ls x + countN m.waits x
  | [], j, l, m, x, h => by simp at h
  | y :: r, 0, l, m, x, h => by
    simp at h
    subst h
    simp only [List.set_cons_zero, waitsN]
    omega
  | y :: r, j + 1, l, m, x, h => by
    have := waitsN_set (ls := r) (j := j) m x (by simpa using h)
    simp only [List.set_cons_succ, waitsN]
    omega
theorem waitsN_ge : ∀ {ls : List Lk} {j : Nat} {l : Lk} (x : Int), ls[j]? = some l → countN l.waits x ≤ waitsN ls x
  | [], j, l, x, h => by simp at h
  | y :: r, 0, l, x, h => by simp at h; subst h; simp only [waitsN]; omega
  | y :: r, j + 1, l, x, h => by
    have := waitsN_ge (ls := r) (j := j) x (by simpa using h)
    simp only [waitsN]; omega
theorem waitsN_zero {ls : List Lk} {x : Int} (h : ∀ (j : Nat) (l : Lk), ls[j]? = some l → hasB l.waits x = false) : waitsN ls x = 0 := by
  induction ls with
  | nil => rfl
  | cons y r ih =>
    have h0 := count_zero.2 (h 0 y rfl)
    have h1 := ih fun j l hl => h (j + 1) l (by simpa using hl)
    simp only [waitsN]; omega
/-- Who waits for one waits for no other. -/
theorem waits_once {ls : List Lk} {x : Int} (h1 : waitsN ls x = 1) {i j : Nat} {l m : Lk} (hl : ls[j]? = some l) (hx : hasB l.waits x = true) (hm : ls[i]? = some m) (hij : i ≠ j) : hasB m.waits x = false := by
  have e := waitsN_set (⟨0, []⟩ : Lk) x hl
  have c0 : countN ([] : List Int) x = 0 := rfl
  have cp := count_pos.2 hx
  rw [h1] at e
  simp only [c0] at e
  have hm' : (ls.set j (⟨0, []⟩ : Lk))[i]? = some m := by rw [List.getElem?_set_ne (Ne.symm hij)]; exact hm
  have := waitsN_ge x hm'
  exact count_zero.1 (by omega)

/-- What right locks are. -/
structure Right (ls : List Lk) : Prop where
  len : ls.length ≤ 5
  owner : ∀ (j : Nat) (l : Lk), ls[j]? = some l → 0 ≤ l.owner ∧ l.owner ≤ 1000
  free : ∀ (j : Nat) (l : Lk), ls[j]? = some l → l.owner = 0 → l.waits = []
  no : ∀ (j : Nat) (l : Lk) (x : Int), ls[j]? = some l → hasB l.waits x = true → 1 ≤ x ∧ x ≤ 1000
  once : ∀ (j : Nat) (l : Lk) (x : Int), ls[j]? = some l → hasB l.waits x = true → waitsN ls x = 1
  ends : ∀ (j : Nat) (l : Lk) (x : Int), ls[j]? = some l → hasB l.waits x = true → ∃ c, Ends ls x c
theorem right_iff {ls : List Lk} : locksB ls = true ↔ Right ls := by
  unfold locksB
  simp only [Bool.and_eq_true, decide_eq_true_eq, List.all_eq_true]
  have wb : ∀ x, waiterB ls x = true ↔ (∃ c, Ends ls x c) ∧ (1 ≤ x ∧ x ≤ 1000) ∧ waitsN ls x = 1 := by
    intro x
    unfold waiterB
    rw [Bool.and_eq_true, Bool.and_eq_true, chainN_iff, inB_iff, beq_iff_eq]
  have lb : ∀ l, lockB ls l = true ↔ (0 ≤ l.owner ∧ l.owner ≤ 1000) ∧ (l.owner = 0 → l.waits = []) ∧ ∀ x, hasB l.waits x = true → waiterB ls x = true := by
    intro l
    unfold lockB
    rw [Bool.and_eq_true, Bool.and_eq_true, inB_iff, List.all_eq_true]
    refine and_congr Iff.rfl (and_congr ?_ ?_)
    · rw [Bool.not_eq_true', Bool.and_eq_false_iff]
      constructor
      · rintro (h | h) e
        · simp [e] at h
        · simp at h; exact h
      · intro h
        by_cases e : l.owner = 0
        · right; rw [h e]; rfl
        · left; simpa using e
    · constructor
      · intro h x hx; exact h x (hasB_iff.1 hx)
      · intro h x hx; exact h x (hasB_iff.2 hx)
  constructor
  · rintro ⟨h1, h2⟩
    have key : ∀ (j : Nat) (l : Lk), ls[j]? = some l → lockB ls l = true := fun j l hl => h2 l (List.mem_of_getElem? hl)
    exact ⟨h1, fun j l hl => ((lb l).1 (key j l hl)).1, fun j l hl => ((lb l).1 (key j l hl)).2.1, fun j l x hl hx => ((wb x).1 (((lb l).1 (key j l hl)).2.2 x hx)).2.1, fun j l x hl hx => ((wb x).1 (((lb l).1 (key j l hl)).2.2 x hx)).2.2, fun j l x hl hx => ((wb x).1 (((lb l).1 (key j l hl)).2.2 x hx)).1⟩
  · intro R
    refine ⟨R.len, fun l hl => ?_⟩
    obtain ⟨j, hj, rfl⟩ := List.mem_iff_getElem.1 hl
    have e := List.getElem?_eq_getElem hj
    exact (lb _).2 ⟨R.owner j _ e, R.free j _ e, fun x hx => (wb x).2 ⟨R.ends j _ x e hx, R.no j _ x e hx, R.once j _ x e hx⟩⟩
theorem Right.chain {ls : List Lk} (R : Right ls) (x : Int) : ∃ c, Ends ls x c := by
  cases h : waitIx ls x with
  | none => exact ⟨_, Ends.stop h⟩
  | some i =>
    obtain ⟨l, hl, hx, _⟩ := waitIx_some h
    exact R.ends i l x hl hx
theorem chainL_is {ls : List Lk} (R : Right ls) {x : Int} {c : List Int} (h : Ends ls x c) : chainL ls x = c := by
  unfold chainL
  rw [right_iff.2 R, h.is]; rfl
theorem waitIx_same {ls ls' : List Lk} {x : Int} (hl : ls'.length = ls.length) (h : ∀ (j : Nat) (m m' : Lk), ls[j]? = some m → ls'[j]? = some m' → hasB m'.waits x = hasB m.waits x) : waitIx ls' x = waitIx ls x := by
  have get : ∀ (j : Nat) (m' : Lk), ls'[j]? = some m' → ∃ m, ls[j]? = some m := fun j m' hm => ⟨ls[j]'(by have := lt_some hm; omega), List.getElem?_eq_getElem _⟩
  cases hw : waitIx ls x with
  | none =>
    refine waitIx_of_none fun j m' hm => ?_
    obtain ⟨m, hm0⟩ := get j m' hm
    rw [h j m m' hm0 hm]; exact waitIx_none hw j m hm0
  | some i =>
    obtain ⟨l, hl1, hx, hmin⟩ := waitIx_some hw
    have hi : i < ls'.length := by have := lt_some hl1; omega
    refine waitIx_of (List.getElem?_eq_getElem hi) ?_ fun j m' hj hm => ?_
    · rw [h i l _ hl1 (List.getElem?_eq_getElem hi)]; exact hx
    · obtain ⟨m, hm0⟩ := get j m' hm
      rw [h j m m' hm0 hm]; exact hmin j m hj hm0
theorem chain_same {ls ls' : List Lk} (hw : ∀ x, waitIx ls' x = waitIx ls x) (ho : ∀ (x : Int) (i : Nat), waitIx ls x = some i → ownerAt ls' i = ownerAt ls i) : ∀ {c : List Int} {x : Int}, Ends ls x c → Ends ls' x c
  | [], _, h => by rcases h.cases with ⟨_, e⟩ | ⟨_, _, _, e, _⟩ <;> cases e
  | y :: r, x, h => by
    rcases h.cases with ⟨h1, e⟩ | ⟨i, r', h1, e, hr⟩
    · rw [e]; exact Ends.stop ((hw x).trans h1)
    · cases e
      refine Ends.step ((hw _).trans h1) ?_
      rw [ho _ i h1]
      exact chain_same hw ho hr
theorem ownerAt_set {ls : List Lk} {j i : Nat} {m : Lk} (h : i ≠ j) : ownerAt (ls.set j m) i = ownerAt ls i := by
  unfold ownerAt
  rw [List.getElem?_set_ne (Ne.symm h)]
theorem ownerAt_self {ls : List Lk} {j : Nat} {m : Lk} (h : j < ls.length) : ownerAt (ls.set j m) j = m.owner := by
  unfold ownerAt
  rw [List.getElem?_set_self h]
/-- An owner where nobody waits. -/
theorem Right.owned {ls : List Lk} (R : Right ls) {j : Nat} {l : Lk} (hl : ls[j]? = some l) (hw : l.waits = []) {o : Int} (ho : 0 ≤ o ∧ o ≤ 1000) : Right (ls.set j ⟨o, []⟩) := by
  have hj := lt_some hl
  have wsame : ∀ x, waitIx (ls.set j ⟨o, []⟩) x = waitIx ls x := fun x => waitIx_same (by simp) fun i m m' hm hm' => by
    rcases setAt hm' with ⟨rfl, rfl⟩ | ⟨_, h⟩
    · rw [hl] at hm; cases hm; rw [hw]
    · rw [hm] at h; cases h; rfl
  have csame : ∀ {c : List Int} {x : Int}, Ends ls x c → Ends (ls.set j ⟨o, []⟩) x c := fun h => chain_same wsame (fun x i hi => ownerAt_set fun e => by
    obtain ⟨m, hm, hx, _⟩ := waitIx_some hi
    rw [e, hl] at hm; cases hm
    rw [hw] at hx; simp [hasB] at hx) h
  have nsame : ∀ x, waitsN (ls.set j ⟨o, []⟩) x = waitsN ls x := fun x => by
    have := waitsN_set (⟨o, []⟩ : Lk) x hl
    simp only [hw] at this
    omega
  refine ⟨by simpa using R.len, ?_, ?_, ?_, ?_, ?_⟩
  · intro i m hm
    rcases setAt hm with ⟨rfl, rfl⟩ | ⟨_, h⟩
    · exact ho
    · exact R.owner i m h
  · intro i m hm
    rcases setAt hm with ⟨rfl, rfl⟩ | ⟨_, h⟩
    · exact fun _ => rfl
    · exact R.free i m h
  · intro i m x hm hx
    rcases setAt hm with ⟨rfl, rfl⟩ | ⟨_, h⟩
    · simp [hasB] at hx
    · exact R.no i m x h hx
  · intro i m x hm hx
    rw [nsame]
    rcases setAt hm with ⟨rfl, rfl⟩ | ⟨_, h⟩
    · simp [hasB] at hx
    · exact R.once i m x h hx
  · intro i m x hm hx
    rcases setAt hm with ⟨rfl, rfl⟩ | ⟨_, h⟩
    · simp [hasB] at hx
    · obtain ⟨c, hc⟩ := R.ends i m x h hx
      exact ⟨c, csame hc⟩

theorem hasB_append (xs ys : List Int) (x : Int) : hasB (xs ++ ys) x = (hasB xs x || hasB ys x) := by simp [hasB]
section wait
variable {ls : List Lk} {j : Nat} {l : Lk} {no : Int}
theorem waited_ix (hl : ls[j]? = some l) (hn : waitIx ls no = none) : (∀ x, x ≠ no → waitIx (ls.set j { l with waits := l.waits ++ [no] }) x = waitIx ls x) ∧ waitIx (ls.set j { l with waits := l.waits ++ [no] }) no = some j := by
  refine ⟨fun x hx => waitIx_same (by simp) fun i m m' hm hm' => ?_, waitIx_of (List.getElem?_set_self (lt_some hl)) (by simp [hasB]) fun i m hi hm => ?_⟩
  · rcases setAt hm' with ⟨rfl, rfl⟩ | ⟨_, h⟩
    · rw [hl] at hm; cases hm
      simp only [hasB_append]
      have : hasB [no] x = false := by simp [hasB]; exact fun e => hx e.symm
      rw [this, Bool.or_false]
    · rw [hm] at h; cases h; rfl
  · rcases setAt hm with ⟨rfl, _⟩ | ⟨_, h⟩
    · omega
    · exact waitIx_none hn i m h
theorem waited_owner (hl : ls[j]? = some l) (i : Nat) : ownerAt (ls.set j { l with waits := l.waits ++ [no] }) i = ownerAt ls i := by
  by_cases e : i = j
  · subst e; rw [ownerAt_self (lt_some hl), ownerAt_of hl]
  · exact ownerAt_set e
theorem waited_far (hl : ls[j]? = some l) (hn : waitIx ls no = none) : ∀ {c : List Int} {x : Int}, Ends ls x c → no ∉ c → Ends (ls.set j { l with waits := l.waits ++ [no] }) x c
  | [], _, h, _ => by rcases h.cases with ⟨_, e⟩ | ⟨_, _, _, e, _⟩ <;> cases e
  | y :: r, x, h, hc => by
    rcases h.cases with ⟨h1, e⟩ | ⟨i, r', h1, e, hr⟩
    · rw [e] at hc ⊢
      exact Ends.stop (((waited_ix hl hn).1 x (fun e => hc (by rw [e]; simp))).trans h1)
    · cases e
      refine Ends.step (((waited_ix hl hn).1 _ (fun e => hc (by rw [e]; simp))).trans h1) ?_
      rw [waited_owner hl]
      exact waited_far hl hn hr (fun h => hc (List.mem_cons_of_mem _ h))
theorem waited_near (hl : ls[j]? = some l) (hn : waitIx ls no = none) {d : List Int} (hd : Ends (ls.set j { l with waits := l.waits ++ [no] }) l.owner d) : ∀ {c : List Int} {x : Int}, Ends ls x c → no ∈ c → Ends (ls.set j { l with waits := l.waits ++ [no] }) x (c ++ d)
  | [], _, h, _ => by rcases h.cases with ⟨_, e⟩ | ⟨_, _, _, e, _⟩ <;> cases e
  | y :: r, x, h, hc => by
    rcases h.cases with ⟨h1, e⟩ | ⟨i, r', h1, e, hr⟩
    · rw [e] at hc ⊢
      have ex : x = no := by have := List.mem_singleton.1 hc; exact this.symm
      subst ex
      refine Ends.step (waited_ix hl hn).2 ?_
      rw [waited_owner hl, ownerAt_of hl]
      exact hd
    · cases e
      have hx : y ≠ no := fun e => by rw [e, hn] at h1; cases h1
      refine Ends.step (((waited_ix hl hn).1 y hx).trans h1) ?_
      rw [waited_owner hl]
      refine waited_near hl hn hd hr ?_
      rcases List.mem_cons.1 hc with e | e
      · exact absurd e.symm hx
      · exact e
/-- One more waits. -/
theorem Right.waited (R : Right ls) (hl : ls[j]? = some l) (h0 : l.owner ≠ 0) (hno : 1 ≤ no ∧ no ≤ 1000) (hn : waitIx ls no = none) {d : List Int} (hd : Ends ls l.owner d) (hnd : no ∉ d) :
    Right (ls.set j { l with waits := l.waits ++ [no] }) ∧ Ends (ls.set j { l with waits := l.waits ++ [no] }) no (no :: d) := by
  have hd' := waited_far hl hn hd hnd
  have e0 : Ends (ls.set j { l with waits := l.waits ++ [no] }) no (no :: d) := by
    refine Ends.step (waited_ix hl hn).2 ?_
    rw [waited_owner hl, ownerAt_of hl]
    exact hd'
  have hz : ∀ (i : Nat) (m : Lk), ls[i]? = some m → hasB m.waits no = false := waitIx_none hn
  have nsame : ∀ x, x ≠ no → waitsN (ls.set j { l with waits := l.waits ++ [no] }) x = waitsN ls x := fun x hx => by
    have := waitsN_set ({ l with waits := l.waits ++ [no] } : Lk) x hl
    have c : countN (l.waits ++ [no]) x = countN l.waits x := by
      unfold countN
      rw [List.filter_append]
      have : ([no].filter fun y => y == x) = [] := by simp; exact fun e => hx e.symm
      rw [this]; simp
    simp only [c] at this
    omega
  have none' : waitsN (ls.set j { l with waits := l.waits ++ [no] }) no = 1 := by
    have := waitsN_set ({ l with waits := l.waits ++ [no] } : Lk) no hl
    have c : countN (l.waits ++ [no]) no = countN l.waits no + 1 := by unfold countN; simp
    simp only [c] at this
    have := waitsN_zero hz
    omega
  have back : ∀ (i : Nat) (m : Lk) (x : Int), (ls.set j { l with waits := l.waits ++ [no] })[i]? = some m → hasB m.waits x = true → x = no ∨ ∃ (k : Nat) (m0 : Lk), ls[k]? = some m0 ∧ hasB m0.waits x = true := by
    intro i m x hm hx
    rcases setAt hm with ⟨rfl, rfl⟩ | ⟨_, h⟩
    · simp only [hasB_append, Bool.or_eq_true] at hx
      rcases hx with h | h
      · exact .inr ⟨i, l, hl, h⟩
      · left; simp [hasB] at h; exact h.symm
    · exact .inr ⟨i, m, h, hx⟩
  refine ⟨⟨by simpa using R.len, ?_, ?_, ?_, ?_, ?_⟩, e0⟩
  · intro i m hm
    rcases setAt hm with ⟨rfl, rfl⟩ | ⟨_, h⟩
    · exact R.owner i l hl
    · exact R.owner i m h
  · intro i m hm e
    rcases setAt hm with ⟨rfl, rfl⟩ | ⟨_, h⟩
    · exact absurd e h0
    · exact R.free i m h e
  · intro i m x hm hx
    rcases back i m x hm hx with rfl | ⟨k, m0, h1, h2⟩
    · exact hno
    · exact R.no k m0 x h1 h2
  · intro i m x hm hx
    by_cases e : x = no
    · rw [e]; exact none'
    · rcases back i m x hm hx with h | ⟨k, m0, h1, h2⟩
      · exact absurd h e
      · rw [nsame x e]; exact R.once k m0 x h1 h2
  · intro i m x hm hx
    rcases back i m x hm hx with rfl | ⟨k, m0, h1, h2⟩
    · exact ⟨_, e0⟩
    · obtain ⟨c, hc⟩ := R.ends k m0 x h1 h2
      by_cases h : no ∈ c
      · exact ⟨_, waited_near hl hn hd' hc h⟩
      · exact ⟨_, waited_far hl hn hc h⟩
end wait
end Go.Proofs.YthpdlbcdbncnhaaGreatDoor
namespace Go.Proofs.YthpdlbcdbncnhaaGreatDoor
open Go.RowKit

theorem hasB_less {xs : List Int} {x y : Int} : hasB (lessL xs y) x = (hasB xs x && x != y) := by
  apply Bool.eq_iff_iff.2
  rw [hasB_iff, Bool.and_eq_true, hasB_iff]
  unfold lessL
  rw [List.mem_filter]
theorem countN_less {xs : List Int} {x y : Int} (h : x ≠ y) : countN (lessL xs y) x = countN xs x := by
  unfold countN lessL
  rw [List.filter_filter]
  congr 1
  apply List.filter_congr
  intro z _
  by_cases e : z = x
  · subst e; simp [h]
  · simp [e]
section free
variable {ls : List Lk} {j : Nat} {l : Lk} {next : Int}
theorem freed_ix (R : Right ls) (hl : ls[j]? = some l) (hx : hasB l.waits next = true) : (∀ x, x ≠ next → waitIx (ls.set j ⟨next, lessL l.waits next⟩) x = waitIx ls x) ∧ waitIx (ls.set j ⟨next, lessL l.waits next⟩) next = none := by
  refine ⟨fun x hne => waitIx_same (by simp) fun i m m' hm hm' => ?_, waitIx_of_none fun i m hm => ?_⟩
  · rcases setAt hm' with ⟨rfl, rfl⟩ | ⟨_, h⟩
    · rw [hl] at hm; cases hm
      simp only [hasB_less]
      have : (x != next) = true := by simpa using hne
      rw [this, Bool.and_true]
    · rw [hm] at h; cases h; rfl
  · rcases setAt hm with ⟨rfl, rfl⟩ | ⟨hij, h⟩
    · simp only [hasB_less]; simp
    · exact waits_once (R.once j l next hl hx) hl hx h hij
theorem freed_ends (R : Right ls) (hl : ls[j]? = some l) (hx : hasB l.waits next = true) : ∀ {c : List Int} {x : Int}, Ends ls x c → ∃ c', Ends (ls.set j ⟨next, lessL l.waits next⟩) x c'
  | [], _, h => by rcases h.cases with ⟨_, e⟩ | ⟨_, _, _, e, _⟩ <;> cases e
  | y :: r, x, h => by
    by_cases hn : x = next
    · rw [hn]; exact ⟨_, Ends.stop (freed_ix R hl hx).2⟩
    · have hw := (freed_ix R hl hx).1 x hn
      rcases h.cases with ⟨h1, _⟩ | ⟨i, r', h1, e, hr⟩
      · exact ⟨_, Ends.stop (hw.trans h1)⟩
      · by_cases hij : i = j
        · subst hij
          refine ⟨_, Ends.step (hw.trans h1) (r := [next]) ?_⟩
          rw [ownerAt_self (lt_some hl)]
          exact Ends.stop (freed_ix R hl hx).2
        · cases e
          obtain ⟨c', hc'⟩ := freed_ends R hl hx hr
          refine ⟨_, Ends.step (hw.trans h1) (r := c') ?_⟩
          rw [ownerAt_set hij]; exact hc'
/-- It is freed to one that waits. -/
theorem Right.freed (R : Right ls) (hl : ls[j]? = some l) (hx : hasB l.waits next = true) : Right (ls.set j ⟨next, lessL l.waits next⟩) := by
  have hno := R.no j l next hl hx
  have nsame : ∀ x, x ≠ next → waitsN (ls.set j ⟨next, lessL l.waits next⟩) x = waitsN ls x := fun x hne => by
    have := waitsN_set (⟨next, lessL l.waits next⟩ : Lk) x hl
    simp only [countN_less hne] at this
    omega
  have back : ∀ (i : Nat) (m : Lk) (x : Int), (ls.set j ⟨next, lessL l.waits next⟩)[i]? = some m → hasB m.waits x = true → x ≠ next ∧ ∃ (k : Nat) (m0 : Lk), ls[k]? = some m0 ∧ hasB m0.waits x = true := by
    intro i m x hm hxm
    have hne : x ≠ next := fun e => by
      have := waitIx_none (freed_ix R hl hx).2 i m hm
      rw [e, this] at hxm; cases hxm
    refine ⟨hne, ?_⟩
    rcases setAt hm with ⟨rfl, rfl⟩ | ⟨_, h⟩
    · simp only [hasB_less, Bool.and_eq_true] at hxm
      exact ⟨i, l, hl, hxm.1⟩
    · exact ⟨i, m, h, hxm⟩
  refine ⟨by simpa using R.len, ?_, ?_, ?_, ?_, ?_⟩
  · intro i m hm
    rcases setAt hm with ⟨rfl, rfl⟩ | ⟨_, h⟩
    · exact ⟨by simp only; omega, hno.2⟩
    · exact R.owner i m h
  · intro i m hm e
    rcases setAt hm with ⟨rfl, rfl⟩ | ⟨_, h⟩
    · simp only at e; omega
    · exact R.free i m h e
  · intro i m x hm hxm
    obtain ⟨_, k, m0, h1, h2⟩ := back i m x hm hxm
    exact R.no k m0 x h1 h2
  · intro i m x hm hxm
    obtain ⟨hne, k, m0, h1, h2⟩ := back i m x hm hxm
    rw [nsame x hne]; exact R.once k m0 x h1 h2
  · intro i m x hm hxm
    obtain ⟨_, k, m0, h1, h2⟩ := back i m x hm hxm
    obtain ⟨c, hc⟩ := R.ends k m0 x h1 h2
    exact freed_ends R hl hx hc
end free

theorem waitAt_lt {ls : List Lk} {no : Int} (h : decide (0 ≤ waitAt ls no) = false) : waitIx ls no = none := by
  unfold waitAt at h
  split at h
  · simp at h
  · assumption
/-- What asking right locks comes to. -/
def Asked (ls : List Lk) (i no : Int) : Prop :=
  ((askN ls i no = 2 ∨ askN ls i no = 3) ∧ askL ls i no = ls) ∨
  (∃ (j : Nat) (l : Lk), i = (j : Int) ∧ ls[j]? = some l ∧ l.owner = 0 ∧ (1 ≤ no ∧ no ≤ 1000) ∧ waitIx ls no = none ∧ askN ls i no = 0 ∧ askL ls i no = ls.set j ⟨no, []⟩) ∨
  (∃ (j : Nat) (l : Lk), i = (j : Int) ∧ ls[j]? = some l ∧ hasB (chainL ls l.owner) no = true ∧ askN ls i no = 4 ∧ askL ls i no = ls) ∨
  ∃ (j : Nat) (l : Lk), i = (j : Int) ∧ ls[j]? = some l ∧ l.owner ≠ 0 ∧ l.owner ≠ no ∧ (1 ≤ no ∧ no ≤ 1000) ∧ waitIx ls no = none ∧ hasB (chainL ls l.owner) no = false ∧ askN ls i no = 1 ∧ askL ls i no = ls.set j { l with waits := l.waits ++ [no] }
theorem asked {ls : List Lk} (R : Right ls) (i no : Int) : Asked ls i no := by
  have hb := right_iff.2 R
  have key : ∀ n, askN ls i no = n → (n ≠ 0 ∧ n ≠ 1 → askL ls i no = ls) ∧ (n = 0 → askL ls i no = ls.modify i.toNat (setOwner no)) ∧ (n = 1 → askL ls i no = ls.modify i.toNat (addWait no)) := by
    rintro n rfl
    refine ⟨fun h => ?_, fun h => ?_, fun h => ?_⟩
    · unfold askL; rw [hb]; simp [h.1, h.2]
    · unfold askL; rw [hb]; simp [h]
    · unfold askL; rw [hb]; simp [h]
  by_cases c : (!inB i 0 ((ls.length : Int) - 1) || (!inB no 1 1000 || decide (0 ≤ waitAt ls no))) = true
  · have e : askN ls i no = 2 := by unfold askN; rw [hb, c]; rfl
    exact .inl ⟨.inl e, (key 2 e).1 (by decide)⟩
  · rw [Bool.not_eq_true, Bool.or_eq_false_iff, Bool.or_eq_false_iff] at c
    obtain ⟨c1, c2, c3⟩ := c
    have c1' := c1
    have c2' := c2
    rw [Bool.not_eq_false'] at c1' c2'
    obtain ⟨h0, h1⟩ := inB_iff.1 c1'
    obtain ⟨j, rfl⟩ : ∃ j : Nat, i = (j : Int) := ⟨i.toNat, by omega⟩
    have hj : j < ls.length := by omega
    have hl : ls[j]? = some ls[j] := List.getElem?_eq_getElem hj
    have hno := inB_iff.1 c2'
    have hn := waitAt_lt c3
    have go : askN ls (j : Int) no = if ls[j].owner == no then 3 else if ls[j].owner == 0 then 0 else if hasB (chainL ls ls[j].owner) no then 4 else 1 := by
      unfold askN
      rw [hb, c1, c2, c3, Int.toNat_natCast, ownerAt_of hl]
      rfl
    cases c4 : (ls[j].owner == no)
    · cases c5 : (ls[j].owner == 0)
      · cases c6 : hasB (chainL ls ls[j].owner) no
        · have e : askN ls (j : Int) no = 1 := by rw [go, c4, c5, c6]; rfl
          have e2 := (key 1 e).2.2 rfl
          rw [Int.toNat_natCast, modifySet hl] at e2
          exact .inr (.inr (.inr ⟨j, ls[j], rfl, hl, by simpa using c5, by simpa using c4, hno, hn, c6, e, e2⟩))
        · have e : askN ls (j : Int) no = 4 := by rw [go, c4, c5, c6]; rfl
          exact .inr (.inr (.inl ⟨j, ls[j], rfl, hl, c6, e, (key 4 e).1 (by decide)⟩))
      · have e : askN ls (j : Int) no = 0 := by rw [go, c4, c5]; rfl
        have e2 := (key 0 e).2.1 rfl
        have ho : ls[j].owner = 0 := by simpa using c5
        rw [Int.toNat_natCast, modifySet hl] at e2
        have : setOwner no ls[j] = ⟨no, []⟩ := by unfold setOwner; rw [R.free j _ hl ho]
        rw [this] at e2
        exact .inr (.inl ⟨j, ls[j], rfl, hl, ho, hno, hn, e, e2⟩)
    · have e : askN ls (j : Int) no = 3 := by rw [go, c4]; rfl
      exact .inl ⟨.inr e, (key 3 e).1 (by decide)⟩
theorem ask_right {ls : List Lk} (R : Right ls) (i no : Int) : Right (askL ls i no) ∧ (askL ls i no).length = ls.length := by
  rcases asked R i no with ⟨_, e⟩ | ⟨j, l, hi, hl, h0, hno, hn, _, e⟩ | ⟨_, _, _, _, _, _, e⟩ | ⟨j, l, hi, hl, h0, h1, hno, hn, hc, _, e⟩
  · rw [e]; exact ⟨R, rfl⟩
  · rw [e]; exact ⟨R.owned hl (R.free j l hl h0) ⟨by omega, hno.2⟩, by simp⟩
  · rw [e]; exact ⟨R, rfl⟩
  · rw [e]
    obtain ⟨d, hd⟩ := R.chain l.owner
    rw [chainL_is R hd] at hc
    exact ⟨(R.waited hl h0 hno hn hd (hasB_no.1 hc)).1, by simp⟩
/-- Locks that nobody has. -/
theorem right_zero {n : Nat} (h : n ≤ 5) : Right (List.replicate n (⟨0, []⟩ : Lk)) := by
  have key : ∀ (j : Nat) (l : Lk), (List.replicate n (⟨0, []⟩ : Lk))[j]? = some l → l = ⟨0, []⟩ := fun j l hl => List.eq_of_mem_replicate (List.mem_of_getElem? hl)
  refine ⟨by simpa using h, ?_, ?_, ?_, ?_, ?_⟩
  · intro j l hl; rw [key j l hl]; simp
  · intro j l hl _; rw [key j l hl]
  · intro j l x hl hx; rw [key j l hl] at hx; simp [hasB] at hx
  · intro j l x hl hx; rw [key j l hl] at hx; simp [hasB] at hx
  · intro j l x hl hx; rw [key j l hl] at hx; simp [hasB] at hx
end Go.Proofs.YthpdlbcdbncnhaaGreatDoor
namespace Go.Proofs.YthpdlbcdbncnhaaGreatDoor
open Go.RowKit

/-- It is a task with a deadline. -/
def dueB (t : Tsk) : Bool := taskB t && t.cls == 1
/-- Its deadline has come, or more is left than its part of the time up to it. -/
def lateB (t : Tsk) (now : Int) : Bool := decide (t.due ≤ now) || decide ((t.due - now) * t.q < t.left * t.p)
def wakeB (t : Tsk) (now : Int) : Bool := dueB t && inB now 0 100000 && lateB t now
def wakeT (t : Tsk) (now : Int) : Tsk := if wakeB t now then { t with left := t.q, due := now + t.p } else t
def renewB (t : Tsk) (now : Int) : Bool := dueB t && inB now 0 100000 && decide (t.due ≤ now)
def renewT (t : Tsk) (now : Int) : Tsk := if renewB t now then { t with left := t.q, due := t.due + t.p } else t
def spendB (t : Tsk) : Bool := dueB t && decide (0 < t.left)
def spendT (t : Tsk) : Tsk := if spendB t then { t with left := t.left - 1 } else t
def dueBefB (a b : Tsk) : Bool := dueB a && dueB b && (decide (a.due < b.due) || a.due == b.due && decide (a.no < b.no))
def dueQ (t : Tsk) : Int := if dueB t then t.q else 0
def dueP (t : Tsk) : Int := if dueB t then t.p else 0

/-- What a task with a deadline holds. -/
structure IsDue (t : Tsk) : Prop where
  cls : t.cls = 1
  no : 1 ≤ t.no ∧ t.no ≤ 1000
  cpu : 0 ≤ t.cpu ∧ t.cpu ≤ 3
  st : 1 ≤ t.st ∧ t.st ≤ 2
  p : 1 ≤ t.p ∧ t.p ≤ 40
  q : 1 ≤ t.q ∧ t.q ≤ t.p
  left : 0 ≤ t.left ∧ t.left ≤ t.q
  due : 0 ≤ t.due ∧ t.due ≤ 100040
  none : t.prio = 0 ∧ t.round = 0 ∧ t.seq = 0 ∧ t.nice = 0 ∧ t.v = 0
theorem dueB_iff (t : Tsk) : dueB t = true ↔ IsDue t := by
  constructor
  · intro h
    simp only [dueB, Bool.and_eq_true, beq_iff_eq] at h
    obtain ⟨h1, h2⟩ := h
    simp [taskB, cleanB, ofClassB, h2, fixZ, fairZ, inB_iff, okB_iff] at h1
    obtain ⟨⟨⟨⟨hno, hcpu⟩, hst⟩, hz⟩, ⟨⟨hp, hq⟩, hl⟩, hd⟩ := h1
    exact ⟨h2, by omega, by omega, by omega, by omega, by omega, by omega, by omega, by omega, by omega, by omega, by omega, by omega⟩
  · rintro ⟨h2, hno, hcpu, hst, hp, hq, hl, hd, h0, h1, h3, h4, h5⟩
    simp [dueB, taskB, cleanB, ofClassB, h2, fixZ, fairZ, inB_iff, okB_iff, h0, h1, h3, h4, h5]
    omega
theorem mul_bd {a b A B : Int} (a0 : 0 ≤ a) (a1 : a ≤ A) (b0 : 0 ≤ b) (b1 : b ≤ B) : 0 ≤ a * b ∧ a * b ≤ A * B :=
  ⟨Int.mul_nonneg a0 b0, Int.mul_le_mul a1 b1 b0 (by omega)⟩

/-- A task that is woken: right, its deadline ahead, no more left than its part; woken again it is as it is. -/
theorem wake_due {t : Tsk} (h : IsDue t) {now : Int} (hn : 0 ≤ now ∧ now ≤ 100000) :
    IsDue (wakeT t now) ∧ now < (wakeT t now).due ∧ (wakeT t now).left * (wakeT t now).p ≤ ((wakeT t now).due - now) * (wakeT t now).q ∧ wakeT (wakeT t now) now = wakeT t now ∧
      ((wakeT t now).due = t.due ∧ (wakeT t now).left = t.left ∨ (wakeT t now).due = now + t.p ∧ (wakeT t now).left = t.q) := by
  have hn' : inB now 0 100000 = true := inB_iff.2 hn
  have hd : dueB t = true := (dueB_iff t).2 h
  cases hl : lateB t now
  · have e : wakeT t now = t := by simp [wakeT, wakeB, hl]
    have hl' := hl
    simp only [lateB, Bool.or_eq_false_iff, decide_eq_false_iff_not] at hl'
    rw [e]
    exact ⟨h, by omega, by omega, e, .inl ⟨rfl, rfl⟩⟩
  · have e : wakeT t now = { t with left := t.q, due := now + t.p } := by simp [wakeT, wakeB, hl, hn', hd]
    have i2 : IsDue { t with left := t.q, due := now + t.p } := by
      obtain ⟨h1, h2, h3, h4, h5, h6, h7, h8, h9⟩ := h
      exact ⟨h1, h2, h3, h4, h5, h6, by constructor <;> dsimp only <;> omega, by constructor <;> dsimp only <;> omega, h9⟩
    have e2 : wakeT { t with left := t.q, due := now + t.p } now = { t with left := t.q, due := now + t.p } := by
      have : lateB { t with left := t.q, due := now + t.p } now = false := by
        simp only [lateB, Bool.or_eq_false_iff, decide_eq_false_iff_not]
        have hp := h.p
        refine ⟨by omega, ?_⟩
        rw [show now + t.p - now = t.p by omega, Int.mul_comm]
        omega
      simp [wakeT, wakeB, this]
    rw [e]
    have hp := h.p
    refine ⟨i2, by dsimp only; omega, ?_, e2, .inr ⟨rfl, rfl⟩⟩
    dsimp only
    rw [show now + t.p - now = t.p by omega, Int.mul_comm]
    omega
theorem renew_due {t : Tsk} (h : IsDue t) {now : Int} (hn : 0 ≤ now ∧ now ≤ 100000) (hd : t.due ≤ now) : renewT t now = { t with left := t.q, due := t.due + t.p } ∧ IsDue (renewT t now) := by
  have e : renewT t now = { t with left := t.q, due := t.due + t.p } := by simp [renewT, renewB, (dueB_iff t).2 h, inB_iff.2 hn, hd]
  refine ⟨e, ?_⟩
  rw [e]
  obtain ⟨h1, h2, h3, h4, h5, h6, h7, h8, h9⟩ := h
  exact ⟨h1, h2, h3, h4, h5, h6, by constructor <;> dsimp only <;> omega, by constructor <;> dsimp only <;> omega, h9⟩
/-- So many spent. -/
def spentT (t : Tsk) (i : Int) : Tsk := { t with left := max 0 (t.left - i) }
theorem spent_due {t : Tsk} (h : IsDue t) {i : Int} (hi : 0 ≤ i) : IsDue (spentT t i) := by
  obtain ⟨h1, h2, h3, h4, h5, h6, h7, h8, h9⟩ := h
  exact ⟨h1, h2, h3, h4, h5, h6, by unfold spentT; constructor <;> dsimp only <;> omega, h8, h9⟩
theorem spent_step {t : Tsk} (h : IsDue t) {i : Int} (hi : 0 ≤ i) : spendT (spentT t i) = spentT t (i + 1) := by
  have hd := (dueB_iff _).2 (spent_due h hi)
  have hl := h.left
  unfold spendT spendB
  rw [hd, Bool.true_and]
  by_cases h0 : 0 < (spentT t i).left
  · rw [if_pos (by simpa using h0)]
    unfold spentT at h0 ⊢
    dsimp only at h0 ⊢
    congr 1
    omega
  · rw [if_neg (by simpa using h0)]
    unfold spentT at h0 ⊢
    dsimp only at h0 ⊢
    congr 1
    omega
theorem spent_zero {t : Tsk} (h : IsDue t) : spentT t 0 = t := by
  have hl := h.left
  unfold spentT
  have : max 0 (t.left - 0) = t.left := by omega
  rw [this]
end Go.Proofs.YthpdlbcdbncnhaaGreatDoor
namespace Go.Proofs.YthpdlbcdbncnhaaGreatDoor
open Go.RowKit

/-- It is a task of a fixed priority. -/
def fixB (t : Tsk) : Bool := taskB t && t.cls == 2
def fixBefB (a b : Tsk) : Bool := fixB a && fixB b && (if a.prio != b.prio then decide (b.prio < a.prio) else if a.seq != b.seq then decide (a.seq < b.seq) else decide (a.no < b.no))
/-- It goes behind. -/
def turnB (t : Tsk) (seq : Int) : Bool := fixB t && !(t.round == 0) && !decide (1 < t.left) && inB seq 0 1000000
/-- What it is then. -/
def fixSpendT (t : Tsk) (seq : Int) : Tsk := if fixB t && !(t.round == 0) then (if decide (1 < t.left) then { t with left := t.left - 1 } else if inB seq 0 1000000 then { t with left := t.round, seq := seq } else t) else t

/-- What such a task holds. -/
structure IsFix (t : Tsk) : Prop where
  cls : t.cls = 2
  no : 1 ≤ t.no ∧ t.no ≤ 1000
  cpu : 0 ≤ t.cpu ∧ t.cpu ≤ 3
  st : 1 ≤ t.st ∧ t.st ≤ 2
  prio : 1 ≤ t.prio ∧ t.prio ≤ 20
  round : 0 ≤ t.round ∧ t.round ≤ 10
  left : min t.round 1 ≤ t.left ∧ t.left ≤ t.round
  seq : 0 ≤ t.seq ∧ t.seq ≤ 1000000
  none : t.q = 0 ∧ t.p = 0 ∧ t.due = 0 ∧ t.nice = 0 ∧ t.v = 0
theorem fixB_iff (t : Tsk) : fixB t = true ↔ IsFix t := by
  constructor
  · intro h
    simp only [fixB, Bool.and_eq_true, beq_iff_eq] at h
    obtain ⟨h1, h2⟩ := h
    simp [taskB, cleanB, ofClassB, h2, dueZ, fairZ, inB_iff] at h1
    obtain ⟨⟨⟨⟨hno, hcpu⟩, hst⟩, hz⟩, ⟨⟨hp, hr⟩, hl⟩, hs⟩ := h1
    exact ⟨h2, by omega, by omega, by omega, by omega, by omega, by omega, by omega, by omega, by omega, by omega, by omega, by omega⟩
  · rintro ⟨h2, hno, hcpu, hst, hp, hr, hl, hs, h0, h1, h3, h4, h5⟩
    simp [fixB, taskB, cleanB, ofClassB, h2, dueZ, fairZ, inB_iff, h0, h1, h3, h4, h5]
    omega
/-- So many ticks spent, of at most its round. -/
def turned (t : Tsk) (seq i : Int) : Tsk := if i < t.left then { t with left := t.left - i } else { t with left := t.round - (i - t.left), seq := seq }
theorem turned_is {t : Tsk} (h : IsFix t) {seq : Int} (hs : 0 ≤ seq ∧ seq ≤ 1000000) {i : Int} (h0 : 0 ≤ i) (h1 : i ≤ t.round) : IsFix (turned t seq i) := by
  obtain ⟨g1, g2, g3, g4, g5, g6, g7, g8, g9⟩ := h
  unfold turned
  split
  · exact ⟨g1, g2, g3, g4, g5, g6, by constructor <;> dsimp only <;> omega, g8, g9⟩
  · exact ⟨g1, g2, g3, g4, g5, g6, by constructor <;> dsimp only <;> omega, hs, g9⟩
theorem turned_step {t : Tsk} (h : IsFix t) (hr : t.round ≠ 0) {seq : Int} (hs : 0 ≤ seq ∧ seq ≤ 1000000) {i : Int} (h0 : 0 ≤ i) (h1 : i < t.round) :
    fixSpendT (turned t seq i) seq = turned t seq (i + 1) ∧ turnB (turned t seq i) seq = decide (i + 1 = t.left) := by
  have hf := (fixB_iff _).2 (turned_is h hs h0 (by omega))
  have hl := h.left
  have hi : inB seq 0 1000000 = true := inB_iff.2 hs
  have hrd : (turned t seq i).round = t.round := by unfold turned; split <;> rfl
  have hrz : ((turned t seq i).round == 0) = false := by rw [hrd]; simpa using hr
  unfold fixSpendT turnB
  rw [hf, hrz, hi, hrd]
  simp only [Bool.not_false, Bool.and_true, Bool.true_and, if_true]
  by_cases c1 : i + 1 < t.left
  · have e1 : turned t seq i = { t with left := t.left - i } := by unfold turned; rw [if_pos (by omega)]
    have e2 : turned t seq (i + 1) = { t with left := t.left - (i + 1) } := by unfold turned; rw [if_pos c1]
    rw [e1, e2]
    dsimp only
    rw [if_pos (by simp; omega)]
    refine ⟨by congr 1; omega, ?_⟩
    rw [decide_eq_true (show 1 < t.left - i by omega), decide_eq_false (show ¬ i + 1 = t.left by omega)]; rfl
  · by_cases c2 : i + 1 = t.left
    · have e1 : turned t seq i = { t with left := t.left - i } := by unfold turned; rw [if_pos (by omega)]
      have e2 : turned t seq (i + 1) = { t with left := t.round - (i + 1 - t.left), seq := seq } := by unfold turned; rw [if_neg c1]
      rw [e1, e2]
      dsimp only
      rw [if_neg (by simp; omega)]
      refine ⟨by congr 1; omega, ?_⟩
      rw [decide_eq_false (show ¬ 1 < t.left - i by omega), decide_eq_true c2]; rfl
    · have e1 : turned t seq i = { t with left := t.round - (i - t.left), seq := seq } := by unfold turned; rw [if_neg (by omega)]
      have e2 : turned t seq (i + 1) = { t with left := t.round - (i + 1 - t.left), seq := seq } := by unfold turned; rw [if_neg c1]
      rw [e1, e2]
      dsimp only
      rw [if_pos (by simp; omega)]
      refine ⟨by congr 1; omega, ?_⟩
      rw [decide_eq_true (show 1 < t.round - (i - t.left) by omega), decide_eq_false c2]; rfl
theorem turned_zero {t : Tsk} (h : IsFix t) (hr : t.round ≠ 0) (seq : Int) : turned t seq 0 = t := by
  have hl := h.left
  have hrr := h.round
  unfold turned
  rw [if_pos (by omega), Int.sub_zero]
theorem turned_all {t : Tsk} (h : IsFix t) (seq : Int) : (turned t seq t.round).seq = seq := by
  have hl := h.left
  unfold turned
  rw [if_neg (by omega)]
end Go.Proofs.YthpdlbcdbncnhaaGreatDoor
namespace Go.Proofs.YthpdlbcdbncnhaaGreatDoor
open Go.RowKit

/-- It is a task that shares fairly. -/
def fairB (t : Tsk) : Bool := taskB t && t.cls == 3
def fairBefB (a b : Tsk) : Bool := fairB a && fairB b && (decide (a.v < b.v) || a.v == b.v && decide (a.no < b.no))
def fairTo (t : Tsk) (x : Int) : Tsk := if inB x 0 100000000 then { t with v := x } else t
def fairSpendT (t : Tsk) : Tsk := if fairB t then fairTo t (t.v + stepI t.nice) else t
def fairWakeT (t : Tsk) (floor : Int) : Tsk := if fairB t then fairTo t (max t.v floor) else t
def moveB (t : Tsk) (cpu frm dst : Int) : Bool := fairB t && inB cpu 0 3 && inB frm 0 100000000 && inB dst 0 100000000 && !decide (100000000 < dst + max (t.v - frm) 0)
def fairMoveT (t : Tsk) (cpu frm dst : Int) : Tsk := if moveB t cpu frm dst then { t with cpu := cpu, v := dst + max (t.v - frm) 0 } else t
/-- The least, one more looked at. -/
def leastS (least : Int) (t : Tsk) : Int := if fairB t && (decide (least < 0) || decide (t.v < least)) then t.v else least
def leastV (ts : List Tsk) : Int := ts.foldl leastS (-1)
def fairFloorI (ts : List Tsk) (floor : Int) : Int := if leastV ts < 0 then floor else max floor (leastV ts)
def mostS (most : Int) (t : Tsk) : Int := if fairB t then max most t.v else most
def mostV (ts : List Tsk) : Int := ts.foldl mostS (-1)
def fairSpreadI (ts : List Tsk) : Int := mostV ts - leastV ts

/-- What such a task holds. -/
structure IsFair (t : Tsk) : Prop where
  cls : t.cls = 3
  no : 1 ≤ t.no ∧ t.no ≤ 1000
  cpu : 0 ≤ t.cpu ∧ t.cpu ≤ 3
  st : 1 ≤ t.st ∧ t.st ≤ 2
  nice : -4 ≤ t.nice ∧ t.nice ≤ 4
  v : 0 ≤ t.v ∧ t.v ≤ 100000000
  none : t.q = 0 ∧ t.p = 0 ∧ t.left = 0 ∧ t.due = 0 ∧ t.prio = 0 ∧ t.round = 0 ∧ t.seq = 0
theorem fairB_iff (t : Tsk) : fairB t = true ↔ IsFair t := by
  constructor
  · intro h
    simp only [fairB, Bool.and_eq_true, beq_iff_eq] at h
    obtain ⟨h1, h2⟩ := h
    simp [taskB, cleanB, ofClassB, h2, dueZ, fixZ, inB_iff] at h1
    obtain ⟨⟨⟨⟨hno, hcpu⟩, hst⟩, hz⟩, hn, hv⟩ := h1
    exact ⟨h2, by omega, by omega, by omega, by omega, by omega, by omega, by omega, by omega, by omega, by omega, by omega, by omega⟩
  · rintro ⟨h2, hno, hcpu, hst, hn, hv, h0, h1, h3, h4, h5, h6, h7⟩
    simp [fairB, taskB, cleanB, ofClassB, h2, dueZ, fixZ, inB_iff, h0, h1, h3, h4, h5, h6, h7]
    omega
theorem stepI_bd (x : Int) : 0 ≤ stepI x ∧ stepI x ≤ 48 := by
  unfold stepI
  repeat' split
  all_goals omega
theorem fairTo_is {t : Tsk} (h : IsFair t) (x : Int) : IsFair (fairTo t x) := by
  unfold fairTo
  split
  · rename_i hx
    obtain ⟨g1, g2, g3, g4, g5, g6, g7⟩ := h
    exact ⟨g1, g2, g3, g4, g5, inB_iff.1 hx, g7⟩
  · exact h
theorem fairMove_is {t : Tsk} {cpu frm dst : Int} (h : moveB t cpu frm dst = true) : IsFair (fairMoveT t cpu frm dst) := by
  have e : fairMoveT t cpu frm dst = { t with cpu := cpu, v := dst + max (t.v - frm) 0 } := by unfold fairMoveT; rw [if_pos h]
  rw [e]
  simp only [moveB, Bool.and_eq_true, Bool.not_eq_true', decide_eq_false_iff_not, inB_iff] at h
  obtain ⟨⟨⟨⟨h1, h2⟩, h3⟩, h4⟩, h5⟩ := h
  obtain ⟨g1, g2, g3, g4, g5, g6, g7⟩ := (fairB_iff t).1 h1
  exact ⟨g1, g2, h2, g4, g5, by constructor <;> dsimp only <;> omega, g7⟩
theorem fair_le {ts : List Tsk} : ∀ (a : Int), (∀ x ∈ ts, fairB x = true → 0 ≤ ts.foldl leastS a ∧ ts.foldl leastS a ≤ x.v) ∧ (0 ≤ a → 0 ≤ ts.foldl leastS a ∧ ts.foldl leastS a ≤ a) := by
  induction ts with
  | nil => intro a; simp
  | cons y r ih =>
    intro a
    have step : (0 ≤ a → 0 ≤ leastS a y ∧ leastS a y ≤ a) ∧ (fairB y = true → 0 ≤ leastS a y ∧ leastS a y ≤ y.v) := by
      unfold leastS
      cases hf : fairB y
      · simp only [Bool.false_and, Bool.false_eq_true, if_false]
        exact ⟨fun h => ⟨h, Int.le_refl _⟩, fun h => by cases h⟩
      · have hv := ((fairB_iff y).1 hf).v
        simp only [Bool.true_and, Bool.or_eq_true, decide_eq_true_eq]
        split <;> exact ⟨fun h => by omega, fun h => by omega⟩
    have h2 := ih (leastS a y)
    simp only [List.foldl_cons]
    refine ⟨fun x hx hf => ?_, fun h => ?_⟩
    · rcases List.mem_cons.1 hx with rfl | hx
      · have h3 := step.2 hf
        have h4 := h2.2 h3.1
        omega
      · exact h2.1 x hx hf
    · have h3 := step.1 h
      have h4 := h2.2 h3.1
      omega
theorem floor_ge (ts : List Tsk) (floor : Int) : floor ≤ fairFloorI ts floor := by
  unfold fairFloorI; split <;> omega
/-- Where the floor has gone up it is not above any that shares fairly. -/
theorem floor_le {ts : List Tsk} {floor : Int} (h : fairFloorI ts floor ≠ floor) {x : Tsk} (hx : x ∈ ts) (hf : fairB x = true) : fairFloorI ts floor ≤ x.v := by
  have h1 := (fair_le (ts := ts) (-1)).1 x hx hf
  unfold fairFloorI leastV at *
  split at h
  · exact absurd rfl h
  · rename_i h2
    rw [if_neg h2]
    omega
theorem spread_inv (ts : List Tsk) : ∀ (a b : Int), (a = -1 ∧ b = -1 ∨ 0 ≤ a ∧ a ≤ b) → (ts.foldl leastS a = -1 ∧ ts.foldl mostS b = -1 ∨ 0 ≤ ts.foldl leastS a ∧ ts.foldl leastS a ≤ ts.foldl mostS b) := by
  induction ts with
  | nil => intro a b h; exact h
  | cons y r ih =>
    intro a b h
    simp only [List.foldl_cons]
    apply ih
    unfold leastS mostS
    cases hf : fairB y
    · simpa using h
    · have hv := ((fairB_iff y).1 hf).v
      simp only [Bool.true_and, Bool.or_eq_true, decide_eq_true_eq, if_true]
      split <;> omega
theorem spread_ge (ts : List Tsk) : 0 ≤ fairSpreadI ts := by
  have := spread_inv ts (-1) (-1) (.inl ⟨rfl, rfl⟩)
  unfold fairSpreadI leastV mostV
  omega
theorem least_bd (ts : List Tsk) : ∀ a : Int, -1 ≤ a → a ≤ 100000000 → -1 ≤ ts.foldl leastS a ∧ ts.foldl leastS a ≤ 100000000 := by
  induction ts with
  | nil => intro a h1 h2; exact ⟨h1, h2⟩
  | cons y r ih =>
    intro a h1 h2
    simp only [List.foldl_cons]
    have : -1 ≤ leastS a y ∧ leastS a y ≤ 100000000 := by
      unfold leastS
      split
      · rename_i h
        simp only [Bool.and_eq_true] at h
        have hv := ((fairB_iff y).1 h.1).v
        omega
      · omega
    exact ih _ this.1 this.2
theorem most_bd (ts : List Tsk) : ∀ a : Int, -1 ≤ a → a ≤ 100000000 → -1 ≤ ts.foldl mostS a ∧ ts.foldl mostS a ≤ 100000000 := by
  induction ts with
  | nil => intro a h1 h2; exact ⟨h1, h2⟩
  | cons y r ih =>
    intro a h1 h2
    simp only [List.foldl_cons]
    have : -1 ≤ mostS a y ∧ mostS a y ≤ 100000000 := by
      unfold mostS
      split
      · rename_i h
        have hv := ((fairB_iff y).1 h).v
        omega
      · omega
    exact ih _ this.1 this.2
end Go.Proofs.YthpdlbcdbncnhaaGreatDoor
