/-
  Locks, as plain functions, and what holds of them.
  Locks: what is asked for and freed leaves right ones.
-/
import Derived.Test.YtpikopdfkhagmaaGreatDoorLate2
namespace Go.Proofs.YtpikopdfkhagmaaGreatDoor
open Go.RowKit

/-- A lock: who has it, and who waits for it. -/
structure Lk where
  owner : Int
  waits : List Int
def hasB (xs : List Int) (x : Int) : Bool := xs.any fun y => y == x
theorem hasB_iff {xs : List Int} {x : Int} : hasB xs x = true ↔ x ∈ xs := by simp [hasB]
theorem hasB_no {xs : List Int} {x : Int} : hasB xs x = false ↔ x ∉ xs := by rw [← hasB_iff]; simp
def waitIx (ls : List Lk) (no : Int) : Option Nat := ls.findIdx? fun l => hasB l.waits no
def waitAt (ls : List Lk) (no : Int) : Int := match waitIx ls no with
  | some i => i
  | none => -1
def ownerAt (ls : List Lk) (i : Nat) : Int := match ls[i]? with
  | some l => l.owner
  | none => 0
/-- Whom one comes to, with so many steps to go; whether one comes to an end. -/
def chainN (ls : List Lk) : Nat → Int → List Int × Bool
  | 0, no => ([no], false)
  | f + 1, no => match waitIx ls no with
    | none => ([no], true)
    | some i => (no :: (chainN ls f (ownerAt ls i)).1, (chainN ls f (ownerAt ls i)).2)
def countN (xs : List Int) (no : Int) : Nat := (xs.filter fun y => y == no).length
def waitsN : List Lk → Int → Nat
  | [], _ => 0
  | l :: r, no => countN l.waits no + waitsN r no
def waiterB (ls : List Lk) (no : Int) : Bool := (chainN ls (ls.length + 1) no).2 && (inB no 1 1000 && waitsN ls no == 1)
def lockB (ls : List Lk) (l : Lk) : Bool := inB l.owner 0 1000 && (!(l.owner == 0 && decide (0 < l.waits.length)) && l.waits.all (waiterB ls))
def locksB (ls : List Lk) : Bool := decide (ls.length ≤ 5) && ls.all (lockB ls)
def chainL (ls : List Lk) (no : Int) : List Int := if locksB ls then (chainN ls (ls.length + 1) no).1 else []
def ownsB (ls : List Lk) (no : Int) : Bool := ls.any fun l => no != 0 && l.owner == no
def setOwner (no : Int) (l : Lk) : Lk := { l with owner := no }
def addWait (no : Int) (l : Lk) : Lk := { l with waits := l.waits ++ [no] }
def lessL (xs : List Int) (x : Int) : List Int := xs.filter fun y => y != x
def freed (next : Int) (l : Lk) : Lk := ⟨next, lessL l.waits next⟩
/-- What asking says. -/
def askN (ls : List Lk) (i no : Int) : Int :=
  if !locksB ls then 2 else if !inB i 0 ((ls.length : Int) - 1) || (!inB no 1 1000 || decide (0 ≤ waitAt ls no)) then 2
  else if ownerAt ls i.toNat == no then 3 else if ownerAt ls i.toNat == 0 then 0 else if hasB (chainL ls (ownerAt ls i.toNat)) no then 4 else 1
def askL (ls : List Lk) (i no : Int) : List Lk :=
  if !locksB ls then [] else if askN ls i no == 0 then ls.modify i.toNat (setOwner no) else if askN ls i no == 1 then ls.modify i.toNat (addWait no) else ls
def waitsAt (ls : List Lk) (i : Nat) : List Int := match ls[i]? with
  | some l => l.waits
  | none => []
def mayNext (xs : List Int) (next : Int) : Bool := if xs.length == 0 then next == 0 else hasB xs next
def freeB (ls : List Lk) (i no next : Int) : Bool :=
  locksB ls && (inB i 0 ((ls.length : Int) - 1) && (!(no == 0) && (ownerAt ls i.toNat == no && mayNext (waitsAt ls i.toNat) next)))
def freeL (ls : List Lk) (i no next : Int) : List Lk :=
  if !locksB ls then [] else if freeB ls i no next then ls.modify i.toNat (freed next) else ls

section chains
variable {ls : List Lk}
theorem waitIx_some {no : Int} {i : Nat} (h : waitIx ls no = some i) : ∃ l, ls[i]? = some l ∧ hasB l.waits no = true ∧ ∀ j m, j < i → ls[j]? = some m → hasB m.waits no = false := by
  obtain ⟨hi, h1, h2⟩ := List.findIdx?_eq_some_iff_getElem.1 h
  refine ⟨ls[i], List.getElem?_eq_getElem hi, h1, fun j m hj hm => ?_⟩
  have hj' : j < ls.length := by omega
  rw [List.getElem?_eq_getElem hj'] at hm
  cases hm
  simpa using h2 j hj
theorem waitIx_none {no : Int} (h : waitIx ls no = none) : ∀ (j : Nat) (m : Lk), ls[j]? = some m → hasB m.waits no = false := by
  intro j m hm
  have := List.findIdx?_eq_none_iff.1 h m (List.mem_of_getElem? hm)
  simpa using this
theorem waitIx_of {no : Int} {i : Nat} {l : Lk} (h0 : ls[i]? = some l) (h1 : hasB l.waits no = true) (h2 : ∀ j m, j < i → ls[j]? = some m → hasB m.waits no = false) : waitIx ls no = some i := by
  have hi : i < ls.length := by
    rcases Nat.lt_or_ge i ls.length with h | h
    · exact h
    · rw [List.getElem?_eq_none h] at h0; cases h0
  refine List.findIdx?_eq_some_iff_getElem.2 ⟨hi, ?_, fun j hj => ?_⟩
  · rw [List.getElem?_eq_getElem hi] at h0; cases h0; exact h1
  · simpa using h2 j ls[j] hj (List.getElem?_eq_getElem _)
theorem waitIx_of_none {no : Int} (h : ∀ (j : Nat) (m : Lk), ls[j]? = some m → hasB m.waits no = false) : waitIx ls no = none := by
  refine List.findIdx?_eq_none_iff.2 fun m hm => ?_
  obtain ⟨j, hj, rfl⟩ := List.mem_iff_getElem.1 hm
  simpa using h j _ (List.getElem?_eq_getElem hj)
theorem ownerAt_of {i : Nat} {l : Lk} (h : ls[i]? = some l) : ownerAt ls i = l.owner := by simp [ownerAt, h]

theorem chainN_end {f : Nat} {no : Int} (h : waitIx ls no = none) : chainN ls (f + 1) no = ([no], true) := by simp [chainN, h]
theorem chainN_step {f : Nat} {no : Int} {i : Nat} (h : waitIx ls no = some i) : chainN ls (f + 1) no = (no :: (chainN ls f (ownerAt ls i)).1, (chainN ls f (ownerAt ls i)).2) := by simp [chainN, h]
/-- One comes to an end, by the way c. -/
def Ends (ls : List Lk) (no : Int) (c : List Int) : Prop := ∃ f, chainN ls f no = (c, true)
theorem Ends.cases {no : Int} {c : List Int} (h : Ends ls no c) : (waitIx ls no = none ∧ c = [no]) ∨ ∃ i r, waitIx ls no = some i ∧ c = no :: r ∧ Ends ls (ownerAt ls i) r := by
  obtain ⟨f, h⟩ := h
  cases f with
  | zero => simp [chainN] at h
  | succ f =>
    cases hw : waitIx ls no with
    | none => rw [chainN_end hw] at h; cases h; exact .inl ⟨rfl, rfl⟩
    | some i =>
      rw [chainN_step hw] at h
      simp only [Prod.mk.injEq] at h
      exact .inr ⟨i, _, rfl, h.1.symm, f, Prod.ext rfl h.2⟩
theorem Ends.stop {no : Int} (h : waitIx ls no = none) : Ends ls no [no] := ⟨1, chainN_end h⟩
theorem Ends.step {no : Int} {i : Nat} {r : List Int} (h : waitIx ls no = some i) (hr : Ends ls (ownerAt ls i) r) : Ends ls no (no :: r) := by
  obtain ⟨f, hf⟩ := hr
  exact ⟨f + 1, by rw [chainN_step h, hf]⟩
theorem Ends.one : ∀ {c d : List Int} {no : Int}, Ends ls no c → Ends ls no d → c = d
  | [], _, _, h, _ => by rcases h.cases with ⟨_, e⟩ | ⟨_, _, _, e, _⟩ <;> cases e
  | x :: r, d, no, h, h' => by
    rcases h.cases with ⟨hw, e⟩ | ⟨i, r', hw, e, hr⟩
    · rcases h'.cases with ⟨_, e'⟩ | ⟨i', _, hw', _, _⟩
      · rw [e, e']
      · rw [hw] at hw'; cases hw'
    · cases e
      rcases h'.cases with ⟨hw', _⟩ | ⟨i', r'', hw', e', hr'⟩
      · rw [hw] at hw'; cases hw'
      · rw [hw] at hw'; cases hw'
        rw [e', Ends.one hr hr']
/-- With as many steps as the way has. -/
theorem Ends.fuel : ∀ {c : List Int} {no : Int}, Ends ls no c → ∀ g, c.length ≤ g → chainN ls g no = (c, true)
  | [], _, h, _, _ => by rcases h.cases with ⟨_, e⟩ | ⟨_, _, _, e, _⟩ <;> cases e
  | x :: r, no, h, 0, hg => by simp at hg
  | x :: r, no, h, g + 1, hg => by
    rcases h.cases with ⟨hw, e⟩ | ⟨i, r', hw, e, hr⟩
    · rw [chainN_end hw, e]
    · cases e
      rw [chainN_step hw, Ends.fuel hr g (by simpa using hg)]
theorem Ends.len {no : Int} {c : List Int} {f : Nat} (h : chainN ls f no = (c, true)) : Ends ls no c := ⟨f, h⟩
theorem Ends.head {no : Int} {c : List Int} (h : Ends ls no c) : c[0]? = some no := by
  rcases h.cases with ⟨_, rfl⟩ | ⟨_, _, _, rfl, _⟩ <;> rfl
theorem Ends.pos {no : Int} {c : List Int} (h : Ends ls no c) : 0 < c.length := by
  rcases h.cases with ⟨_, rfl⟩ | ⟨_, _, _, rfl, _⟩ <;> simp
/-- From each of a way on it goes as from there. -/
theorem Ends.drop : ∀ {p : Nat} {c : List Int} {no y : Int}, Ends ls no c → c[p]? = some y → Ends ls y (c.drop p)
  | 0, c, no, y, h, hy => by
    rw [h.head] at hy
    cases hy
    simpa using h
  | p + 1, c, no, y, h, hy => by
    rcases h.cases with ⟨_, rfl⟩ | ⟨i, r, _, rfl, hr⟩
    · simp at hy
    · have := Ends.drop (p := p) hr (by simpa using hy)
      simpa using this
theorem Ends.nodup {c : List Int} {no : Int} (h : Ends ls no c) {p q : Nat} {y : Int} (hp : c[p]? = some y) (hq : c[q]? = some y) : p = q := by
  have e := Ends.one (h.drop hp) (h.drop hq)
  have lp : p < c.length := by
    rcases Nat.lt_or_ge p c.length with h | h
    · exact h
    · rw [List.getElem?_eq_none h] at hp; cases hp
  have lq : q < c.length := by
    rcases Nat.lt_or_ge q c.length with h | h
    · exact h
    · rw [List.getElem?_eq_none h] at hq; cases hq
  have := congrArg List.length e
  simp only [List.length_drop] at this
  omega
/-- The next one is the owner of what one waits for. -/
theorem Ends.next {c : List Int} {no : Int} (h : Ends ls no c) {p : Nat} {y z : Int} (hp : c[p]? = some y) (hz : c[p + 1]? = some z) : ∃ i, waitIx ls y = some i ∧ ownerAt ls i = z := by
  rcases (h.drop hp).cases with ⟨_, e⟩ | ⟨i, r, hw, e, hr⟩
  · have : (c.drop p)[1]? = some z := by rw [List.getElem?_drop, ← hz]
    rw [e] at this; simp at this
  · have : (c.drop p)[1]? = some z := by rw [List.getElem?_drop, ← hz]
    rw [e] at this
    have h0 := hr.head
    simp only [List.getElem?_cons_succ] at this
    rw [h0] at this
    exact ⟨i, hw, by simpa using this⟩
theorem Ends.last {c : List Int} {no : Int} (h : Ends ls no c) {p : Nat} {y : Int} (hp : c[p]? = some y) (hl : p + 1 = c.length) : waitIx ls y = none := by
  rcases (h.drop hp).cases with ⟨hw, _⟩ | ⟨i, r, hw, e, hr⟩
  · exact hw
  · have := congrArg List.length e
    have := hr.pos
    simp only [List.length_drop, List.length_cons] at *
    omega
theorem inj_le : ∀ (n m : Nat) (f : Nat → Nat), (∀ i, i < m → f i < n) → (∀ i j, i < m → j < m → f i = f j → i = j) → m ≤ n
  | 0, m, f, h, _ => by
    rcases Nat.eq_zero_or_pos m with e | e
    · omega
    · exact absurd (h 0 e) (Nat.not_lt_zero _)
  | n + 1, m, f, h, hi => by
    by_cases hx : ∃ k, k < m ∧ f k = n
    · obtain ⟨k, hk, e⟩ := hx
      have := inj_le n (m - 1) (fun i => f (if i < k then i else i + 1)) (fun i hm => by
        split
        · have h1 := h i (by omega)
          have h2 : f i ≠ n := fun h3 => by have := hi i k (by omega) hk (h3.trans e.symm); omega
          omega
        · have h1 := h (i + 1) (by omega)
          have h2 : f (i + 1) ≠ n := fun h3 => by have := hi (i + 1) k (by omega) hk (h3.trans e.symm); omega
          omega) (fun i j hm hj he => by
        split at he <;> split at he <;> (have := hi _ _ (by omega) (by omega) he; omega))
      omega
    · have := inj_le n m f (fun i hm => by
        have h1 := h i hm
        have h2 : f i ≠ n := fun h3 => hx ⟨i, hm, h3⟩
        omega) hi
      omega
/-- A way that ends has no more steps than there are locks. -/
theorem Ends.bound {c : List Int} {no : Int} (h : Ends ls no c) : c.length ≤ ls.length + 1 := by
  have key : ∀ p, p < c.length - 1 → ∃ i, waitIx ls (c.getD p 0) = some i ∧ i < ls.length ∧ ownerAt ls i = c.getD (p + 1) 0 := by
    intro p hp
    have h1 : c[p]? = some (c.getD p 0) := by rw [List.getD_eq_getElem?_getD, List.getElem?_eq_getElem (by omega)]; rfl
    have h2 : c[p + 1]? = some (c.getD (p + 1) 0) := by rw [List.getD_eq_getElem?_getD, List.getElem?_eq_getElem (by omega)]; rfl
    obtain ⟨i, hi, ho⟩ := h.next h1 h2
    obtain ⟨l, hl, _⟩ := waitIx_some hi
    refine ⟨i, hi, ?_, ho⟩
    rcases Nat.lt_or_ge i ls.length with h | h
    · exact h
    · rw [List.getElem?_eq_none h] at hl; cases hl
  have := inj_le ls.length (c.length - 1) (fun p => (waitIx ls (c.getD p 0)).getD 0) (fun p hp => by
    obtain ⟨i, hi, hlt, _⟩ := key p hp
    simp only [hi, Option.getD_some]; exact hlt) (fun p q hp hq e => by
    obtain ⟨i, hi, _, ho⟩ := key p hp
    obtain ⟨j, hj, _, ho'⟩ := key q hq
    simp only [hi, hj, Option.getD_some] at e
    subst e
    have h1 : c[p + 1]? = some (c.getD (p + 1) 0) := by rw [List.getD_eq_getElem?_getD, List.getElem?_eq_getElem (by omega)]; rfl
    have h2 : c[q + 1]? = some (c.getD (q + 1) 0) := by rw [List.getD_eq_getElem?_getD, List.getElem?_eq_getElem (by omega)]; rfl
    rw [← ho, ho'] at h1
    have := h.nodup h1 h2
    omega)
  omega
theorem chainN_iff {no : Int} : (chainN ls (ls.length + 1) no).2 = true ↔ ∃ c, Ends ls no c := by
  constructor
  · intro h; exact ⟨(chainN ls (ls.length + 1) no).1, _, Prod.ext rfl h⟩
  · rintro ⟨c, h⟩; rw [h.fuel _ h.bound]
theorem Ends.is {no : Int} {c : List Int} (h : Ends ls no c) : chainN ls (ls.length + 1) no = (c, true) := h.fuel _ h.bound
end chains
end Go.Proofs.YtpikopdfkhagmaaGreatDoor
namespace Go.Proofs.YtpikopdfkhagmaaGreatDoor
open Go.RowKit

theorem lt_some {α : Type} {xs : List α} {k : Nat} {x : α} (h : xs[k]? = some x) : k < xs.length := by
  rcases Nat.lt_or_ge k xs.length with h' | h'
  · exact h'
  · rw [List.getElem?_eq_none h'] at h; cases h
theorem setAt {ls : List Lk} {k i : Nat} {m y : Lk} (h : (ls.set k y)[i]? = some m) : (i = k ∧ m = y) ∨ (i ≠ k ∧ ls[i]? = some m) := by
  by_cases e : k = i
  · subst e
    have hl : k < ls.length := by have := lt_some h; simpa using this
    rw [List.getElem?_set_self hl] at h
    cases h; exact .inl ⟨rfl, rfl⟩
  · rw [List.getElem?_set_ne e] at h
    exact .inr ⟨Ne.symm e, h⟩
theorem modifySet {ls : List Lk} {i : Nat} {l : Lk} (h : ls[i]? = some l) (f : Lk → Lk) : ls.modify i f = ls.set i (f l) := by
  apply List.ext_getElem?
  intro j
  by_cases e : i = j
  · subst e
    rw [List.getElem?_modify, List.getElem?_set_self (lt_some h), h]
    simp
  · rw [List.getElem?_modify, List.getElem?_set_ne e]
    simp [e]
theorem count_pos {xs : List Int} {x : Int} : 0 < countN xs x ↔ hasB xs x = true := by
  unfold countN hasB
  rw [List.length_pos_iff_exists_mem, List.any_eq_true]
  constructor
  · rintro ⟨y, hy⟩; rw [List.mem_filter] at hy; exact ⟨y, hy.1, hy.2⟩
  · rintro ⟨y, h1, h2⟩; exact ⟨y, List.mem_filter.2 ⟨h1, h2⟩⟩
theorem count_zero {xs : List Int} {x : Int} : countN xs x = 0 ↔ hasB xs x = false := by
  have := count_pos (xs := xs) (x := x)
  cases h : hasB xs x
  · rw [h] at this; simp at this; simp; exact this
  · rw [h] at this; simp at this; simp; omega
theorem waitsN_set : ∀ {ls : List Lk} {j : Nat} {l : Lk} (m : Lk) (x : Int), ls[j]? = some l → waitsN (ls.set j m) x + countN l.waits x = waitsN ls x + countN m.waits x
  | [], j, l, m, x, h => by simp at h
  | y :: r, 0, l, m, x, h => by
    simp at h
    subst h
    simp only [List.set_cons_zero, waitsN]
    omega
  | y :: r, j + 1, l, m, x, h => by
    have := waitsN_set (ls := r) (j := j) m x (by simpa using h)
    simp only [List.set_cons_succ, waitsN]
    omega
theorem waitsN_ge : ∀ {ls : List Lk} {j : Nat} {l : Lk} (x : Int), ls[j]? = some l → countN l.waits x ≤ waitsN ls x
  | [], j, l, x, h => by simp at h
  | y :: r, 0, l, x, h => by simp at h; subst h; simp only [waitsN]; omega
  | y :: r, j + 1, l, x, h => by
    have := waitsN_ge (ls := r) (j := j) x (by simpa using h)
    simp only [waitsN]; omega
theorem waitsN_zero {ls : List Lk} {x : Int} (h : ∀ (j : Nat) (l : Lk), ls[j]? = some l → hasB l.waits x = false) : waitsN ls x = 0 := by
  induction ls with
  | nil => rfl
  | cons y r ih =>
    have h0 := count_zero.2 (h 0 y rfl)
    have h1 := ih fun j l hl => h (j + 1) l (by simpa using hl)
    simp only [waitsN]; omega
/-- Who waits for one waits for no other. -/
theorem waits_once {ls : List Lk} {x : Int} (h1 : waitsN ls x = 1) {i j : Nat} {l m : Lk} (hl : ls[j]? = some l) (hx : hasB l.waits x = true) (hm : ls[i]? = some m) (hij : i ≠ j) : hasB m.waits x = false := by
  have e := waitsN_set (⟨0, []⟩ : Lk) x hl
  have c0 : countN ([] : List Int) x = 0 := rfl
  have cp := count_pos.2 hx
  rw [h1] at e
  simp only [c0] at e
  have hm' : (ls.set j (⟨0, []⟩ : Lk))[i]? = some m := by rw [List.getElem?_set_ne (Ne.symm hij)]; exact hm
  have := waitsN_ge x hm'
  exact count_zero.1 (by omega)

/-- What right locks are. -/
structure Right (ls : List Lk) : Prop where
  len : ls.length ≤ 5
  owner : ∀ (j : Nat) (l : Lk), ls[j]? = some l → 0 ≤ l.owner ∧ l.owner ≤ 1000
  free : ∀ (j : Nat) (l : Lk), ls[j]? = some l → l.owner = 0 → l.waits = []
  no : ∀ (j : Nat) (l : Lk) (x : Int), ls[j]? = some l → hasB l.waits x = true → 1 ≤ x ∧ x ≤ 1000
  once : ∀ (j : Nat) (l : Lk) (x : Int), ls[j]? = some l → hasB l.waits x = true → waitsN ls x = 1
  ends : ∀ (j : Nat) (l : Lk) (x : Int), ls[j]? = some l → hasB l.waits x = true → ∃ c, Ends ls x c
theorem right_iff {ls : List Lk} : locksB ls = true ↔ Right ls := by
  unfold locksB
  simp only [Bool.and_eq_true, decide_eq_true_eq, List.all_eq_true]
  have wb : ∀ x, waiterB ls x = true ↔ (∃ c, Ends ls x c) ∧ (1 ≤ x ∧ x ≤ 1000) ∧ waitsN ls x = 1 := by
    intro x
    unfold waiterB
    rw [Bool.and_eq_true, Bool.and_eq_true, chainN_iff, inB_iff, beq_iff_eq]
  have lb : ∀ l, lockB ls l = true ↔ (0 ≤ l.owner ∧ l.owner ≤ 1000) ∧ (l.owner = 0 → l.waits = []) ∧ ∀ x, hasB l.waits x = true → waiterB ls x = true := by
    intro l
    unfold lockB
    rw [Bool.and_eq_true, Bool.and_eq_true, inB_iff, List.all_eq_true]
    refine and_congr Iff.rfl (and_congr ?_ ?_)
    · rw [Bool.not_eq_true', Bool.and_eq_false_iff]
      constructor
      · rintro (h | h) e
        · simp [e] at h
        · simp at h; exact h
      · intro h
        by_cases e : l.owner = 0
        · right; rw [h e]; rfl
        · left; simpa using e
    · constructor
      · intro h x hx; exact h x (hasB_iff.1 hx)
      · intro h x hx; exact h x (hasB_iff.2 hx)
  constructor
  · rintro ⟨h1, h2⟩
    have key : ∀ (j : Nat) (l : Lk), ls[j]? = some l → lockB ls l = true := fun j l hl => h2 l (List.mem_of_getElem? hl)
    exact ⟨h1, fun j l hl => ((lb l).1 (key j l hl)).1, fun j l hl => ((lb l).1 (key j l hl)).2.1, fun j l x hl hx => ((wb x).1 (((lb l).1 (key j l hl)).2.2 x hx)).2.1, fun j l x hl hx => ((wb x).1 (((lb l).1 (key j l hl)).2.2 x hx)).2.2, fun j l x hl hx => ((wb x).1 (((lb l).1 (key j l hl)).2.2 x hx)).1⟩
  · intro R
    refine ⟨R.len, fun l hl => ?_⟩
    obtain ⟨j, hj, rfl⟩ := List.mem_iff_getElem.1 hl
    have e := List.getElem?_eq_getElem hj
    exact (lb _).2 ⟨R.owner j _ e, R.free j _ e, fun x hx => (wb x).2 ⟨R.ends j _ x e hx, R.no j _ x e hx, R.once j _ x e hx⟩⟩
theorem waitIx_same {ls ls' : List Lk} {x : Int} (hl : ls'.length = ls.length) (h : ∀ (j : Nat) (m m' : Lk), ls[j]? = some m → ls'[j]? = some m' → hasB m'.waits x = hasB m.waits x) : waitIx ls' x = waitIx ls x := by
  have get : ∀ (j : Nat) (m' : Lk), ls'[j]? = some m' → ∃ m, ls[j]? = some m := fun j m' hm => ⟨ls[j]'(by have := lt_some hm; omega), List.getElem?_eq_getElem _⟩
  cases hw : waitIx ls x with
  | none =>
    refine waitIx_of_none fun j m' hm => ?_
    obtain ⟨m, hm0⟩ := get j m' hm
    rw [h j m m' hm0 hm]; exact waitIx_none hw j m hm0
  | some i =>
    obtain ⟨l, hl1, hx, hmin⟩ := waitIx_some hw
    have hi : i < ls'.length := by have := lt_some hl1; omega
    refine waitIx_of (List.getElem?_eq_getElem hi) ?_ fun j m' hj hm => ?_
    · rw [h i l _ hl1 (List.getElem?_eq_getElem hi)]; exact hx
    · obtain ⟨m, hm0⟩ := get j m' hm
      rw [h j m m' hm0 hm]; exact hmin j m hj hm0
theorem ownerAt_set {ls : List Lk} {j i : Nat} {m : Lk} (h : i ≠ j) : ownerAt (ls.set j m) i = ownerAt ls i := by
  unfold ownerAt
  rw [List.getElem?_set_ne (Ne.symm h)]
theorem ownerAt_self {ls : List Lk} {j : Nat} {m : Lk} (h : j < ls.length) : ownerAt (ls.set j m) j = m.owner := by
  unfold ownerAt
  rw [List.getElem?_set_self h]
theorem hasB_append (xs ys : List Int) (x : Int) : hasB (xs ++ ys) x = (hasB xs x || hasB ys x) := by simp [hasB]
section wait
variable {ls : List Lk} {j : Nat} {l : Lk} {no : Int}
theorem waited_ix (hl : ls[j]? = some l) (hn : waitIx ls no = none) : (∀ x, x ≠ no → waitIx (ls.set j { l with waits := l.waits ++ [no] }) x = waitIx ls x) ∧ waitIx (ls.set j { l with waits := l.waits ++ [no] }) no = some j := by
  refine ⟨fun x hx => waitIx_same (by simp) fun i m m' hm hm' => ?_, waitIx_of (List.getElem?_set_self (lt_some hl)) (by simp [hasB]) fun i m hi hm => ?_⟩
  · rcases setAt hm' with ⟨rfl, rfl⟩ | ⟨_, h⟩
    · rw [hl] at hm; cases hm
      simp only [hasB_append]
      have : hasB [no] x = false := by simp [hasB]; exact fun e => hx e.symm
      rw [this, Bool.or_false]
    · rw [hm] at h; cases h; rfl
  · rcases setAt hm with ⟨rfl, _⟩ | ⟨_, h⟩
    · omega
    · exact waitIx_none hn i m h
theorem waited_owner (hl : ls[j]? = some l) (i : Nat) : ownerAt (ls.set j { l with waits := l.waits ++ [no] }) i = ownerAt ls i := by
  by_cases e : i = j
  · subst e; rw [ownerAt_self (lt_some hl), ownerAt_of hl]
  · exact ownerAt_set e
theorem waited_far (hl : ls[j]? = some l) (hn : waitIx ls no = none) : ∀ {c : List Int} {x : Int}, Ends ls x c → no ∉ c → Ends (ls.set j { l with waits := l.waits ++ [no] }) x c
  | [], _, h, _ => by rcases h.cases with ⟨_, e⟩ | ⟨_, _, _, e, _⟩ <;> cases e
  | y :: r, x, h, hc => by
    rcases h.cases with ⟨h1, e⟩ | ⟨i, r', h1, e, hr⟩
    · rw [e] at hc ⊢
      exact Ends.stop (((waited_ix hl hn).1 x (fun e => hc (by rw [e]; simp))).trans h1)
    · cases e
      refine Ends.step (((waited_ix hl hn).1 _ (fun e => hc (by rw [e]; simp))).trans h1) ?_
      rw [waited_owner hl]
      exact waited_far hl hn hr (fun h => hc (List.mem_cons_of_mem _ h))
theorem waited_near (hl : ls[j]? = some l) (hn : waitIx ls no = none) {d : List Int} (hd : Ends (ls.set j { l with waits := l.waits ++ [no] }) l.owner d) : ∀ {c : List Int} {x : Int}, Ends ls x c → no ∈ c → Ends (ls.set j { l with waits := l.waits ++ [no] }) x (c ++ d)
  | [], _, h, _ => by rcases h.cases with ⟨_, e⟩ | ⟨_, _, _, e, _⟩ <;> cases e
  | y :: r, x, h, hc => by
    rcases h.cases with ⟨h1, e⟩ | ⟨i, r', h1, e, hr⟩
    · rw [e] at hc ⊢
      have ex : x = no := by have := List.mem_singleton.1 hc; exact this.symm
      subst ex
      refine Ends.step (waited_ix hl hn).2 ?_
      rw [waited_owner hl, ownerAt_of hl]
      exact hd
    · cases e
      have hx : y ≠ no := fun e => by rw [e, hn] at h1; cases h1
      refine Ends.step (((waited_ix hl hn).1 y hx).trans h1) ?_
      rw [waited_owner hl]
      refine waited_near hl hn hd hr ?_
      rcases List.mem_cons.1 hc with e | e
      · exact absurd e.symm hx
      · exact e
/-- One more waits. -/
theorem Right.waited (R : Right ls) (hl : ls[j]? = some l) (h0 : l.owner ≠ 0) (hno : 1 ≤ no ∧ no ≤ 1000) (hn : waitIx ls no = none) {d : List Int} (hd : Ends ls l.owner d) (hnd : no ∉ d) :
    Right (ls.set j { l with waits := l.waits ++ [no] }) ∧ Ends (ls.set j { l with waits := l.waits ++ [no] }) no (no :: d) := by
  have hd' := waited_far hl hn hd hnd
  have e0 : Ends (ls.set j { l with waits := l.waits ++ [no] }) no (no :: d) := by
    refine Ends.step (waited_ix hl hn).2 ?_
    rw [waited_owner hl, ownerAt_of hl]
    exact hd'
  have hz : ∀ (i : Nat) (m : Lk), ls[i]? = some m → hasB m.waits no = false := waitIx_none hn
  have nsame : ∀ x, x ≠ no → waitsN (ls.set j { l with waits := l.waits ++ [no] }) x = waitsN ls x := fun x hx => by
    have := waitsN_set ({ l with waits := l.waits ++ [no] } : Lk) x hl
    have c : countN (l.waits ++ [no]) x = countN l.waits x := by
      unfold countN
      rw [List.filter_append]
      have : ([no].filter fun y => y == x) = [] := by simp; exact fun e => hx e.symm
      rw [this]; simp
    simp only [c] at this
    omega
  have none' : waitsN (ls.set j { l with waits := l.waits ++ [no] }) no = 1 := by
    have := waitsN_set ({ l with waits := l.waits ++ [no] } : Lk) no hl
    have c : countN (l.waits ++ [no]) no = countN l.waits no + 1 := by unfold countN; simp
    simp only [c] at this
    have := waitsN_zero hz
    omega
  have back : ∀ (i : Nat) (m : Lk) (x : Int), (ls.set j { l with waits := l.waits ++ [no] })[i]? = some m → hasB m.waits x = true → x = no ∨ ∃ (k : Nat) (m0 : Lk), ls[k]? = some m0 ∧ hasB m0.waits x = true := by
    intro i m x hm hx
    rcases setAt hm with ⟨rfl, rfl⟩ | ⟨_, h⟩
    · simp only [hasB_append, Bool.or_eq_true] at hx
      rcases hx with h | h
      · exact .inr ⟨i, l, hl, h⟩
      · left; simp [hasB] at h; exact h.symm
    · exact .inr ⟨i, m, h, hx⟩
  refine ⟨⟨by simpa using R.len, ?_, ?_, ?_, ?_, ?_⟩, e0⟩
  · intro i m hm
    rcases setAt hm with ⟨rfl, rfl⟩ | ⟨_, h⟩
    · exact R.owner i l hl
    · exact R.owner i m h
  · intro i m hm e
    rcases setAt hm with ⟨rfl, rfl⟩ | ⟨_, h⟩
    · exact absurd e h0
    · exact R.free i m h e
  · intro i m x hm hx
    rcases back i m x hm hx with rfl | ⟨k, m0, h1, h2⟩
    · exact hno
    · exact R.no k m0 x h1 h2
  · intro i m x hm hx
    by_cases e : x = no
    · rw [e]; exact none'
    · rcases back i m x hm hx with h | ⟨k, m0, h1, h2⟩
      · exact absurd h e
      · rw [nsame x e]; exact R.once k m0 x h1 h2
  · intro i m x hm hx
    rcases back i m x hm hx with rfl | ⟨k, m0, h1, h2⟩
    · exact ⟨_, e0⟩
    · obtain ⟨c, hc⟩ := R.ends k m0 x h1 h2
      by_cases h : no ∈ c
      · exact ⟨_, waited_near hl hn hd' hc h⟩
      · exact ⟨_, waited_far hl hn hc h⟩
end wait
end Go.Proofs.YtpikopdfkhagmaaGreatDoor
