/-
  Locks, as plain functions, and what holds of them.
-/
import Derived.Test.YtpikopdfkhagmaaDoorBase
namespace Go.Proofs.YtpikopdfkhagmaaDoor
open Go.RowKit

/-- A lock: who has it, and who waits for it. -/
structure Lk where
  owner : Int
  waits : List Int
def hasB (xs : List Int) (x : Int) : Bool := xs.any fun y => y == x
theorem hasB_iff {xs : List Int} {x : Int} : hasB xs x = true ↔ x ∈ xs := by simp [hasB]
def waitIx (ls : List Lk) (no : Int) : Option Nat := ls.findIdx? fun l => hasB l.waits no
def waitAt (ls : List Lk) (no : Int) : Int := match waitIx ls no with
  | some i => i
  | none => -1
def ownerAt (ls : List Lk) (i : Nat) : Int := match ls[i]? with
  | some l => l.owner
  | none => 0
/-- Whom one comes to, with so many steps to go; whether one comes to an end. -/
def chainN (ls : List Lk) : Nat → Int → List Int × Bool
  | 0, no => ([no], false)
  | f + 1, no => match waitIx ls no with
    | none => ([no], true)
    | some i => (no :: (chainN ls f (ownerAt ls i)).1, (chainN ls f (ownerAt ls i)).2)
def countN (xs : List Int) (no : Int) : Nat := (xs.filter fun y => y == no).length
def waitsN : List Lk → Int → Nat
  | [], _ => 0
  | l :: r, no => countN l.waits no + waitsN r no
def waiterB (ls : List Lk) (no : Int) : Bool := (chainN ls (ls.length + 1) no).2 && (inB no 1 1000 && waitsN ls no == 1)
def lockB (ls : List Lk) (l : Lk) : Bool := inB l.owner 0 1000 && (!(l.owner == 0 && decide (0 < l.waits.length)) && l.waits.all (waiterB ls))
def locksB (ls : List Lk) : Bool := decide (ls.length ≤ 5) && ls.all (lockB ls)
def chainL (ls : List Lk) (no : Int) : List Int := if locksB ls then (chainN ls (ls.length + 1) no).1 else []
def setOwner (no : Int) (l : Lk) : Lk := { l with owner := no }
def addWait (no : Int) (l : Lk) : Lk := { l with waits := l.waits ++ [no] }
def lessL (xs : List Int) (x : Int) : List Int := xs.filter fun y => y != x
def freed (next : Int) (l : Lk) : Lk := ⟨next, lessL l.waits next⟩
/-- What asking says. -/
def askN (ls : List Lk) (i no : Int) : Int :=
  if !locksB ls then 2 else if !inB i 0 ((ls.length : Int) - 1) || (!inB no 1 1000 || decide (0 ≤ waitAt ls no)) then 2
  else if ownerAt ls i.toNat == no then 3 else if ownerAt ls i.toNat == 0 then 0 else if hasB (chainL ls (ownerAt ls i.toNat)) no then 4 else 1
def askL (ls : List Lk) (i no : Int) : List Lk :=
  if !locksB ls then [] else if askN ls i no == 0 then ls.modify i.toNat (setOwner no) else if askN ls i no == 1 then ls.modify i.toNat (addWait no) else ls
section chains
variable {ls : List Lk}
theorem waitIx_some {no : Int} {i : Nat} (h : waitIx ls no = some i) : ∃ l, ls[i]? = some l ∧ hasB l.waits no = true ∧ ∀ j m, j < i → ls[j]? = some m → hasB m.waits no = false := by
  obtain ⟨hi, h1, h2⟩ := List.findIdx?_eq_some_iff_getElem.1 h
  refine ⟨ls[i], List.getElem?_eq_getElem hi, h1, fun j m hj hm => ?_⟩
  have hj' : j < ls.length := by omega
  rw [List.getElem?_eq_getElem hj'] at hm
  cases hm
  simpa using h2 j hj
theorem waitIx_none {no : Int} (h : waitIx ls no = none) : ∀ (j : Nat) (m : Lk), ls[j]? = some m → hasB m.waits no = false := by
  intro j m hm
  have := List.findIdx?_eq_none_iff.1 h m (List.mem_of_getElem? hm)
  simpa using this
theorem waitIx_of {no : Int} {i : Nat} {l : Lk} (h0 : ls[i]? = some l) (h1 : hasB l.waits no = true) (h2 : ∀ j m, j < i → ls[j]? = some m → hasB m.waits no = false) : waitIx ls no = some i := by
  have hi : i < ls.length := by
    rcases Nat.lt_or_ge i ls.length with h | h
    · exact h
    · rw [List.getElem?_eq_none h] at h0; cases h0
  refine List.findIdx?_eq_some_iff_getElem.2 ⟨hi, ?_, fun j hj => ?_⟩
  · rw [List.getElem?_eq_getElem hi] at h0; cases h0; exact h1
  · simpa using h2 j ls[j] hj (List.getElem?_eq_getElem _)
theorem waitIx_of_none {no : Int} (h : ∀ (j : Nat) (m : Lk), ls[j]? = some m → hasB m.waits no = false) : waitIx ls no = none := by
  refine List.findIdx?_eq_none_iff.2 fun m hm => ?_
  obtain ⟨j, hj, rfl⟩ := List.mem_iff_getElem.1 hm
  simpa using h j _ (List.getElem?_eq_getElem hj)
theorem ownerAt_of {i : Nat} {l : Lk} (h : ls[i]? = some l) : ownerAt ls i = l.owner := by simp [ownerAt, h]

theorem chainN_end {f : Nat} {no : Int} (h : waitIx ls no = none) : chainN ls (f + 1) no = ([no], true) := by simp [chainN, h]
theorem chainN_step {f : Nat} {no : Int} {i : Nat} (h : waitIx ls no = some i) : chainN ls (f + 1) no = (no :: (chainN ls f (ownerAt ls i)).1, (chainN ls f (ownerAt ls i)).2) := by simp [chainN, h]
/-- One comes to an end, by the way c. -/
def Ends (ls : List Lk) (no : Int) (c : List Int) : Prop := ∃ f, chainN ls f no = (c, true)
theorem Ends.cases {no : Int} {c : List Int} (h : Ends ls no c) : (waitIx ls no = none ∧ c = [no]) ∨ ∃ i r, waitIx ls no = some i ∧ c = no :: r ∧ Ends ls (ownerAt ls i) r := by
  obtain ⟨f, h⟩ := h
  cases f with
  | zero => simp [chainN] at h
  | succ f =>
    cases hw : waitIx ls no with
    | none => rw [chainN_end hw] at h; cases h; exact .inl ⟨rfl, rfl⟩
    | some i =>
      rw [chainN_step hw] at h
      simp only [Prod.mk.injEq] at h
      exact .inr ⟨i, _, rfl, h.1.symm, f, Prod.ext rfl h.2⟩
theorem Ends.stop {no : Int} (h : waitIx ls no = none) : Ends ls no [no] := ⟨1, chainN_end h⟩
theorem Ends.step {no : Int} {i : Nat} {r : List Int} (h : waitIx ls no = some i) (hr : Ends ls (ownerAt ls i) r) : Ends ls no (no :: r) := by
  obtain ⟨f, hf⟩ := hr
  exact ⟨f + 1, by rw [chainN_step h, hf]⟩
theorem Ends.one : ∀ {c d : List Int} {no : Int}, Ends ls no c → Ends ls no d → c = d
  | [], _, _, h, _ => by rcases h.cases with ⟨_, e⟩ | ⟨_, _, _, e, _⟩ <;> cases e
  | x :: r, d, no, h, h' => by
    rcases h.cases with ⟨hw, e⟩ | ⟨i, r', hw, e, hr⟩
    · rcases h'.cases with ⟨_, e'⟩ | ⟨i', _, hw', _, _⟩
      · rw [e, e']
      · rw [hw] at hw'; cases hw'
    · cases e
      rcases h'.cases with ⟨hw', _⟩ | ⟨i', r'', hw', e', hr'⟩
      · rw [hw] at hw'; cases hw'
      · rw [hw] at hw'; cases hw'
        rw [e', Ends.one hr hr']
/-- With as many steps as the way has. -/
theorem Ends.fuel : ∀ {c : List Int} {no : Int}, Ends ls no c → ∀ g, c.length ≤ g → chainN ls g no = (c, true)
  | [], _, h, _, _ => by rcases h.cases with ⟨_, e⟩ | ⟨_, _, _, e, _⟩ <;> cases e
  | x :: r, no, h, 0, hg => by simp at hg
  | x :: r, no, h, g + 1, hg => by
    rcases h.cases with ⟨hw, e⟩ | ⟨i, r', hw, e, hr⟩
    · rw [chainN_end hw, e]
    · cases e
      rw [chainN_step hw, Ends.fuel hr g (by simpa using hg)]
theorem Ends.len {no : Int} {c : List Int} {f : Nat} (h : chainN ls f no = (c, true)) : Ends ls no c := ⟨f, h⟩
theorem Ends.head {no : Int} {c : List Int} (h : Ends ls no c) : c[0]? = some no := by
  rcases h.cases with ⟨_, rfl⟩ | ⟨_, _, _, rfl, _⟩ <;> rfl
theorem Ends.pos {no : Int} {c : List Int} (h : Ends ls no c) : 0 < c.length := by
  rcases h.cases with ⟨_, rfl⟩ | ⟨_, _, _, rfl, _⟩ <;> simp
/-- From each of a way on it goes as from there. -/
theorem Ends.drop : ∀ {p : Nat} {c : List Int} {no y : Int}, Ends ls no c → c[p]? = some y → Ends ls y (c.drop p)
  | 0, c, no, y, h, hy => by
    rw [h.head] at hy
    cases hy
    simpa using h
  | p + 1, c, no, y, h, hy => by
    rcases h.cases with ⟨_, rfl⟩ | ⟨i, r, _, rfl, hr⟩
    · simp at hy
    · have := Ends.drop (p := p) hr (by simpa using hy)
      simpa using this
theorem Ends.nodup {c : List Int} {no : Int} (h : Ends ls no c) {p q : Nat} {y : Int} (hp : c[p]? = some y) (hq : c[q]? = some y) : p = q := by
  have e := Ends.one (h.drop hp) (h.drop hq)
  have lp : p < c.length := by
    rcases Nat.lt_or_ge p c.length with h | h
    · exact h
    · rw [List.getElem?_eq_none h] at hp; cases hp
  have lq : q < c.length := by
    rcases Nat.lt_or_ge q c.length with h | h
    · exact h
    · rw [List.getElem?_eq_none h] at hq; cases hq
  have := congrArg List.length e
  simp only [List.length_drop] at this
  omega
/-- The next one is the owner of what one waits for. -/
theorem Ends.next {c : List Int} {no : Int} (h : Ends ls no c) {p : Nat} {y z : Int} (hp : c[p]? = some y) (hz : c[p + 1]? = some z) : ∃ i, waitIx ls y = some i ∧ ownerAt ls i = z := by
  rcases (h.drop hp).cases with ⟨_, e⟩ | ⟨i, r, hw, e, hr⟩
  · have : (c.drop p)[1]? = some z := by rw [List.getElem?_drop, ← hz]
    rw [e] at this; simp at this
  · have : (c.drop p)[1]? = some z := by rw [List.getElem?_drop, ← hz]
    rw [e] at this
    have h0 := hr.head
    simp only [List.getElem?_cons_succ] at this
    rw [h0] at this
    exact ⟨i, hw, by simpa using this⟩
theorem Ends.last {c : List Int} {no : Int} (h : Ends ls no c) {p : Nat} {y : Int} (hp : c[p]? = some y) (hl : p + 1 = c.length) : waitIx ls y = none := by
  rcases (h.drop hp).cases with ⟨hw, _⟩ | ⟨i, r, hw, e, hr⟩
  · exact hw
  · have := congrArg List.length e
    have := hr.pos
    simp only [List.length_drop, List.length_cons] at *
    omega
theorem inj_le : ∀ (n m : Nat) (f : Nat → Nat), (∀ i, i < m → f i < n) → (∀ i j, i < m → j < m → f i = f j → i = j) → m ≤ n
  | 0, m, f, h, _ => by
    rcases Nat.eq_zero_or_pos m with e | e
    · omega
    · exact absurd (h 0 e) (Nat.not_lt_zero _)
  | n + 1, m, f, h, hi => by
    by_cases hx : ∃ k, k < m ∧ f k = n
    · obtain ⟨k, hk, e⟩ := hx
      have := inj_le n (m - 1) (fun i => f (if i < k then i else i + 1)) (fun i hm => by
        split
        · have h1 := h i (by omega)
          have h2 : f i ≠ n := fun h3 => by have := hi i k (by omega) hk (h3.trans e.symm); omega
          omega
        · have h1 := h (i + 1) (by omega)
          have h2 : f (i + 1) ≠ n := fun h3 => by have := hi (i + 1) k (by omega) hk (h3.trans e.symm); omega
          omega) (fun i j hm hj he => by
        split at he <;> split at he <;> (have := hi _ _ (by omega) (by omega) he; omega))
      omega
    · have := inj_le n m f (fun i hm => by
        have h1 := h i hm
        have h2 : f i ≠ n := fun h3 => hx ⟨i, hm, h3⟩
        omega) hi
      omega
/-- A way that ends has no more steps than there are locks. -/
theorem Ends.bound {c : List Int} {no : Int} (h : Ends ls no c) : c.length ≤ ls.length + 1 := by
  have key : ∀ p, p < c.length - 1 → ∃ i, waitIx ls (c.getD p 0) = some i ∧ i < ls.length ∧ ownerAt ls i = c.getD (p + 1) 0 := by
    intro p hp
    have h1 : c[p]? = some (c.getD p 0) := by rw [List.getD_eq_getElem?_getD, List.getElem?_eq_getElem (by omega)]; rfl
    have h2 : c[p + 1]? = some (c.getD (p + 1) 0) := by rw [List.getD_eq_getElem?_getD, List.getElem?_eq_getElem (by omega)]; rfl
    obtain ⟨i, hi, ho⟩ := h.next h1 h2
    obtain ⟨l, hl, _⟩ := waitIx_some hi
    refine ⟨i, hi, ?_, ho⟩
    rcases Nat.lt_or_ge i ls.length with h | h
    · exact h
    · rw [List.getElem?_eq_none h] at hl; cases hl
  have := inj_le ls.length (c.length - 1) (fun p => (waitIx ls (c.getD p 0)).getD 0) (fun p hp => by
    obtain ⟨i, hi, hlt, _⟩ := key p hp
    simp only [hi, Option.getD_some]; exact hlt) (fun p q hp hq e => by
    obtain ⟨i, hi, _, ho⟩ := key p hp
    obtain ⟨j, hj, _, ho'⟩ := key q hq
    simp only [hi, hj, Option.getD_some] at e
    subst e
    have h1 : c[p + 1]? = some (c.getD (p + 1) 0) := by rw [List.getD_eq_getElem?_getD, List.getElem?_eq_getElem (by omega)]; rfl
    have h2 : c[q + 1]? = some (c.getD (q + 1) 0) := by rw [List.getD_eq_getElem?_getD, List.getElem?_eq_getElem (by omega)]; rfl
    rw [← ho, ho'] at h1
    have := h.nodup h1 h2
    omega)
  omega
theorem chainN_iff {no : Int} : (chainN ls (ls.length + 1) no).2 = true ↔ ∃ c, Ends ls no c := by
  constructor
  · intro h; exact ⟨(chainN ls (ls.length + 1) no).1, _, Prod.ext rfl h⟩
  · rintro ⟨c, h⟩; rw [h.fuel _ h.bound]
theorem Ends.is {no : Int} {c : List Int} (h : Ends ls no c) : chainN ls (ls.length + 1) no = (c, true) := h.fuel _ h.bound
end chains
end Go.Proofs.YtpikopdfkhagmaaDoor
