/-
  Locks, as plain functions, and what holds of them. Locks: w
-/
import Derived.Test.YthpdlbcdbncnhaaGreatDoorGBase1
import Derived.Test.YthpdlbcdbncnhaaGreatDoorGTask2
namespace Go.Proofs.YthpdlbcdbncnhaaGreatDoor
open Go.RowKit
structure Lk where
 owner : Int
 waits : List Int
def hasB (xs : List Int) (x : Int) : Bool := xs.any fun y => y == x
theorem qcE {xs : List Int} {x : Int} : hasB xs x = true ↔ x ∈ xs := by simp [hasB]
theorem qe5 {xs : List Int} {x : Int} : hasB xs x = false ↔ x ∉ xs := by rw [<- qcE]; simp
def qax (ls : List Lk) (no : Int) : Option Nat := ls.findIdx? fun l => hasB l.waits no
def qaI (ls : List Lk) (no : Int) : Int := match qax ls no with
 | some i => i
 | none => -1
def qaD (ls : List Lk) (i : Nat) : Int := match ls[i]? with
 | some l => l.owner
 | none => 0
def qao (ls : List Lk) : Nat -> Int -> List Int × Bool
 | 0, no => ([no], false)
 | f + 1, no => match qax ls no with
  | none => ([no], true)
  | some i => (no :: (qao ls f (qaD ls i)).1, (qao ls f (qaD ls i)).2)
def qaN (xs : List Int) (no : Int) : Nat := (xs.filter fun y => y == no).length
def qaF : List Lk -> Int -> Nat
 | [], _ => 0
 | l :: r, no => qaN l.waits no + qaF r no
def qbA (ls : List Lk) (no : Int) : Bool := (qao ls (ls.length + 1) no).2 && (inB no 1 1000 && qaF ls no == 1)
def qbv (ls : List Lk) (l : Lk) : Bool := inB l.owner 0 1000 && (!(l.owner == 0 && decide (0 < l.waits.length)) && l.waits.all (qbA ls))
def qaw (ls : List Lk) : Bool := decide (ls.length <= 5) && ls.all (qbv ls)
def qbm (ls : List Lk) (no : Int) : List Int := if qaw ls then (qao ls (ls.length + 1) no).1 else []
def qcc (ls : List Lk) (no : Int) : Bool := ls.any fun l => no != 0 && l.owner == no
def qcd (no : Int) (l : Lk) : Lk := { l with owner := no }
def qel (no : Int) (l : Lk) : Lk := { l with waits := l.waits ++ [no] }
def qbb (xs : List Int) (x : Int) : List Int := xs.filter fun y => y != x
def qdx (next : Int) (l : Lk) : Lk := ⟨next, qbb l.waits next⟩
def askN (ls : List Lk) (i no : Int) : Int :=
 if !qaw ls then 2 else if !inB i 0 ((ls.length : Int) - 1) || (!inB no 1 1000 || decide (0 <= qaI ls no)) then 2
 else if qaD ls i.toNat == no then 3 else if qaD ls i.toNat == 0 then 0 else if hasB (qbm ls (qaD ls i.toNat)) no then 4 else 1
def askL (ls : List Lk) (i no : Int) : List Lk :=
 if !qaw ls then [] else if askN ls i no == 0 then ls.modify i.toNat (qcd no) else if askN ls i no == 1 then ls.modify i.toNat (qel no) else ls
def qcF (ls : List Lk) (i : Nat) : List Int := match ls[i]? with
 | some l => l.waits
 | none => []
def qdV (xs : List Int) (next : Int) : Bool := if xs.length == 0 then next == 0 else hasB xs next
def qbn (ls : List Lk) (i no next : Int) : Bool :=
 qaw ls && (inB i 0 ((ls.length : Int) - 1) && (!(no == 0) && (qaD ls i.toNat == no && qdV (qcF ls i.toNat) next)))
def qaV (ls : List Lk) (i no next : Int) : List Lk :=
 if !qaw ls then [] else if qbn ls i no next then ls.modify i.toNat (qdx next) else ls
section chains
variable {ls : List Lk}
theorem qc1 {no : Int} {i : Nat} (h : qax ls no = some i) : ∃ l, ls[i]? = some l /\ hasB l.waits no = true /\ ∀ j m, j < i -> ls[j]? = some m -> hasB m.waits no = false := by
 obtain ⟨hi, h1, h2⟩ := List.findIdx?_eq_some_iff_getElem.1 h
 refine ⟨ls[i], List.getElem?_eq_getElem hi, h1, fun j m hj hm => ?_⟩
 have hj' : j < ls.length := by omega
 rw [List.getElem?_eq_getElem hj'] at hm
 cases hm
 simpa using h2 j hj
theorem qem {no : Int} (h : qax ls no = none) : ∀ (j : Nat) (m : Lk), ls[j]? = some m -> hasB m.waits no = false := by
 intro j m hm
 have := List.findIdx?_eq_none_iff.1 h m (List.mem_of_getElem? hm)
 simpa using this
theorem qe6 {no : Int} {i : Nat} {l : Lk} (h0 : ls[i]? = some l) (h1 : hasB l.waits no = true) (h2 : ∀ j m, j < i -> ls[j]? = some m -> hasB m.waits no = false) : qax ls no = some i := by
 have hi : i < ls.length := by
  rcases Nat.lt_or_ge i ls.length with h | h
  ·exact h
  ·rw [List.getElem?_eq_none h] at h0; cases h0
 refine List.findIdx?_eq_some_iff_getElem.2 ⟨hi, ?_, fun j hj => ?_⟩
 ·rw [List.getElem?_eq_getElem hi] at h0; cases h0; exact h1
 ·simpa using h2 j ls[j] hj (List.getElem?_eq_getElem _)
theorem qe7 {no : Int} (h : ∀ (j : Nat) (m : Lk), ls[j]? = some m -> hasB m.waits no = false) : qax ls no = none := by
 refine List.findIdx?_eq_none_iff.2 fun m hm => ?_
 obtain ⟨j, hj, rfl⟩ := List.mem_iff_getElem.1 hm
 simpa using h j _ (List.getElem?_eq_getElem hj)
theorem qbK {i : Nat} {l : Lk} (h : ls[i]? = some l) : qaD ls i = l.owner := by simp [qaD, h]
theorem qdy {f : Nat} {no : Int} (h : qax ls no = none) : qao ls (f + 1) no = ([no], true) := by simp [qao, h]
theorem qdz {f : Nat} {no : Int} {i : Nat} (h : qax ls no = some i) : qao ls (f + 1) no = (no :: (qao ls f (qaD ls i)).1, (qao ls f (qaD ls i)).2) := by simp [qao, h]
def Ends (ls : List Lk) (no : Int) (c : List Int) : Prop := ∃ f, qao ls f no = (c, true)
theorem Ends.cases {no : Int} {c : List Int} (h : Ends ls no c) : (qax ls no = none /\ c = [no]) ∨ ∃ i r, qax ls no = some i /\ c = no :: r /\ Ends ls (qaD ls i) r := by
 obtain ⟨f, h⟩ := h
 cases f with
 | zero => simp [qao] at h
 | succ f =>
  cases hw : qax ls no with
  | none => rw [qdy hw] at h; cases h; exact .inl ⟨rfl, rfl⟩
  | some i =>
   rw [qdz hw] at h
   simp only [Prod.mk.injEq] at h
   exact .inr ⟨i, _, rfl, h.1.symm, f, Prod.ext rfl h.2⟩
theorem Ends.stop {no : Int} (h : qax ls no = none) : Ends ls no [no] := ⟨1, qdy h⟩
theorem Ends.step {no : Int} {i : Nat} {r : List Int} (h : qax ls no = some i) (hr : Ends ls (qaD ls i) r) : Ends ls no (no :: r) := by
 obtain ⟨f, hf⟩ := hr
 exact ⟨f + 1, by rw [qdz h, hf]⟩
theorem Ends.one : ∀ {c d : List Int} {no : Int}, Ends ls no c -> Ends ls no d -> c = d
 | [], _, _, h, _ => by rcases h.cases with ⟨_, e⟩ | ⟨_, _, _, e, _⟩ <;> cases e
 | x :: r, d, no, h, h' => by
  rcases h.cases with ⟨hw, e⟩ | ⟨i, r', hw, e, hr⟩
  ·rcases h'.cases with ⟨_, e'⟩ | ⟨i', _, hw', _, _⟩
   ·rw [e, e']
   ·rw [hw] at hw'; cases hw'
  ·cases e
   rcases h'.cases with ⟨hw', _⟩ | ⟨i', r'', hw', e', hr'⟩
   ·rw [hw] at hw'; cases hw'
   ·rw [hw] at hw'; cases hw'
    rw [e', Ends.one hr hr']
theorem Ends.fuel : ∀ {c : List Int} {no : Int}, Ends ls no c -> ∀ g, c.length <= g -> qao ls g no = (c, true)
 | [], _, h, _, _ => by rcases h.cases with ⟨_, e⟩ | ⟨_, _, _, e, _⟩ <;> cases e
 | x :: r, no, h, 0, hg => by simp at hg
 | x :: r, no, h, g + 1, hg => by
  rcases h.cases with ⟨hw, e⟩ | ⟨i, r', hw, e, hr⟩
  ·rw [qdy hw, e]
  ·cases e
   rw [qdz hw, Ends.fuel hr g (by simpa using hg)]
theorem Ends.head {no : Int} {c : List Int} (h : Ends ls no c) : c[0]? = some no := by
 rcases h.cases with ⟨_, rfl⟩ | ⟨_, _, _, rfl, _⟩ <;> rfl
theorem Ends.drop : ∀ {p : Nat} {c : List Int} {no y : Int}, Ends ls no c -> c[p]? = some y -> Ends ls y (c.drop p)
 | 0, c, no, y, h, hy => by
  rw [h.head] at hy
  cases hy
  simpa using h
 | p + 1, c, no, y, h, hy => by
  rcases h.cases with ⟨_, rfl⟩ | ⟨i, r, _, rfl, hr⟩
  ·simp at hy
  ·have := Ends.drop (p := p) hr (by simpa using hy)
   simpa using this
theorem Ends.nodup {c : List Int} {no : Int} (h : Ends ls no c) {p q : Nat} {y : Int} (hp : c[p]? = some y) (hq : c[q]? = some y) : p = q := by
 have e := Ends.one (h.drop hp) (h.drop hq)
 have lp : p < c.length := by
  rcases Nat.lt_or_ge p c.length with h | h
  ·exact h
  ·rw [List.getElem?_eq_none h] at hp; cases hp
 have lq : q < c.length := by
  rcases Nat.lt_or_ge q c.length with h | h
  ·exact h
  ·rw [List.getElem?_eq_none h] at hq; cases hq
 have := congrArg List.length e
 simp only [List.length_drop] at this
 omega
theorem Ends.next {c : List Int} {no : Int} (h : Ends ls no c) {p : Nat} {y z : Int} (hp : c[p]? = some y) (hz : c[p + 1]? = some z) : ∃ i, qax ls y = some i /\ qaD ls i = z := by
 rcases (h.drop hp).cases with ⟨_, e⟩ | ⟨i, r, hw, e, hr⟩
 ·have : (c.drop p)[1]? = some z := by rw [List.getElem?_drop, <- hz]
  rw [e] at this; simp at this
 ·have : (c.drop p)[1]? = some z := by rw [List.getElem?_drop, <- hz]
  rw [e] at this
  have h0 := hr.head
  simp only [List.getElem?_cons_succ] at this
  rw [h0] at this
  exact ⟨i, hw, by simpa using this⟩
theorem qen : ∀ (n m : Nat) (f : Nat -> Nat), (∀ i, i < m -> f i < n) -> (∀ i j, i < m -> j < m -> f i = f j -> i = j) -> m <= n
 | 0, m, f, h, _ => by
  rcases Nat.eq_zero_or_pos m with e | e
  ·omega
  ·exact absurd (h 0 e) (Nat.not_lt_zero _)
 | n + 1, m, f, h, hi => by
  by_cases hx : ∃ k, k < m /\ f k = n
  ·obtain ⟨k, hk, e⟩ := hx
   have := qen n (m - 1) (fun i => f (if i < k then i else i + 1)) (fun i hm => by
    split
    ·have h1 := h i (by omega)
     have h2 : f i ≠ n := fun h3 => by have := hi i k (by omega) hk (h3.trans e.symm); omega
     omega
    ·have h1 := h (i + 1) (by omega)
     have h2 : f (i + 1) ≠ n := fun h3 => by have := hi (i + 1) k (by omega) hk (h3.trans e.symm); omega
     omega) (fun i j hm hj he => by
    split at he <;> split at he <;> (have := hi _ _ (by omega) (by omega) he; omega))
   omega
  ·have := qen n m f (fun i hm => by
    have h1 := h i hm
    have h2 : f i ≠ n := fun h3 => hx ⟨i, hm, h3⟩
    omega) hi
   omega
theorem Ends.bound {c : List Int} {no : Int} (h : Ends ls no c) : c.length <= ls.length + 1 := by
 have key : ∀ p, p < c.length - 1 -> ∃ i, qax ls (c.getD p 0) = some i /\ i < ls.length /\ qaD ls i = c.getD (p + 1) 0 := by
  intro p hp
  have h1 : c[p]? = some (c.getD p 0) := by rw [List.getD_eq_getElem?_getD, List.getElem?_eq_getElem (by omega)]; rfl
  have h2 : c[p + 1]? = some (c.getD (p + 1) 0) := by rw [List.getD_eq_getElem?_getD, List.getElem?_eq_getElem (by omega)]; rfl
  obtain ⟨i, hi, ho⟩ := h.next h1 h2
  obtain ⟨l, hl, _⟩ := qc1 hi
  refine ⟨i, hi, ?_, ho⟩
  rcases Nat.lt_or_ge i ls.length with h | h
  ·exact h
  ·rw [List.getElem?_eq_none h] at hl; cases hl
 have := qen ls.length (c.length - 1) (fun p => (qax ls (c.getD p 0)).getD 0) (fun p hp => by
  obtain ⟨i, hi, hlt, _⟩ := key p hp
  simp only [hi, Option.getD_some]; exact hlt) (fun p q hp hq e => by
  obtain ⟨i, hi, _, ho⟩ := key p hp
  obtain ⟨j, hj, _, ho'⟩ := key q hq
  simp only [hi, hj, Option.getD_some] at e
  subst e
  have h1 : c[p + 1]? = some (c.getD (p + 1) 0) := by rw [List.getD_eq_getElem?_getD, List.getElem?_eq_getElem (by omega)]; rfl
  have h2 : c[q + 1]? = some (c.getD (q + 1) 0) := by rw [List.getD_eq_getElem?_getD, List.getElem?_eq_getElem (by omega)]; rfl
  rw [<- ho, ho'] at h1
  have := h.nodup h1 h2
  omega)
 omega
theorem qe8 {no : Int} : (qao ls (ls.length + 1) no).2 = true ↔ ∃ c, Ends ls no c := by
 constructor
 ·intro h; exact ⟨(qao ls (ls.length + 1) no).1, _, Prod.ext rfl h⟩
 ·rintro ⟨c, h⟩; rw [h.fuel _ h.bound]
theorem Ends.is {no : Int} {c : List Int} (h : Ends ls no c) : qao ls (ls.length + 1) no = (c, true) := h.fuel _ h.bound
end chains
theorem qdi {α : Type} {xs : List α} {k : Nat} {x : α} (h : xs[k]? = some x) : k < xs.length := by
 rcases Nat.lt_or_ge k xs.length with h' | h'
 ·exact h'
 ·rw [List.getElem?_eq_none h'] at h; cases h
theorem qbf {ls : List Lk} {k i : Nat} {m y : Lk} (h : (ls.set k y)[i]? = some m) : (i = k /\ m = y) ∨ (i ≠ k /\ ls[i]? = some m) := by
 by_cases e : k = i
 ·subst e
  have hl : k < ls.length := by have := qdi h; simpa using this
  rw [List.getElem?_set_self hl] at h
  cases h; exact .inl ⟨rfl, rfl⟩
 ·rw [List.getElem?_set_ne e] at h
  exact .inr ⟨Ne.symm e, h⟩
theorem qgy {ls : List Lk} {i : Nat} {l : Lk} (h : ls[i]? = some l) (f : Lk -> Lk) : ls.modify i f = ls.set i (f l) := by
 apply List.ext_getElem?
 intro j
 by_cases e : i = j
 ·subst e
  rw [List.getElem?_modify, List.getElem?_set_self (qdi h), h]
  simp
 ·rw [List.getElem?_modify, List.getElem?_set_ne e]
  simp [e]
theorem qgz {xs : List Int} {x : Int} : 0 < qaN xs x ↔ hasB xs x = true := by
 unfold qaN hasB
 rw [List.length_pos_iff_exists_mem, List.any_eq_true]
 constructor
 ·rintro ⟨y, hy⟩; rw [List.mem_filter] at hy; exact ⟨y, hy.1, hy.2⟩
 ·rintro ⟨y, h1, h2⟩; exact ⟨y, List.mem_filter.2 ⟨h1, h2⟩⟩
theorem qgA {xs : List Int} {x : Int} : qaN xs x = 0 ↔ hasB xs x = false := by
 have := qgz (xs := xs) (x := x)
 cases h : hasB xs x
 ·rw [h] at this; simp at this; simp; exact this
 ·rw [h] at this; simp at this; simp; omega
theorem qeo : ∀ {ls : List Lk} {j : Nat} {l : Lk} (m : Lk) (x : Int), ls[j]? = some l -> qaF (ls.set j m) x + qaN l.waits x = qaF ls x + qaN m.waits x
 | [], j, l, m, x, h => by simp at h
 | y :: r, 0, l, m, x, h => by
  simp at h
  subst h
  simp only [List.set_cons_zero, qaF]
  omega
 | y :: r, j + 1, l, m, x, h => by
  have := qeo (ls := r) (j := j) m x (by simpa using h)
  simp only [List.set_cons_succ, qaF]
  omega
theorem qkc {ls : List Lk} {x : Int} (h : ∀ (j : Nat) (l : Lk), ls[j]? = some l -> hasB l.waits x = false) : qaF ls x = 0 := by
 induction ls with
 | nil => rfl
 | cons y r ih =>
  have h0 := qgA.2 (h 0 y rfl)
  have h1 := ih fun j l hl => h (j + 1) l (by simpa using hl)
  simp only [qaF]; omega
structure Right (ls : List Lk) : Prop where
 len : ls.length <= 5
 owner : ∀ (j : Nat) (l : Lk), ls[j]? = some l -> 0 <= l.owner /\ l.owner <= 1000
 free : ∀ (j : Nat) (l : Lk), ls[j]? = some l -> l.owner = 0 -> l.waits = []
 no : ∀ (j : Nat) (l : Lk) (x : Int), ls[j]? = some l -> hasB l.waits x = true -> 1 <= x /\ x <= 1000
 once : ∀ (j : Nat) (l : Lk) (x : Int), ls[j]? = some l -> hasB l.waits x = true -> qaF ls x = 1
 ends : ∀ (j : Nat) (l : Lk) (x : Int), ls[j]? = some l -> hasB l.waits x = true -> ∃ c, Ends ls x c
theorem qdW {ls : List Lk} : qaw ls = true ↔ Right ls := by
 unfold qaw
 simp only [Bool.and_eq_true, decide_eq_true_eq, List.all_eq_true]
 have wb : ∀ x, qbA ls x = true ↔ (∃ c, Ends ls x c) /\ (1 <= x /\ x <= 1000) /\ qaF ls x = 1 := by
  intro x
  unfold qbA
  rw [Bool.and_eq_true, Bool.and_eq_true, qe8, qau, beq_iff_eq]
 have lb : ∀ l, qbv ls l = true ↔ (0 <= l.owner /\ l.owner <= 1000) /\ (l.owner = 0 -> l.waits = []) /\ ∀ x, hasB l.waits x = true -> qbA ls x = true := by
  intro l
  unfold qbv
  rw [Bool.and_eq_true, Bool.and_eq_true, qau, List.all_eq_true]
  refine and_congr Iff.rfl (and_congr ?_ ?_)
  ·rw [Bool.not_eq_true', Bool.and_eq_false_iff]
   constructor
   ·rintro (h | h) e
    ·simp [e] at h
    ·simp at h; exact h
   ·intro h
    by_cases e : l.owner = 0
    ·right; rw [h e]; rfl
    ·left; simpa using e
  ·constructor
   ·intro h x hx; exact h x (qcE.1 hx)
   ·intro h x hx; exact h x (qcE.2 hx)
 constructor
 ·rintro ⟨h1, h2⟩
  have key : ∀ (j : Nat) (l : Lk), ls[j]? = some l -> qbv ls l = true := fun j l hl => h2 l (List.mem_of_getElem? hl)
  exact ⟨h1, fun j l hl => ((lb l).1 (key j l hl)).1, fun j l hl => ((lb l).1 (key j l hl)).2.1, fun j l x hl hx => ((wb x).1 (((lb l).1 (key j l hl)).2.2 x hx)).2.1, fun j l x hl hx => ((wb x).1 (((lb l).1 (key j l hl)).2.2 x hx)).2.2, fun j l x hl hx => ((wb x).1 (((lb l).1 (key j l hl)).2.2 x hx)).1⟩
 ·intro R
  refine ⟨R.len, fun l hl => ?_⟩
  obtain ⟨j, hj, rfl⟩ := List.mem_iff_getElem.1 hl
  have e := List.getElem?_eq_getElem hj
  exact (lb _).2 ⟨R.owner j _ e, R.free j _ e, fun x hx => (wb x).2 ⟨R.ends j _ x e hx, R.no j _ x e hx, R.once j _ x e hx⟩⟩
theorem Right.chain {ls : List Lk} (R : Right ls) (x : Int) : ∃ c, Ends ls x c := by
 cases h : qax ls x with
 | none => exact ⟨_, Ends.stop h⟩
 | some i =>
  obtain ⟨l, hl, hx, _⟩ := qc1 h
  exact R.ends i l x hl hx
theorem qkd {ls : List Lk} (R : Right ls) {x : Int} {c : List Int} (h : Ends ls x c) : qbm ls x = c := by
 unfold qbm
 rw [qdW.2 R, h.is]; rfl
theorem qgB {ls ls' : List Lk} {x : Int} (hl : ls'.length = ls.length) (h : ∀ (j : Nat) (m m' : Lk), ls[j]? = some m -> ls'[j]? = some m' -> hasB m'.waits x = hasB m.waits x) : qax ls' x = qax ls x := by
 have get : ∀ (j : Nat) (m' : Lk), ls'[j]? = some m' -> ∃ m, ls[j]? = some m := fun j m' hm => ⟨ls[j]'(by have := qdi hm; omega), List.getElem?_eq_getElem _⟩
 cases hw : qax ls x with
 | none =>
  refine qe7 fun j m' hm => ?_
  obtain ⟨m, hm0⟩ := get j m' hm
  rw [h j m m' hm0 hm]; exact qem hw j m hm0
 | some i =>
  obtain ⟨l, hl1, hx, hmin⟩ := qc1 hw
  have hi : i < ls'.length := by have := qdi hl1; omega
  refine qe6 (List.getElem?_eq_getElem hi) ?_ fun j m' hj hm => ?_
  ·rw [h i l _ hl1 (List.getElem?_eq_getElem hi)]; exact hx
  ·obtain ⟨m, hm0⟩ := get j m' hm
   rw [h j m m' hm0 hm]; exact hmin j m hj hm0
theorem qgC {ls ls' : List Lk} (hw : ∀ x, qax ls' x = qax ls x) (ho : ∀ (x : Int) (i : Nat), qax ls x = some i -> qaD ls' i = qaD ls i) : ∀ {c : List Int} {x : Int}, Ends ls x c -> Ends ls' x c
 | [], _, h => by rcases h.cases with ⟨_, e⟩ | ⟨_, _, _, e, _⟩ <;> cases e
 | y :: r, x, h => by
  rcases h.cases with ⟨h1, e⟩ | ⟨i, r', h1, e, hr⟩
  ·rw [e]; exact Ends.stop ((hw x).trans h1)
  ·cases e
   refine Ends.step ((hw _).trans h1) ?_
   rw [ho _ i h1]
   exact qgC hw ho hr
theorem qgD {ls : List Lk} {j i : Nat} {m : Lk} (h : i ≠ j) : qaD (ls.set j m) i = qaD ls i := by
 unfold qaD
 rw [List.getElem?_set_ne (Ne.symm h)]
theorem qke {ls : List Lk} {j : Nat} {m : Lk} (h : j < ls.length) : qaD (ls.set j m) j = m.owner := by
 unfold qaD
 rw [List.getElem?_set_self h]
theorem Right.owned {ls : List Lk} (R : Right ls) {j : Nat} {l : Lk} (hl : ls[j]? = some l) (hw : l.waits = []) {o : Int} (ho : 0 <= o /\ o <= 1000) : Right (ls.set j ⟨o, []⟩) := by
 have hj := qdi hl
 have wsame : ∀ x, qax (ls.set j ⟨o, []⟩) x = qax ls x := fun x => qgB (by simp) fun i m m' hm hm' => by
  rcases qbf hm' with ⟨rfl, rfl⟩ | ⟨_, h⟩
  ·rw [hl] at hm; cases hm; rw [hw]
  ·rw [hm] at h; cases h; rfl
 have csame : ∀ {c : List Int} {x : Int}, Ends ls x c -> Ends (ls.set j ⟨o, []⟩) x c := fun h => qgC wsame (fun x i hi => qgD fun e => by
  obtain ⟨m, hm, hx, _⟩ := qc1 hi
  rw [e, hl] at hm; cases hm
  rw [hw] at hx; simp [hasB] at hx) h
 have nsame : ∀ x, qaF (ls.set j ⟨o, []⟩) x = qaF ls x := fun x => by
  have := qeo (⟨o, []⟩ : Lk) x hl
  simp only [hw] at this
  omega
 refine ⟨by simpa using R.len, ?_, ?_, ?_, ?_, ?_⟩
 ·intro i m hm
  rcases qbf hm with ⟨rfl, rfl⟩ | ⟨_, h⟩
  ·exact ho
  ·exact R.owner i m h
 ·intro i m hm
  rcases qbf hm with ⟨rfl, rfl⟩ | ⟨_, h⟩
  ·exact fun _ => rfl
  ·exact R.free i m h
 ·intro i m x hm hx
  rcases qbf hm with ⟨rfl, rfl⟩ | ⟨_, h⟩
  ·simp [hasB] at hx
  ·exact R.no i m x h hx
 ·intro i m x hm hx
  rw [nsame]
  rcases qbf hm with ⟨rfl, rfl⟩ | ⟨_, h⟩
  ·simp [hasB] at hx
  ·exact R.once i m x h hx
 ·intro i m x hm hx
  rcases qbf hm with ⟨rfl, rfl⟩ | ⟨_, h⟩
  ·simp [hasB] at hx
  ·obtain ⟨c, hc⟩ := R.ends i m x h hx
   exact ⟨c, csame hc⟩
theorem qgE (xs ys : List Int) (x : Int) : hasB (xs ++ ys) x = (hasB xs x || hasB ys x) := by simp [hasB]
section wait
variable {ls : List Lk} {j : Nat} {l : Lk} {no : Int}
theorem qdX (hl : ls[j]? = some l) (hn : qax ls no = none) : (∀ x, x ≠ no -> qax (ls.set j { l with waits := l.waits ++ [no] }) x = qax ls x) /\ qax (ls.set j { l with waits := l.waits ++ [no] }) no = some j := by
 refine ⟨fun x hx => qgB (by simp) fun i m m' hm hm' => ?_, qe6 (List.getElem?_set_self (qdi hl)) (by simp [hasB]) fun i m hi hm => ?_⟩
 ·rcases qbf hm' with ⟨rfl, rfl⟩ | ⟨_, h⟩
  ·rw [hl] at hm; cases hm
   simp only [qgE]
   have : hasB [no] x = false := by simp [hasB]; exact fun e => hx e.symm
   rw [this, Bool.or_false]
  ·rw [hm] at h; cases h; rfl
 ·rcases qbf hm with ⟨rfl, _⟩ | ⟨_, h⟩
  ·omega
  ·exact qem hn i m h
theorem qep (hl : ls[j]? = some l) (i : Nat) : qaD (ls.set j { l with waits := l.waits ++ [no] }) i = qaD ls i := by
 by_cases e : i = j
 ·subst e; rw [qke (qdi hl), qbK hl]
 ·exact qgD e
theorem qe9 (hl : ls[j]? = some l) (hn : qax ls no = none) : ∀ {c : List Int} {x : Int}, Ends ls x c -> no ∉ c -> Ends (ls.set j { l with waits := l.waits ++ [no] }) x c
 | [], _, h, _ => by rcases h.cases with ⟨_, e⟩ | ⟨_, _, _, e, _⟩ <;> cases e
 | y :: r, x, h, hc => by
  rcases h.cases with ⟨h1, e⟩ | ⟨i, r', h1, e, hr⟩
  ·rw [e] at hc ⊢
   exact Ends.stop (((qdX hl hn).1 x (fun e => hc (by rw [e]; simp))).trans h1)
  ·cases e
   refine Ends.step (((qdX hl hn).1 _ (fun e => hc (by rw [e]; simp))).trans h1) ?_
   rw [qep hl]
   exact qe9 hl hn hr (fun h => hc (List.mem_cons_of_mem _ h))
theorem qgF (hl : ls[j]? = some l) (hn : qax ls no = none) {d : List Int} (hd : Ends (ls.set j { l with waits := l.waits ++ [no] }) l.owner d) : ∀ {c : List Int} {x : Int}, Ends ls x c -> no ∈ c -> Ends (ls.set j { l with waits := l.waits ++ [no] }) x (c ++ d)
 | [], _, h, _ => by rcases h.cases with ⟨_, e⟩ | ⟨_, _, _, e, _⟩ <;> cases e
 | y :: r, x, h, hc => by
  rcases h.cases with ⟨h1, e⟩ | ⟨i, r', h1, e, hr⟩
  ·rw [e] at hc ⊢
   have ex : x = no := by have := List.mem_singleton.1 hc; exact this.symm
   subst ex
   refine Ends.step (qdX hl hn).2 ?_
   rw [qep hl, qbK hl]
   exact hd
  ·cases e
   have hx : y ≠ no := fun e => by rw [e, hn] at h1; cases h1
   refine Ends.step (((qdX hl hn).1 y hx).trans h1) ?_
   rw [qep hl]
   refine qgF hl hn hd hr ?_
   rcases List.mem_cons.1 hc with e | e
   ·exact absurd e.symm hx
   ·exact e
theorem Right.waited (R : Right ls) (hl : ls[j]? = some l) (h0 : l.owner ≠ 0) (hno : 1 <= no /\ no <= 1000) (hn : qax ls no = none) {d : List Int} (hd : Ends ls l.owner d) (hnd : no ∉ d) :
  Right (ls.set j { l with waits := l.waits ++ [no] }) /\ Ends (ls.set j { l with waits := l.waits ++ [no] }) no (no :: d) := by
 have hd' := qe9 hl hn hd hnd
 have e0 : Ends (ls.set j { l with waits := l.waits ++ [no] }) no (no :: d) := by
  refine Ends.step (qdX hl hn).2 ?_
  rw [qep hl, qbK hl]
  exact hd'
 have hz : ∀ (i : Nat) (m : Lk), ls[i]? = some m -> hasB m.waits no = false := qem hn
 have nsame : ∀ x, x ≠ no -> qaF (ls.set j { l with waits := l.waits ++ [no] }) x = qaF ls x := fun x hx => by
  have := qeo ({ l with waits := l.waits ++ [no] } : Lk) x hl
  have c : qaN (l.waits ++ [no]) x = qaN l.waits x := by
   unfold qaN
   rw [List.filter_append]
   have : ([no].filter fun y => y == x) = [] := by simp; exact fun e => hx e.symm
   rw [this]; simp
  simp only [c] at this
  omega
 have none' : qaF (ls.set j { l with waits := l.waits ++ [no] }) no = 1 := by
  have := qeo ({ l with waits := l.waits ++ [no] } : Lk) no hl
  have c : qaN (l.waits ++ [no]) no = qaN l.waits no + 1 := by unfold qaN; simp
  simp only [c] at this
  have := qkc hz
  omega
 have back : ∀ (i : Nat) (m : Lk) (x : Int), (ls.set j { l with waits := l.waits ++ [no] })[i]? = some m -> hasB m.waits x = true -> x = no ∨ ∃ (k : Nat) (m0 : Lk), ls[k]? = some m0 /\ hasB m0.waits x = true := by
  intro i m x hm hx
  rcases qbf hm with ⟨rfl, rfl⟩ | ⟨_, h⟩
  ·simp only [qgE, Bool.or_eq_true] at hx
   rcases hx with h | h
   ·exact .inr ⟨i, l, hl, h⟩
   ·left; simp [hasB] at h; exact h.symm
  ·exact .inr ⟨i, m, h, hx⟩
 refine ⟨⟨by simpa using R.len, ?_, ?_, ?_, ?_, ?_⟩, e0⟩
 ·intro i m hm
  rcases qbf hm with ⟨rfl, rfl⟩ | ⟨_, h⟩
  ·exact R.owner i l hl
  ·exact R.owner i m h
 ·intro i m hm e
  rcases qbf hm with ⟨rfl, rfl⟩ | ⟨_, h⟩
  ·exact absurd e h0
  ·exact R.free i m h e
 ·intro i m x hm hx
  rcases back i m x hm hx with rfl | ⟨k, m0, h1, h2⟩
  ·exact hno
  ·exact R.no k m0 x h1 h2
 ·intro i m x hm hx
  by_cases e : x = no
  ·rw [e]; exact none'
  ·rcases back i m x hm hx with h | ⟨k, m0, h1, h2⟩
   ·exact absurd h e
   ·rw [nsame x e]; exact R.once k m0 x h1 h2
 ·intro i m x hm hx
  rcases back i m x hm hx with rfl | ⟨k, m0, h1, h2⟩
  ·exact ⟨_, e0⟩
  ·obtain ⟨c, hc⟩ := R.ends k m0 x h1 h2
   by_cases h : no ∈ c
   ·exact ⟨_, qgF hl hn hd' hc h⟩
   ·exact ⟨_, qe9 hl hn hc h⟩
end wait
section free
variable {ls : List Lk} {j : Nat} {l : Lk} {next : Int}
end free
theorem qkf {ls : List Lk} {no : Int} (h : decide (0 <= qaI ls no) = false) : qax ls no = none := by
 unfold qaI at h
 split at h
 ·simp at h
 ·assumption
def qkg (ls : List Lk) (i no : Int) : Prop :=
 ((askN ls i no = 2 ∨ askN ls i no = 3) /\ askL ls i no = ls) ∨
 (∃ (j : Nat) (l : Lk), i = (j : Int) /\ ls[j]? = some l /\ l.owner = 0 /\ (1 <= no /\ no <= 1000) /\ qax ls no = none /\ askN ls i no = 0 /\ askL ls i no = ls.set j ⟨no, []⟩) ∨
 (∃ (j : Nat) (l : Lk), i = (j : Int) /\ ls[j]? = some l /\ hasB (qbm ls l.owner) no = true /\ askN ls i no = 4 /\ askL ls i no = ls) ∨
 ∃ (j : Nat) (l : Lk), i = (j : Int) /\ ls[j]? = some l /\ l.owner ≠ 0 /\ l.owner ≠ no /\ (1 <= no /\ no <= 1000) /\ qax ls no = none /\ hasB (qbm ls l.owner) no = false /\ askN ls i no = 1 /\ askL ls i no = ls.set j { l with waits := l.waits ++ [no] }
theorem qcm {ls : List Lk} (R : Right ls) (i no : Int) : qkg ls i no := by
 have hb := qdW.2 R
 have key : ∀ n, askN ls i no = n -> (n ≠ 0 /\ n ≠ 1 -> askL ls i no = ls) /\ (n = 0 -> askL ls i no = ls.modify i.toNat (qcd no)) /\ (n = 1 -> askL ls i no = ls.modify i.toNat (qel no)) := by
  rintro n rfl
  refine ⟨fun h => ?_, fun h => ?_, fun h => ?_⟩
  ·unfold askL; rw [hb]; simp [h.1, h.2]
  ·unfold askL; rw [hb]; simp [h]
  ·unfold askL; rw [hb]; simp [h]
 by_cases c : (!inB i 0 ((ls.length : Int) - 1) || (!inB no 1 1000 || decide (0 <= qaI ls no))) = true
 ·have e : askN ls i no = 2 := by unfold askN; rw [hb, c]; rfl
  exact .inl ⟨.inl e, (key 2 e).1 (by decide)⟩
 ·rw [Bool.not_eq_true, Bool.or_eq_false_iff, Bool.or_eq_false_iff] at c
  obtain ⟨c1, c2, c3⟩ := c
  have c1' := c1
  have c2' := c2
  rw [Bool.not_eq_false'] at c1' c2'
  obtain ⟨h0, h1⟩ := qau.1 c1'
  obtain ⟨j, rfl⟩ : ∃ j : Nat, i = (j : Int) := ⟨i.toNat, by omega⟩
  have hj : j < ls.length := by omega
  have hl : ls[j]? = some ls[j] := List.getElem?_eq_getElem hj
  have hno := qau.1 c2'
  have hn := qkf c3
  have go : askN ls (j : Int) no = if ls[j].owner == no then 3 else if ls[j].owner == 0 then 0 else if hasB (qbm ls ls[j].owner) no then 4 else 1 := by
   unfold askN
   rw [hb, c1, c2, c3, Int.toNat_natCast, qbK hl]
   rfl
  cases c4 : (ls[j].owner == no)
  ·cases c5 : (ls[j].owner == 0)
   ·cases c6 : hasB (qbm ls ls[j].owner) no
    ·have e : askN ls (j : Int) no = 1 := by rw [go, c4, c5, c6]; rfl
     have e2 := (key 1 e).2.2 rfl
     rw [Int.toNat_natCast, qgy hl] at e2
     exact .inr (.inr (.inr ⟨j, ls[j], rfl, hl, by simpa using c5, by simpa using c4, hno, hn, c6, e, e2⟩))
    ·have e : askN ls (j : Int) no = 4 := by rw [go, c4, c5, c6]; rfl
     exact .inr (.inr (.inl ⟨j, ls[j], rfl, hl, c6, e, (key 4 e).1 (by decide)⟩))
   ·have e : askN ls (j : Int) no = 0 := by rw [go, c4, c5]; rfl
    have e2 := (key 0 e).2.1 rfl
    have ho : ls[j].owner = 0 := by simpa using c5
    rw [Int.toNat_natCast, qgy hl] at e2
    have : qcd no ls[j] = ⟨no, []⟩ := by unfold qcd; rw [R.free j _ hl ho]
    rw [this] at e2
    exact .inr (.inl ⟨j, ls[j], rfl, hl, ho, hno, hn, e, e2⟩)
  ·have e : askN ls (j : Int) no = 3 := by rw [go, c4]; rfl
   exact .inl ⟨.inr e, (key 3 e).1 (by decide)⟩
theorem qkh {ls : List Lk} (R : Right ls) (i no : Int) : Right (askL ls i no) /\ (askL ls i no).length = ls.length := by
 rcases qcm R i no with ⟨_, e⟩ | ⟨j, l, hi, hl, h0, hno, hn, _, e⟩ | ⟨_, _, _, _, _, _, e⟩ | ⟨j, l, hi, hl, h0, h1, hno, hn, hc, _, e⟩
 ·rw [e]; exact ⟨R, rfl⟩
 ·rw [e]; exact ⟨R.owned hl (R.free j l hl h0) ⟨by omega, hno.2⟩, by simp⟩
 ·rw [e]; exact ⟨R, rfl⟩
 ·rw [e]
  obtain ⟨d, hd⟩ := R.chain l.owner
  rw [qkd R hd] at hc
  exact ⟨(R.waited hl h0 hno hn hd (qe5.1 hc)).1, by simp⟩
theorem qki {n : Nat} (h : n <= 5) : Right (List.replicate n (⟨0, []⟩ : Lk)) := by
 have key : ∀ (j : Nat) (l : Lk), (List.replicate n (⟨0, []⟩ : Lk))[j]? = some l -> l = ⟨0, []⟩ := fun j l hl => List.eq_of_mem_replicate (List.mem_of_getElem? hl)
 refine ⟨by simpa using h, ?_, ?_, ?_, ?_, ?_⟩
 ·intro j l hl; rw [key j l hl]; simp
 ·intro j l hl _; rw [key j l hl]
 ·intro j l x hl hx; rw [key j l hl] at hx; simp [hasB] at hx
 ·intro j l x hl hx; rw [key j l hl] at hx; simp [hasB] at hx
 ·intro j l x hl hx; rw [key j l hl] at hx; simp [hasB] at hx
def dueB (t : Tsk) : Bool := qaf t && t.cls == 1
def qeq (t : Tsk) (now : Int) : Bool := decide (t.due <= now) || decide ((t.due - now) * t.q < t.left * t.p)
def qdA (t : Tsk) (now : Int) : Bool := dueB t && inB now 0 100000 && qeq t now
def qbL (t : Tsk) (now : Int) : Tsk := if qdA t now then { t with left := t.q, due := now + t.p } else t
def qdY (t : Tsk) (now : Int) : Bool := dueB t && inB now 0 100000 && decide (t.due <= now)
def qbR (t : Tsk) (now : Int) : Tsk := if qdY t now then { t with left := t.q, due := t.due + t.p } else t
def qer (t : Tsk) : Bool := dueB t && decide (0 < t.left)
def qcn (t : Tsk) : Tsk := if qer t then { t with left := t.left - 1 } else t
def qbB (a b : Tsk) : Bool := dueB a && dueB b && (decide (a.due < b.due) || a.due == b.due && decide (a.no < b.no))
structure IsDue (t : Tsk) : Prop where
 cls : t.cls = 1
 no : 1 <= t.no /\ t.no <= 1000
 cpu : 0 <= t.cpu /\ t.cpu <= 3
 st : 1 <= t.st /\ t.st <= 2
 p : 1 <= t.p /\ t.p <= 40
 q : 1 <= t.q /\ t.q <= t.p
 left : 0 <= t.left /\ t.left <= t.q
 due : 0 <= t.due /\ t.due <= 100040
 none : t.prio = 0 /\ t.round = 0 /\ t.seq = 0 /\ t.nice = 0 /\ t.v = 0
theorem qfa (t : Tsk) : dueB t = true ↔ IsDue t := by
 constructor
 ·intro h
  simp only [dueB, Bool.and_eq_true, beq_iff_eq] at h
  obtain ⟨h1, h2⟩ := h
  simp [qaf, qbc, qa0, h2, fixZ, qby, qau, qch] at h1
  obtain ⟨⟨⟨⟨hno, hcpu⟩, hst⟩, hz⟩, ⟨⟨hp, hq⟩, hl⟩, hd⟩ := h1
  exact ⟨h2, by omega, by omega, by omega, by omega, by omega, by omega, by omega, by omega, by omega, by omega, by omega, by omega⟩
 ·rintro ⟨h2, hno, hcpu, hst, hp, hq, hl, hd, h0, h1, h3, h4, h5⟩
  simp [dueB, qaf, qbc, qa0, h2, fixZ, qby, qau, qch, h0, h1, h3, h4, h5]
  omega
theorem qgG {a b A B : Int} (a0 : 0 <= a) (a1 : a <= A) (b0 : 0 <= b) (b1 : b <= B) : 0 <= a * b /\ a * b <= A * B :=
 ⟨Int.mul_nonneg a0 b0, Int.mul_le_mul a1 b1 b0 (by omega)⟩
def fixB (t : Tsk) : Bool := qaf t && t.cls == 2
def qbC (a b : Tsk) : Bool := fixB a && fixB b && (if a.prio != b.prio then decide (b.prio < a.prio) else if a.seq != b.seq then decide (a.seq < b.seq) else decide (a.no < b.no))
def qbS (t : Tsk) (seq : Int) : Bool := fixB t && !(t.round == 0) && !decide (1 < t.left) && inB seq 0 1000000
def qbT (t : Tsk) (seq : Int) : Tsk := if fixB t && !(t.round == 0) then (if decide (1 < t.left) then { t with left := t.left - 1 } else if inB seq 0 1000000 then { t with left := t.round, seq := seq } else t) else t
structure IsFix (t : Tsk) : Prop where
 cls : t.cls = 2
 no : 1 <= t.no /\ t.no <= 1000
 cpu : 0 <= t.cpu /\ t.cpu <= 3
 st : 1 <= t.st /\ t.st <= 2
 prio : 1 <= t.prio /\ t.prio <= 20
 round : 0 <= t.round /\ t.round <= 10
 left : min t.round 1 <= t.left /\ t.left <= t.round
 seq : 0 <= t.seq /\ t.seq <= 1000000
 none : t.q = 0 /\ t.p = 0 /\ t.due = 0 /\ t.nice = 0 /\ t.v = 0
theorem qkj (t : Tsk) : fixB t = true ↔ IsFix t := by
 constructor
 ·intro h
  simp only [fixB, Bool.and_eq_true, beq_iff_eq] at h
  obtain ⟨h1, h2⟩ := h
  simp [qaf, qbc, qa0, h2, dueZ, qby, qau] at h1
  obtain ⟨⟨⟨⟨hno, hcpu⟩, hst⟩, hz⟩, ⟨⟨hp, hr⟩, hl⟩, hs⟩ := h1
  exact ⟨h2, by omega, by omega, by omega, by omega, by omega, by omega, by omega, by omega, by omega, by omega, by omega, by omega⟩
 ·rintro ⟨h2, hno, hcpu, hst, hp, hr, hl, hs, h0, h1, h3, h4, h5⟩
  simp [fixB, qaf, qbc, qa0, h2, dueZ, qby, qau, h0, h1, h3, h4, h5]
  omega
def qb2 (t : Tsk) (seq i : Int) : Tsk := if i < t.left then { t with left := t.left - i } else { t with left := t.round - (i - t.left), seq := seq }
def qay (t : Tsk) : Bool := qaf t && t.cls == 3
def qbD (a b : Tsk) : Bool := qay a && qay b && (decide (a.v < b.v) || a.v == b.v && decide (a.no < b.no))
def qce (t : Tsk) (x : Int) : Tsk := if inB x 0 100000000 then { t with v := x } else t
def qc2 (t : Tsk) : Tsk := if qay t then qce t (t.v + qaR t.nice) else t
def qc3 (t : Tsk) (floor : Int) : Tsk := if qay t then qce t (max t.v floor) else t
def qdj (t : Tsk) (cpu frm dst : Int) : Bool := qay t && inB cpu 0 3 && inB frm 0 100000000 && inB dst 0 100000000 && !decide (100000000 < dst + max (t.v - frm) 0)
def qbE (t : Tsk) (cpu frm dst : Int) : Tsk := if qdj t cpu frm dst then { t with cpu := cpu, v := dst + max (t.v - frm) 0 } else t
def qan (least : Int) (t : Tsk) : Int := if qay t && (decide (least < 0) || decide (t.v < least)) then t.v else least
def qdk (ts : List Tsk) : Int := ts.foldl qan (-1)
def qc4 (ts : List Tsk) (floor : Int) : Int := if qdk ts < 0 then floor else max floor (qdk ts)
def qaG (most : Int) (t : Tsk) : Int := if qay t then max most t.v else most
def qes (ts : List Tsk) : Int := ts.foldl qaG (-1)
def qbw (ts : List Tsk) : Int := qes ts - qdk ts
structure IsFair (t : Tsk) : Prop where
 cls : t.cls = 3
 no : 1 <= t.no /\ t.no <= 1000
 cpu : 0 <= t.cpu /\ t.cpu <= 3
 st : 1 <= t.st /\ t.st <= 2
 nice : -4 <= t.nice /\ t.nice <= 4
 v : 0 <= t.v /\ t.v <= 100000000
 none : t.q = 0 /\ t.p = 0 /\ t.left = 0 /\ t.due = 0 /\ t.prio = 0 /\ t.round = 0 /\ t.seq = 0
theorem qcG (t : Tsk) : qay t = true ↔ IsFair t := by
 constructor
 ·intro h
  simp only [qay, Bool.and_eq_true, beq_iff_eq] at h
  obtain ⟨h1, h2⟩ := h
  simp [qaf, qbc, qa0, h2, dueZ, fixZ, qau] at h1
  obtain ⟨⟨⟨⟨hno, hcpu⟩, hst⟩, hz⟩, hn, hv⟩ := h1
  exact ⟨h2, by omega, by omega, by omega, by omega, by omega, by omega, by omega, by omega, by omega, by omega, by omega, by omega⟩
 ·rintro ⟨h2, hno, hcpu, hst, hn, hv, h0, h1, h3, h4, h5, h6, h7⟩
  simp [qay, qaf, qbc, qa0, h2, dueZ, fixZ, qau, h0, h1, h3, h4, h5, h6, h7]
  omega
theorem qkk (x : Int) : 0 <= qaR x /\ qaR x <= 48 := by
 unfold qaR
 repeat' split
 all_goals omega
theorem qkl {ts : List Tsk} : ∀ (a : Int), (∀ x ∈ ts, qay x = true -> 0 <= ts.foldl qan a /\ ts.foldl qan a <= x.v) /\ (0 <= a -> 0 <= ts.foldl qan a /\ ts.foldl qan a <= a) := by
 induction ts with
 | nil => intro a; simp
 | cons y r ih =>
  intro a
  have step : (0 <= a -> 0 <= qan a y /\ qan a y <= a) /\ (qay y = true -> 0 <= qan a y /\ qan a y <= y.v) := by
   unfold qan
   cases hf : qay y
   ·simp only [Bool.false_and, Bool.false_eq_true, if_false]
    exact ⟨fun h => ⟨h, Int.le_refl _⟩, fun h => by cases h⟩
   ·have hv := ((qcG y).1 hf).v
    simp only [Bool.true_and, Bool.or_eq_true, decide_eq_true_eq]
    split <;> exact ⟨fun h => by omega, fun h => by omega⟩
  have h2 := ih (qan a y)
  simp only [List.foldl_cons]
  refine ⟨fun x hx hf => ?_, fun h => ?_⟩
  ·rcases List.mem_cons.1 hx with rfl | hx
   ·have h3 := step.2 hf
    have h4 := h2.2 h3.1
    omega
   ·exact h2.1 x hx hf
  ·have h3 := step.1 h
   have h4 := h2.2 h3.1
   omega
theorem qkm (ts : List Tsk) : ∀ (a b : Int), (a = -1 /\ b = -1 ∨ 0 <= a /\ a <= b) -> (ts.foldl qan a = -1 /\ ts.foldl qaG b = -1 ∨ 0 <= ts.foldl qan a /\ ts.foldl qan a <= ts.foldl qaG b) := by
 induction ts with
 | nil => intro a b h; exact h
 | cons y r ih =>
  intro a b h
  simp only [List.foldl_cons]
  apply ih
  unfold qan qaG
  cases hf : qay y
  ·simpa using h
  ·have hv := ((qcG y).1 hf).v
   simp only [Bool.true_and, Bool.or_eq_true, decide_eq_true_eq, if_true]
   split <;> omega
theorem qkn (ts : List Tsk) : 0 <= qbw ts := by
 have := qkm ts (-1) (-1) (.inl ⟨rfl, rfl⟩)
 unfold qbw qdk qes
 omega
theorem qko (ts : List Tsk) : ∀ a : Int, -1 <= a -> a <= 100000000 -> -1 <= ts.foldl qan a /\ ts.foldl qan a <= 100000000 := by
 induction ts with
 | nil => intro a h1 h2; exact ⟨h1, h2⟩
 | cons y r ih =>
  intro a h1 h2
  simp only [List.foldl_cons]
  have : -1 <= qan a y /\ qan a y <= 100000000 := by
   unfold qan
   split
   ·rename_i h
    simp only [Bool.and_eq_true] at h
    have hv := ((qcG y).1 h.1).v
    omega
   ·omega
  exact ih _ this.1 this.2
theorem qkp (ts : List Tsk) : ∀ a : Int, -1 <= a -> a <= 100000000 -> -1 <= ts.foldl qaG a /\ ts.foldl qaG a <= 100000000 := by
 induction ts with
 | nil => intro a h1 h2; exact ⟨h1, h2⟩
 | cons y r ih =>
  intro a h1 h2
  simp only [List.foldl_cons]
  have : -1 <= qaG a y /\ qaG a y <= 100000000 := by
   unfold qaG
   split
   ·rename_i h
    have hv := ((qcG y).1 h).v
    omega
   ·omega
  exact ih _ this.1 this.2
end Go.Proofs.YthpdlbcdbncnhaaGreatDoor
