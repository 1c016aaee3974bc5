/-
  An element of a row of one's own is written over.
  A heap of tasks that share fairly, as a list: who had least comes first.
  The program's heap of those that share fairly: one more is put into it.
  Weights and steps: the program's.
  What would be wrong is not done.
  Fair shares, the program's side: spending, waking, moving.
  Fair shares, the program's side: those that share fairly, one behind the other, who had least first.
  Fair shares, the program's side: who had least.
-/
import Derived.Test.YtdndgacaohmdnaaPutC
import Derived.Test.YtdndgacaohmdnaaOwn
import Derived.Test.YtdndgacaohmdnaaFairPure
import Derived.Test.YtdndgacaohmdnaaImplTask
import Derived.Test.YtdndgacaohmdnaaHeap
import Derived.Test.YtdndgacaohmdnaaWeight
import Derived.Test.YtdndgacaohmdnaaNiceI
import Derived.Test.YtdndgacaohmdnaaImplHead
import Derived.Test.YtdndgacaohmdnaaImplTaskOk
import Derived.Test.YtdndgacaohmdnaaFairLaws
import Derived.RangeFuncNested
import Derived.RangeFuncBound
import Derived.RangeFuncCalls
import Derived.RangeFuncLeaves
import Derived.Shelf.Abstract
import Derived.Shelf.RegionOpen
import Derived.OwnWalkIn
import Derived.TacticsInMore
import Derived.LoopNIn
import Derived.LoopIn
namespace Go.Proofs.Ytdndgacaohmdnaa
open Go.RowKit

/-- From the place k on stand these values. -/
def setLs (xs : List Value) (k : Nat) : List Value → List Value
  | [] => xs
  | v :: r => setLs (xs.set k v) (k + 1) r
theorem setLs_right (A : List Value) : ∀ (L B : List Value) (k : Nat), setLs (A ++ B) (A.length + k) L = A ++ setLs B k L
  | [], _, _ => rfl
  | v :: r, B, k => by
    rw [setLs, setLs, List.set_append_right _ _ (by omega), Nat.add_assoc, show A.length + k - A.length = k by omega]
    exact setLs_right A r (B.set k v) (k + 1)
theorem setLs_all : ∀ (L A B : List Value), A.length = L.length → setLs (A ++ B) 0 L = L ++ B
  | [], A, B, h => by
    have : A = [] := List.length_eq_zero_iff.1 h
    subst this
    rfl
  | v :: r, [], B, h => by simp at h
  | v :: r, a :: A, B, h => by
    have h1 := setLs_right [v] r (A ++ B) 0
    have h2 := setLs_all r A B (by simpa using h)
    rw [setLs]
    simp only [List.cons_append, List.set_cons_zero, List.nil_append, List.length_singleton, Nat.add_zero, Nat.zero_add] at h1 ⊢
    rw [h1, h2]
theorem setLs_flat {α : Type} {c : α → Array Value} {sz : Nat} (hc : ∀ x, (c x).size = sz) (x : α) : ∀ (xs : List α) (i : Nat), i < xs.length → setLs (flatC c xs) (i * sz) (c x).toList = flatC c (xs.set i x)
  | [], i, h => by simp at h
  | y :: r, 0, _ => by
    have e : flatC c (y :: r) = (c y).toList ++ flatC c r := rfl
    have e' : flatC c ((y :: r).set 0 x) = (c x).toList ++ flatC c r := rfl
    rw [e, e', Nat.zero_mul]
    exact setLs_all _ _ _ (by simp [hc])
  | y :: r, i + 1, h => by
    have e : flatC c (y :: r) = (c y).toList ++ flatC c r := rfl
    have e' : flatC c ((y :: r).set (i + 1) x) = (c y).toList ++ flatC c (r.set i x) := rfl
    have hl : (i + 1) * sz = (c y).toList.length + i * sz := by rw [Array.length_toList, hc, Nat.add_mul, Nat.one_mul, Nat.add_comm]
    rw [e, e', hl, setLs_right, setLs_flat hc x r i (by simpa using h)]
theorem ownsRow_putC {base : Nat} {e : TypeId} {size g n cap : Nat} : ∀ (L : List Value) (w : World) (k : Nat) (xs : List Value), w.ownsRow base e size (.slice (some ⟨g, 0, none⟩) n cap) n xs →
    (putC w g k L).ownsRow base e size (.slice (some ⟨g, 0, none⟩) n cap) n (setLs xs k L)
  | [], _, _, _, h => h
  | v :: r, _, k, _, h => ownsRow_putC r _ (k + 1) _ (h.stored k v).1
/-- The element i is another one now. -/
theorem Own.put {α : Type} {e : TypeId} {sz : Nat} {c : α → Array Value} {w : World} {base b cap : Nat} {xs : List α} (hc : ∀ x, (c x).size = sz) (h : Own e sz c w base (.slice (Option.some ⟨b, 0, none⟩) xs.length cap) xs) {i : Nat} (hi : i < xs.length) (x : α) :
    Own e sz c (putC w b (i * sz) (c x).toList) base (.slice (Option.some ⟨b, 0, none⟩) (xs.set i x).length cap) (xs.set i x) := by
  unfold Own at h ⊢
  rw [← setLs_flat hc x xs i hi, List.length_set]
  exact ownsRow_putC _ _ _ _ h
end Go.Proofs.Ytdndgacaohmdnaa
namespace Go.Proofs.Ytdndgacaohmdnaa
open Go.RowKit

/-- Who had less, or as much and the lesser number. -/
def befV (a b : Tsk) : Bool := decide (a.v < b.v) || a.v == b.v && decide (a.no < b.no)
theorem befV_iff (a b : Tsk) : befV a b = true ↔ a.v < b.v ∨ a.v = b.v ∧ a.no < b.no := by simp [befV]
theorem befV_no (a b : Tsk) : befV a b = false ↔ b.v < a.v ∨ b.v = a.v ∧ b.no ≤ a.no := by
  rw [Bool.eq_false_iff, ne_eq, befV_iff]
  omega
theorem befV_irr (a : Tsk) : befV a a = false := by rw [befV_no]; omega
/-- Each is no later than the two below it. -/
def HeapL (xs : List Tsk) : Prop := ∀ (i : Nat) (c p : Tsk), 0 < i → xs[i]? = some c → xs[(i - 1) / 2]? = some p → befV c p = false
/-- .. but the one at the place k. -/
def HeapBut (xs : List Tsk) (k : Nat) : Prop :=
  (∀ (i : Nat) (c p : Tsk), 0 < i → i ≠ k → xs[i]? = some c → xs[(i - 1) / 2]? = some p → befV c p = false) ∧
  (0 < k → ∀ (i : Nat) (c p : Tsk), 0 < i → (i - 1) / 2 = k → xs[i]? = some c → xs[(k - 1) / 2]? = some p → befV c p = false)
theorem HeapL.nil : HeapL [] := by intro i c p _ h; simp at h
theorem HeapL.snoc {xs : List Tsk} (h : HeapL xs) (x : Tsk) : HeapBut (xs ++ [x]) xs.length := by
  refine ⟨fun i c p h0 hne hc hp => ?_, fun h0 i c p hi hk hc hp => ?_⟩
  · rcases Nat.lt_or_ge i xs.length with hl | hl
    · rw [List.getElem?_append_left hl] at hc
      rw [List.getElem?_append_left (by omega)] at hp
      exact h i c p h0 hc hp
    · rw [List.getElem?_eq_none (by simp; omega)] at hc
      cases hc
  · rw [List.getElem?_eq_none (by simp; omega)] at hc
    cases hc
theorem HeapBut.top {xs : List Tsk} (h : HeapBut xs 0) : HeapL xs := fun i c p h0 hc hp => h.1 i c p h0 (by omega) hc hp
theorem HeapBut.stay {xs : List Tsk} {k : Nat} (h : HeapBut xs k) {x y : Tsk} (hx : xs[k]? = some x) (hy : xs[(k - 1) / 2]? = some y) (hb : befV x y = false) : HeapL xs := by
  intro i c p h0 hc hp
  by_cases e : i = k
  · subst e
    rw [hx] at hc; rw [hy] at hp
    cases hc; cases hp
    exact hb
  · exact h.1 i c p h0 e hc hp
theorem swap_at {xs : List Tsk} {k m : Nat} {x y : Tsk} (hx : xs[k]? = some x) (hy : xs[m]? = some y) (hne : m < k) (i : Nat) :
    ((xs.set k y).set m x)[i]? = if i = m then some x else if i = k then some y else xs[i]? := by
  have hk : k < xs.length := by
    rcases Nat.lt_or_ge k xs.length with h | h
    · exact h
    · rw [List.getElem?_eq_none h] at hx; cases hx
  by_cases e1 : i = m
  · subst e1
    rw [if_pos rfl, List.getElem?_set_self (by simp; omega)]
  · rw [if_neg e1, List.getElem?_set_ne (by omega)]
    by_cases e2 : i = k
    · subst e2
      rw [if_pos rfl, List.getElem?_set_self hk]
    · rw [if_neg e2, List.getElem?_set_ne (by omega)]
theorem HeapBut.up {xs : List Tsk} {k : Nat} (h : HeapBut xs k) (h0 : 0 < k) {x y : Tsk} (hx : xs[k]? = some x) (hy : xs[(k - 1) / 2]? = some y) (hb : befV x y = true) : HeapBut ((xs.set k y).set ((k - 1) / 2) x) ((k - 1) / 2) := by
  have hm : (k - 1) / 2 < k := by omega
  have at' := swap_at hx hy hm
  rw [befV_iff] at hb
  refine ⟨fun i c p hi hne hc hp => ?_, fun h1 i c p hi hk hc hp => ?_⟩
  · rw [at'] at hc hp
    rw [if_neg hne] at hc
    by_cases ek : i = k
    · subst ek
      rw [if_pos rfl] at hc hp
      cases hc; cases hp
      rw [befV_no]; omega
    · rw [if_neg ek] at hc
      by_cases e1 : (i - 1) / 2 = (k - 1) / 2
      · rw [if_pos e1] at hp
        cases hp
        rw [← e1] at hy
        have := (befV_no _ _).1 (h.1 i c y hi ek hc hy)
        rw [befV_no]; omega
      · rw [if_neg e1] at hp
        by_cases e2 : (i - 1) / 2 = k
        · rw [if_pos e2] at hp
          cases hp
          exact h.2 h0 i c _ hi e2 hc hy
        · rw [if_neg e2] at hp
          exact h.1 i c p hi ek hc hp
  · rw [at'] at hc hp
    rw [if_neg (by omega), if_neg (by omega)] at hp
    have h3 := (befV_no _ _).1 (h.1 ((k - 1) / 2) y p h1 (by omega) hy hp)
    rw [if_neg (by omega)] at hc
    by_cases ek : i = k
    · rw [if_pos ek] at hc
      cases hc
      rw [befV_no]; omega
    · rw [if_neg ek] at hc
      rw [← hk] at hy
      have h4 := (befV_no _ _).1 (h.1 i c y hi ek hc hy)
      rw [befV_no]; omega
theorem swap_mem {xs : List Tsk} {k m : Nat} {x y : Tsk} (hx : xs[k]? = some x) (hy : xs[m]? = some y) (hne : m < k) (z : Tsk) : z ∈ (xs.set k y).set m x ↔ z ∈ xs := by
  have at' := swap_at hx hy hne
  simp only [List.mem_iff_getElem?]
  constructor
  · rintro ⟨i, hi⟩
    rw [at'] at hi
    split at hi
    · cases hi; exact ⟨k, hx⟩
    · split at hi
      · cases hi; exact ⟨m, hy⟩
      · exact ⟨i, hi⟩
  · rintro ⟨i, hi⟩
    by_cases e1 : i = m
    · subst e1
      rw [hy] at hi; cases hi
      exact ⟨k, by rw [at', if_neg (by omega), if_pos rfl]⟩
    · by_cases e2 : i = k
      · subst e2
        rw [hx] at hi; cases hi
        exact ⟨m, by rw [at', if_pos rfl]⟩
      · exact ⟨i, by rw [at', if_neg e1, if_neg e2]; exact hi⟩
/-- Nobody is before the first. -/
theorem HeapL.first {xs : List Tsk} (h : HeapL xs) {f : Tsk} (hf : xs[0]? = some f) : ∀ (i : Nat) (z : Tsk), xs[i]? = some z → befV z f = false := by
  intro i
  induction i using Nat.strongRecOn with
  | _ i ih =>
    intro z hz
    by_cases h0 : i = 0
    · subst h0
      rw [hf] at hz; cases hz
      exact befV_irr _
    · have hl : i < xs.length := by
        rcases Nat.lt_or_ge i xs.length with h | h
        · exact h
        · rw [List.getElem?_eq_none h] at hz; cases hz
      obtain ⟨p, hp⟩ : ∃ p, xs[(i - 1) / 2]? = some p := ⟨_, List.getElem?_eq_getElem (by omega)⟩
      have h1 := (befV_no _ _).1 (h i z p (by omega) hz hp)
      have h2 := (befV_no _ _).1 (ih _ (by omega) p hp)
      rw [befV_no]; omega
/-- Who is first when one more has come. -/
def upL (o : Option Tsk) (x : Tsk) : Option Tsk := match o with
  | .none => some x
  | .some f => if befV x f then some x else some f
/-- One more has come, and stands at the place k. -/
structure Sift (xs : List Tsk) (x : Tsk) (k : Nat) (ys : List Tsk) : Prop where
  len : ys.length = xs.length + 1
  lt : k < ys.length
  but : HeapBut ys k
  mem : ∀ z, z ∈ ys ↔ z ∈ xs ∨ z = x
  me : ys[k]? = some x
  fst : k ≠ 0 → ys[0]? = xs[0]?
  top : k = 0 → ∀ f, xs[0]? = some f → befV x f = true
/-- One more has come. -/
structure Sifted (xs : List Tsk) (x : Tsk) (ys : List Tsk) : Prop where
  len : ys.length = xs.length + 1
  heap : HeapL ys
  mem : ∀ z, z ∈ ys ↔ z ∈ xs ∨ z = x
  fst : ys[0]? = upL xs[0]? x
theorem Sift.start {xs : List Tsk} (h : HeapL xs) (x : Tsk) : Sift xs x xs.length (xs ++ [x]) := by
  refine ⟨by simp, by simp, h.snoc x, by simp, by simp, fun h0 => ?_, fun h0 f hf => ?_⟩
  · rw [List.getElem?_append_left (by omega)]
  · rw [List.getElem?_eq_none (by omega)] at hf; cases hf
theorem Sift.up {xs ys : List Tsk} {x y : Tsk} {k : Nat} (h : Sift xs x k ys) (h0 : 0 < k) (hy : ys[(k - 1) / 2]? = some y) (hb : befV x y = true) : Sift xs x ((k - 1) / 2) ((ys.set k y).set ((k - 1) / 2) x) := by
  have hm : (k - 1) / 2 < k := by omega
  have hl := h.lt
  have at' := swap_at h.me hy hm
  refine ⟨by simpa using h.len, by simp; omega, h.but.up h0 h.me hy hb, fun z => (swap_mem h.me hy hm z).trans (h.mem z), by rw [at', if_pos rfl], fun h1 => ?_, fun h1 f hf => ?_⟩
  · rw [at', if_neg (Ne.symm h1), if_neg (by omega)]
    exact h.fst (by omega)
  · have e := h.fst (by omega)
    rw [h1, e, hf] at hy
    cases hy
    exact hb
theorem Sift.atTop {xs ys : List Tsk} {x : Tsk} (h : Sift xs x 0 ys) : Sifted xs x ys := by
  refine ⟨h.len, h.but.top, h.mem, ?_⟩
  rw [h.me]
  cases e : xs[0]? with
  | none => rfl
  | some f => simp [upL, h.top rfl f e]
theorem Sift.stay {xs ys : List Tsk} {x y : Tsk} {k : Nat} (h : Sift xs x k ys) (h0 : 0 < k) (hy : ys[(k - 1) / 2]? = some y) (hb : befV x y = false) : Sifted xs x ys := by
  have hh := h.but.stay h.me hy hb
  refine ⟨h.len, hh, h.mem, ?_⟩
  have e := h.fst (by omega)
  have hl := h.len
  have hlt := h.lt
  obtain ⟨f, hf⟩ : ∃ f, xs[0]? = some f := ⟨_, List.getElem?_eq_getElem (by omega)⟩
  have := hh.first (e.trans hf) k x h.me
  rw [e, hf]
  simp [upL, this]
/-- The heap of those of ts that share fairly. -/
structure HeapOf (ts xs : List Tsk) : Prop where
  heap : HeapL xs
  mem : ∀ z, z ∈ xs ↔ z ∈ ts ∧ fairB z = true
  len : xs.length ≤ ts.length
  fst : xs[0]? = (ts.filter fairB).foldl upL none
theorem HeapOf.start : HeapOf [] [] := ⟨HeapL.nil, by simp, by simp, rfl⟩
theorem HeapOf.skip {ts xs : List Tsk} (h : HeapOf ts xs) {t : Tsk} (ht : fairB t = false) : HeapOf (ts ++ [t]) xs := by
  refine ⟨h.heap, fun z => ?_, by have := h.len; simp; omega, ?_⟩
  · rw [h.mem z, List.mem_append, List.mem_singleton]
    constructor
    · rintro ⟨h1, h2⟩; exact ⟨.inl h1, h2⟩
    · rintro ⟨h1 | rfl, h2⟩
      · exact ⟨h1, h2⟩
      · rw [ht] at h2; cases h2
  · rw [List.filter_append, h.fst]
    simp [ht]
theorem HeapOf.snoc {ts xs ys : List Tsk} (h : HeapOf ts xs) {t : Tsk} (ht : fairB t = true) (s : Sifted xs t ys) : HeapOf (ts ++ [t]) ys := by
  refine ⟨s.heap, fun z => ?_, by have := h.len; have := s.len; simp; omega, ?_⟩
  · rw [s.mem z, h.mem z, List.mem_append, List.mem_singleton]
    constructor
    · rintro (⟨h1, h2⟩ | rfl)
      · exact ⟨.inl h1, h2⟩
      · exact ⟨.inr rfl, ht⟩
    · rintro ⟨h1 | rfl, h2⟩
      · exact .inl ⟨h1, h2⟩
      · exact .inr rfl
  · rw [s.fst, h.fst, List.filter_append]
    simp [ht]
theorem HeapOf.none {ts : List Tsk} (h : HeapOf ts []) : ∀ t ∈ ts, fairB t = false := by
  intro t ht
  cases e : fairB t
  · rfl
  · have := (h.mem t).2 ⟨ht, e⟩
    simp at this
theorem least_none {ts : List Tsk} : ∀ (a : Int), (∀ t ∈ ts, fairB t = false) → ts.foldl leastS a = a ∧ ts.foldl mostS a = a := by
  induction ts with
  | nil => intro a _; exact ⟨rfl, rfl⟩
  | cons y r ih =>
    intro a h
    have hy := h y (by simp)
    have e1 : leastS a y = a := by simp [leastS, hy]
    have e2 : mostS a y = a := by simp [mostS, hy]
    simp only [List.foldl_cons, e1, e2]
    exact ih a fun t ht => h t (List.mem_cons_of_mem _ ht)
theorem least_some {ts : List Tsk} : ∀ (a : Int), ts.foldl leastS a = a ∨ ∃ t ∈ ts, fairB t = true ∧ ts.foldl leastS a = t.v := by
  induction ts with
  | nil => intro a; exact .inl rfl
  | cons y r ih =>
    intro a
    simp only [List.foldl_cons]
    rcases ih (leastS a y) with e | ⟨t, ht, hf, e⟩
    · rw [e]
      unfold leastS
      split
      · rename_i h
        simp only [Bool.and_eq_true] at h
        exact .inr ⟨y, by simp, h.1, rfl⟩
      · exact .inl rfl
    · exact .inr ⟨t, List.mem_cons_of_mem _ ht, hf, e⟩
theorem most_some {ts : List Tsk} : ∀ (a : Int), ts.foldl mostS a = a ∨ ∃ t ∈ ts, fairB t = true ∧ ts.foldl mostS a = t.v := by
  induction ts with
  | nil => intro a; exact .inl rfl
  | cons y r ih =>
    intro a
    simp only [List.foldl_cons]
    rcases ih (mostS a y) with e | ⟨t, ht, hf, e⟩
    · rw [e]
      unfold mostS
      split
      · rename_i h
        by_cases h1 : y.v ≤ a
        · exact .inl (by omega)
        · exact .inr ⟨y, by simp, h, by omega⟩
      · exact .inl rfl
    · exact .inr ⟨t, List.mem_cons_of_mem _ ht, hf, e⟩
theorem most_ge {ts : List Tsk} : ∀ (a : Int), a ≤ ts.foldl mostS a ∧ ∀ t ∈ ts, fairB t = true → t.v ≤ ts.foldl mostS a := by
  induction ts with
  | nil => intro a; simp
  | cons y r ih =>
    intro a
    simp only [List.foldl_cons]
    obtain ⟨h1, h2⟩ := ih (mostS a y)
    have h3 : a ≤ mostS a y ∧ (fairB y = true → y.v ≤ mostS a y) := by
      unfold mostS
      split
      · exact ⟨by omega, fun _ => by omega⟩
      · rename_i h; exact ⟨by omega, fun h' => absurd h' h⟩
    refine ⟨by omega, fun t ht hf => ?_⟩
    rcases List.mem_cons.1 ht with rfl | ht
    · have := h3.2 hf; omega
    · exact h2 t ht hf
/-- The first has the least. -/
theorem HeapOf.least {ts xs : List Tsk} (h : HeapOf ts xs) {f : Tsk} (hf : xs[0]? = some f) : leastV ts = f.v ∧ 0 ≤ f.v := by
  have hm := (h.mem f).1 (List.mem_iff_getElem?.2 ⟨0, hf⟩)
  have hv := ((fairB_iff f).1 hm.2).v
  have h1 := (fair_le (ts := ts) (-1)).1 f hm.1 hm.2
  refine ⟨?_, hv.1⟩
  unfold leastV
  rcases least_some (ts := ts) (-1) with e | ⟨t, ht, hft, e⟩
  · omega
  · obtain ⟨i, hi⟩ := List.mem_iff_getElem?.1 ((h.mem t).2 ⟨ht, hft⟩)
    have := (befV_no _ _).1 (h.heap.first hf i t hi)
    omega
theorem HeapOf.floor {ts xs : List Tsk} (h : HeapOf ts xs) {f : Tsk} (hf : xs[0]? = some f) (floor : Int) : fairFloorI ts floor = max floor f.v := by
  obtain ⟨h1, h2⟩ := h.least hf
  unfold fairFloorI
  rw [h1, if_neg (by omega)]
theorem HeapOf.floor0 {ts : List Tsk} (h : HeapOf ts []) (floor : Int) : fairFloorI ts floor = floor := by
  unfold fairFloorI leastV
  rw [(least_none (-1) h.none).1, if_pos (by omega)]
/-- How far apart they are, those of xs looked at. -/
def spreadS (l : Int) (s : Int) (t : Tsk) : Int := max s (t.v - l)
theorem spreadS_bd (l : Int) (xs : List Tsk) : ∀ (s : Int), s ≤ xs.foldl (spreadS l) s ∧ (∀ t ∈ xs, t.v - l ≤ xs.foldl (spreadS l) s) ∧ (xs.foldl (spreadS l) s = s ∨ ∃ t ∈ xs, xs.foldl (spreadS l) s = t.v - l) := by
  induction xs with
  | nil => intro s; simp
  | cons y r ih =>
    intro s
    simp only [List.foldl_cons]
    obtain ⟨h1, h2, h3⟩ := ih (spreadS l s y)
    have h4 : s ≤ spreadS l s y ∧ y.v - l ≤ spreadS l s y ∧ (spreadS l s y = s ∨ spreadS l s y = y.v - l) := by unfold spreadS; omega
    refine ⟨by omega, fun t ht => ?_, ?_⟩
    · rcases List.mem_cons.1 ht with rfl | ht
      · omega
      · exact h2 t ht
    · rcases h3 with e | ⟨t, ht, e⟩
      · rcases h4.2.2 with e' | e'
        · exact .inl (by omega)
        · exact .inr ⟨y, by simp, by omega⟩
      · exact .inr ⟨t, List.mem_cons_of_mem _ ht, e⟩
theorem HeapOf.spread {ts xs : List Tsk} (h : HeapOf ts xs) {f : Tsk} (hf : xs[0]? = some f) : fairSpreadI ts = xs.foldl (spreadS f.v) 0 := by
  obtain ⟨h1, h2⟩ := h.least hf
  have hm := (h.mem f).1 (List.mem_iff_getElem?.2 ⟨0, hf⟩)
  obtain ⟨g1, g2, g3⟩ := spreadS_bd f.v xs 0
  obtain ⟨_, m2⟩ := most_ge (ts := ts) (-1)
  have hmf := m2 f hm.1 hm.2
  unfold fairSpreadI
  rw [h1]
  unfold mostV
  rcases most_some (ts := ts) (-1) with e | ⟨t, ht, hft, e⟩
  · omega
  · have k1 := g2 t ((h.mem t).2 ⟨ht, hft⟩)
    rcases g3 with e3 | ⟨u, hu, e3⟩
    · omega
    · obtain ⟨hu1, hu2⟩ := (h.mem u).1 hu
      have := m2 u hu1 hu2
      omega
theorem HeapOf.spread0 {ts : List Tsk} (h : HeapOf ts []) (l : Int) : fairSpreadI ts = ([] : List Tsk).foldl (spreadS l) 0 := by
  unfold fairSpreadI leastV mostV
  rw [(least_none (-1) h.none).1, (least_none (-1) h.none).2]
  rfl
/-- Of two: a comes first just if it is before b. -/
theorem HeapOf.two {a b : Tsk} {xs : List Tsk} (h : HeapOf [b, a] xs) (ha : fairB a = true) (hb : fairB b = true) : xs[0]? = some (if befV a b then a else b) := by
  rw [h.fst]
  simp only [List.filter_cons, ha, hb, List.filter_nil, if_true, List.foldl_cons, List.foldl_nil, upL]
  split <;> rfl
end Go.Proofs.Ytdndgacaohmdnaa
namespace Go.Proofs.Ytdndgacaohmdnaa
open Go.RowKit
attribute [local go_sem] Keeps.refl Keeps.alloc Keeps.drew Keeps.drewN

theorem rtc_size (t : Tsk) : (rtc t).size = 7 := rfl
theorem rtc_one (t : Tsk) : ∀ u ∈ (rtc t).toList, u.oneCell' = true := by
  intro u hu
  simp at hu
  rcases hu with rfl | rfl | rfl | rfl | rfl | rfl | rfl <;> rfl
set_option maxRecDepth 100000 in
set_option maxHeartbeats 1000000 in
theorem isBeforeR_any (a b : Tsk) (w : World) :
    Calls Try.prog 124 #[.agg (rtc a), .agg (rtc b)] w fun e w' => e = .returned (.bool (befV a b)) ∧ Keeps w w' := by
  cases h1 : decide (a.v < b.v)
  · cases h2 : (a.v == b.v)
    · have Hr : Hid (befV a b = false) := by show _ = _; simp only [befV, h1, h2, Bool.false_and, Bool.or_false]
      go_enter Try.func124, Try.ntmps124
      go_wp2
      go_ret
      exact ⟨by rw [Hr.out]; rfl, ((Keeps.refl _).alloc _).alloc _⟩
    · have Hr : Hid (befV a b = decide (a.no < b.no)) := by show _ = _; simp only [befV, h1, h2, Bool.true_and, Bool.false_or]
      go_enter Try.func124, Try.ntmps124
      go_wp2
      go_ret
      exact ⟨by rw [Hr.out]; rfl, ((Keeps.refl _).alloc _).alloc _⟩
  · have Hr : Hid (befV a b = true) := by show _ = _; simp only [befV, h1, Bool.true_or]
    go_enter Try.func124, Try.ntmps124
    go_wp2
    go_ret
    exact ⟨by rw [Hr.out]; rfl, ((Keeps.refl _).alloc _).alloc _⟩
set_option maxRecDepth 100000 in
/-- Which function stands behind the interface's method. -/
theorem method_isBeforeR (x : Tsk) : ∀ (n : Nat) (w : World), 0 < n → (method n 87 (.agg (rtc x)) "loop.example/g00185/impl.isBefore").run Try.prog w = .ok (124, .agg (rtc x)) w
  | 0, _, h => absurd h (Nat.lt_irrefl 0)
  | _ + 1, _, _ => by kernel_rfl
/-- The row v of xs, at or above base. -/
abbrev OwnR (w : World) (base : Nat) (v : Value) (xs : List Tsk) : Prop := Own 87 7 rtc w base v xs
/-- At L lies a heap: its row lies above, and nothing of W0 has turned. -/
structure Line (W0 : World) (L base : Nat) (v : Value) (xs : List Tsk) (w : World) : Prop where
  line : Blk w L #[v]
  own : OwnR w base v xs
  keeps : Keeps W0 w
theorem Line.go {W0 w w' : World} {L base : Nat} {v : Value} {xs : List Tsk} (h : Line W0 L base v xs w) (k : Keeps w w') : Line W0 L base v xs w' := ⟨h.line.keeps k, h.own.keeps k, h.keeps.trans k⟩
theorem Line.at {W0 w : World} {L base b n cap : Nat} {xs : List Tsk} (h : Line W0 L base (.slice (some ⟨b, 0, none⟩) n cap) xs w) {i : Nat} {x : Tsk} (hx : xs[i]? = some x) : (w.cell? ⟨b, i * 7, none⟩ = (rtc x)[0]?) ∧ ∀ j, j < 7 → w.cell? ⟨b, i * 7 + j, none⟩ = (rtc x)[j]? := by
  obtain ⟨a, cp, e, l, -, -⟩ := h.own.slice rtc_size
  simp only [Value.slice.injEq] at e
  obtain ⟨rfl, -, -⟩ := e
  rcases l with rfl | ⟨b', off, e', -, l⟩
  · simp at hx
  · simp only [Option.some.injEq, Addr.mk.injEq] at e'
    obtain ⟨rfl, rfl, -⟩ := e'
    exact ⟨by simpa using l i x hx 0 (by omega), fun j hj => by simpa using l i x hx j hj⟩
theorem putC_frozen {b : Nat} : ∀ (Ls : List Value) (w : World) (k : Nat) (a : Addr), (putC w b k Ls).frozen? a = w.frozen? a
  | [], _, _, _ => rfl
  | v :: r, w, k, a => (putC_frozen r (w.setCell ⟨b, k, none⟩ v) (k + 1) a).trans (by simp)
/-- Two change places. -/
theorem Line.swap {W0 w : World} {L base b n cap : Nat} {ys : List Tsk} (h : Line W0 L base (.slice (some ⟨b, 0, none⟩) n cap) ys w) {k m : Nat} (hk : k < ys.length) (hm : m < ys.length) (hn : ys.length = n) (hL : L < base) (h0 : W0.heap.size ≤ L) (x y : Tsk) :
    Line W0 L base (.slice (some ⟨b, 0, none⟩) n cap) ((ys.set k y).set m x) (putC (putC w b (k * 7) (rtc y).toList) b (m * 7) (rtc x).toList).drew := by
  subst hn
  obtain ⟨f1, f2, -⟩ := h.own.free
  have o1 := h.own.put rtc_size hk y
  rw [List.length_set] at o1
  have o2 : OwnR (putC (putC w b (k * 7) (rtc y).toList) b (m * 7) (rtc x).toList) base (.slice (some ⟨b, 0, none⟩) ys.length cap) ((ys.set k y).set m x) := by
    have := Own.put (xs := ys.set k y) (i := m) rtc_size (by rw [List.length_set]; exact o1) (by simpa using hm) x
    rw [List.length_set, List.length_set] at this
    exact this
  exact ⟨(Blk.farC (by omega) _ _ (Blk.farC (by omega) _ _ h.line)).keeps (Keeps.refl _).drew, o2.keeps (Keeps.refl _).drew, (Keeps.putC (b := b) (by omega) _ _ (Keeps.putC (b := b) (by omega) _ _ h.keeps)).drew⟩
/-- What is there when x has been put. -/
def PutR (W0 : World) (L base : Nat) (xs : List Tsk) (x : Tsk) (w' : World) : Prop := ∃ v' ys, Line W0 L base v' ys w' ∧ Sifted xs x ys
set_option maxRecDepth 100000 in
set_option maxHeartbeats 8000000 in
/-- One more is put. -/
theorem putR_any (x : Tsk) (L : Nat) (v : Value) (xs : List Tsk) (base : Nat) (W0 w : World) (hi : Line W0 L base v xs w) (hh : HeapL xs) (h0 : W0.heap.size ≤ L) (h1 : L < base) (h2 : base ≤ w.heap.size) (hlen : xs.length < 1048576) :
    Calls Try.prog 100 #[.pointer (some ⟨L, 0, none⟩), .agg (rtc x)] w fun e w' => e = .returned (.tuple #[]) ∧ PutR W0 L base xs x w' := by
  obtain ⟨B, hown, hk⟩ := hi
  obtain ⟨a0, cap0, rfl, -, -, -⟩ := hown.slice rtc_size
  have hob : ∀ k, (Value.slice a0 xs.length cap0).ownBlock = some k → base ≤ k := fun k hk => (World.ownsRow.lt hown k hk).1
  generalize hn0 : xs.length = n0 at *
  have Hn0 : Hid (xs.length = n0) := hn0
  clear hn0
  have B1 : Hid (Blk (w.alloc (.cells (rtc x) 87)) L #[.slice a0 n0 cap0]) := B.alloc _
  have O1 : Hid (OwnR (w.alloc (.cells (rtc x) 87)) base (.slice a0 n0 cap0) xs) := hown.alloc _
  have KW : Hid (Keeps W0 (w.alloc (.cells (rtc x) 87))) := hk.alloc _
  have X1 := Blk.new w (rtc x) 87
  have hsz : Hid ((w.alloc (.cells (rtc x) 87)).heap.size = w.heap.size + 1) := by show _ = _; simp
  go_enter Try.func100, Try.ntmps100
  go_wp2_with fail
  obtain ⟨_, z1, z2⟩ := X1
  have b1 : (w.alloc (.cells (rtc x) 87)).cell? ⟨L, 0, none⟩ = some (.slice a0 n0 cap0) := B1.out.cells 0
  have b2 := B1.out.frozens 0
  have lw0 := B1.out.lt
  clear B hown hk
  generalize w.alloc (.cells (rtc x) 87) = W at *
  go_cut [14] (fun c wx => c = .pointer (some ⟨L, 0, none⟩) ∧ ∃ b cap, Line W0 L base (.slice (some ⟨b, 0, none⟩) (n0 + 1) cap) (xs ++ [x]) wx)
  case first =>
    go_region_law (refine step_push rfl (.tmp 10) (.tmp 12) 116 rfl base 87 (.agg (rtc Tsk.zero)) 7 56 rtc Try.underlying116 (by kernel_rfl) rfl (by decide) rtc_size rtc_one (.slice a0 n0 cap0) xs (by simp [Act.eval]) ((O1.out.alloc _).keeps (Keeps.refl _).drew) (by have := hsz.out; simp; omega) x _ 1 ((Blk.new _ _ _).keeps (Keeps.refl _).drew) (by simp [Act.eval]) (by have := Hn0.out; unfold maxLen; omega) (by have := Hn0.out; omega) ?_; intro v' w' hown hgrow; obtain ⟨bb, cap, rfl, li, -, -⟩ := hown.some rtc_size (by simp); have G : Hid (Blk w' L #[.slice a0 n0 cap0]) := ((B1.out.alloc _).keeps (Keeps.refl _).drew).grown hgrow (by intro k hk; have := hob k hk; omega); have g1 : w'.cell? ⟨L, 0, none⟩ = some (.slice a0 n0 cap0) := G.out.cells 0; have g2 := G.out.frozens 0; have g0 := G.out.lt)
    all_goals
      go_wp2
      go_meet
      have e1 : (xs ++ [x]).length = n0 + 1 := by have := Hn0.out; simp; omega
      rw [e1] at hown
      refine ⟨rfl, bb, cap, ⟨?_, ?_, ?_⟩⟩
      · have := G.out.set 0 (by simp) (.slice (some ⟨bb, 0, none⟩) (n0 + 1) cap)
        simpa [e1, Hn0.out] using this
      · have := hown.butG ((KeepsBut.refl L w').setCell 0 (.slice (some ⟨bb, 0, none⟩) (n0 + 1) cap)) h1
        simpa [e1, Hn0.out] using this
      · exact ((KW.out.alloc _).drew.grown hgrow (by intro k hk; have := hob k hk; omega)).setCell h0 _
  case rest =>
    obtain ⟨rfl, b, cap, T⟩ := hcut
    generalize wc = X at *
    have TH : Hid (Line W0 L base (.slice (some ⟨b, 0, none⟩) (n0 + 1) cap) (xs ++ [x]) X) := T
    have l1 : X.cell? ⟨L, 0, none⟩ = some (.slice (some ⟨b, 0, none⟩) (n0 + 1) cap) := T.line.cells 0
    clear T z1 z2 b1 b2
    go_wp2_with fail
    go_loopw [4] (fun a wr => ∃ k : Nat, a = .int .i64 k ∧ ∃ ys, Sift xs x k ys ∧ Line W0 L base (.slice (some ⟨b, 0, none⟩) (n0 + 1) cap) ys wr) (fun a _ => (intOf a).toNat)
    case atStart => exact ⟨n0, by go_num, xs ++ [x], by have := Sift.start hh x; rw [Hn0.out] at this; exact this, TH.out⟩
    case round =>
      obtain ⟨k, rfl, ys, hS, hL⟩ := hrel
      have SH : Hid (Sift xs x k ys) := hS
      have LH : Hid (Line W0 L base (.slice (some ⟨b, 0, none⟩) (n0 + 1) cap) ys wr) := hL
      have Hl : Hid (ys.length = n0 + 1) := by show _ = _; rw [hS.len, Hn0.out]
      have hkn : k < n0 + 1 := by have := hS.lt; rw [Hl.out] at this; exact this
      clear l1 TH hS hL
      by_cases hk0 : k = 0
      · have hg : decide (0 < k) = false := by simp; omega
        have S0 : Sift xs x 0 ys := by have := SH.out; rw [hk0] at this; exact this
        have SE : Hid (Sifted xs x ys) := S0.atTop
        clear S0 hk0
        go_wp2
        go_end0
        exact ⟨rfl, _, ys, LH.out, SE.out⟩
      · have hg : decide (0 < k) = true := by simp; omega
        obtain ⟨m, hm⟩ : ∃ m, m = k - 1 := ⟨_, rfl⟩
        obtain ⟨p, hp⟩ : ∃ p, p = (k - 1) / 2 := ⟨_, rfl⟩
        have hp7 : p < k := by omega
        obtain ⟨y, hy⟩ : ∃ y, ys[(k - 1) / 2]? = some y := ⟨_, List.getElem?_eq_getElem (by have := Hl.out; omega)⟩
        have HY : Hid (ys[(k - 1) / 2]? = some y) := hy
        have HP : Hid (p = (k - 1) / 2) := hp
        have hpn : p < n0 + 1 := by omega
        have hki : (k : Int) < (n0 : Int) + 1 := by omega
        have hpi : (p : Int) < (n0 : Int) + 1 := by omega
        have e1 : (k : Int) - 1 = (m : Int) := by omega
        have e2 : IntKind.i64.wrap (m : Int) = (m : Int) := Go.IntWalk.i64_in _ (by omega)
        have e3 : Int.tdiv (m : Int) 2 = (p : Int) := by
          have : (m : Int).tdiv 2 = ((m / 2 : Nat) : Int) := rfl
          rw [this, hp, hm]
        have e4 : IntKind.i64.wrap (p : Int) = (p : Int) := Go.IntWalk.i64_in _ (by omega)
        obtain ⟨x00, x01⟩ := LH.out.at SH.out.me
        obtain ⟨y00, y01⟩ := LH.out.at hy
        rw [← hp] at y00 y01
        clear hm hp hy
        generalize wr = X at *
        have l1 : ∀ w', Keeps X w' → w'.cell? ⟨L, 0, none⟩ = some (.slice (some ⟨b, 0, none⟩) (n0 + 1) cap) := Keeps.has (LH.out.line.cells 0)
        have x0 : ∀ w', Keeps X w' → w'.cell? ⟨b, k * 7, none⟩ = some (.int .i64 x.no) := Keeps.has x00
        have x1 : ∀ w', Keeps X w' → w'.cell? ⟨b, k * 7 + 1, none⟩ = some (.int .i64 x.cls) := Keeps.has (x01 1 (by omega))
        have x2 : ∀ w', Keeps X w' → w'.cell? ⟨b, k * 7 + 2, none⟩ = some (.int .i64 x.cpu) := Keeps.has (x01 2 (by omega))
        have x3 : ∀ w', Keeps X w' → w'.cell? ⟨b, k * 7 + 3, none⟩ = some (.int .i64 x.st) := Keeps.has (x01 3 (by omega))
        have x4 : ∀ w', Keeps X w' → w'.cell? ⟨b, k * 7 + 4, none⟩ = some (.bool x.idle) := Keeps.has (x01 4 (by omega))
        have x5 : ∀ w', Keeps X w' → w'.cell? ⟨b, k * 7 + 5, none⟩ = some (.int .i64 x.nice) := Keeps.has (x01 5 (by omega))
        have x6 : ∀ w', Keeps X w' → w'.cell? ⟨b, k * 7 + 6, none⟩ = some (.int .i64 x.v) := Keeps.has (x01 6 (by omega))
        have y0 : ∀ w', Keeps X w' → w'.cell? ⟨b, p * 7, none⟩ = some (.int .i64 y.no) := Keeps.has y00
        have y1 : ∀ w', Keeps X w' → w'.cell? ⟨b, p * 7 + 1, none⟩ = some (.int .i64 y.cls) := Keeps.has (y01 1 (by omega))
        have y2 : ∀ w', Keeps X w' → w'.cell? ⟨b, p * 7 + 2, none⟩ = some (.int .i64 y.cpu) := Keeps.has (y01 2 (by omega))
        have y3 : ∀ w', Keeps X w' → w'.cell? ⟨b, p * 7 + 3, none⟩ = some (.int .i64 y.st) := Keeps.has (y01 3 (by omega))
        have y4 : ∀ w', Keeps X w' → w'.cell? ⟨b, p * 7 + 4, none⟩ = some (.bool y.idle) := Keeps.has (y01 4 (by omega))
        have y5 : ∀ w', Keeps X w' → w'.cell? ⟨b, p * 7 + 5, none⟩ = some (.int .i64 y.nice) := Keeps.has (y01 5 (by omega))
        have y6 : ∀ w', Keeps X w' → w'.cell? ⟨b, p * 7 + 6, none⟩ = some (.int .i64 y.v) := Keeps.has (y01 6 (by omega))
        clear x00 x01 y00 y01
        have hm := method_isBeforeR x
        go_wp2_with fail
        cases hbf : befV x y
        · have SE : Hid (Sifted xs x ys) := SH.out.stay (by omega) HY.out hbf
          refine wp_region_held_drew (S := (fun w' => Keeps X w')) (by kernel_rfl) ?_ (fun hHeld => ?_)
          · exact (Keeps.refl X).drew
          refine wpAnyH_take (i := 0) (v := ?_) (by simp only [List.getElem?_toArray, List.getElem?_cons_zero]; rfl) (by kernel_rfl) (by kernel_rfl) (by kernel_rfl) (by exact fun _ _ _ h => h) (Or.inl ⟨by rfl, ?_⟩) (by assumption) ?_
          rotate_left
          · (intro w hSw; (try dsimp only at hSw); go_simp; try (with_reducible rfl))
          try simp only [Act.put, List.setIfInBounds_toArray, List.set_cons_zero, List.set_cons_succ]
          refine wpAnyH_take (i := 1) (v := ?_) (by simp only [List.getElem?_toArray, List.getElem?_cons_succ, List.getElem?_cons_zero]; rfl) (by kernel_rfl) (by kernel_rfl) (by kernel_rfl) (by exact fun _ _ _ h => h) (Or.inl ⟨by rfl, ?_⟩) (by assumption) ?_
          rotate_left
          · (intro w hSw; (try dsimp only at hSw); go_simp; try (with_reducible rfl))
          try simp only [Act.put, List.setIfInBounds_toArray, List.set_cons_zero, List.set_cons_succ]
          refine wpAnyH_take (i := 2) (v := ?_) (by simp only [List.getElem?_toArray, List.getElem?_cons_succ, List.getElem?_cons_zero]; rfl) (by kernel_rfl) (by kernel_rfl) (by kernel_rfl) (by exact fun _ _ _ h => h) (Or.inl ⟨by rfl, ?_⟩) (by assumption) ?_
          rotate_left
          · (intro w hSw; (try dsimp only at hSw); go_simp; try (with_reducible rfl))
          try simp only [Act.put, List.setIfInBounds_toArray, List.set_cons_zero, List.set_cons_succ]
          refine wpAnyH_take (i := 3) (v := ?_) (by simp only [List.getElem?_toArray, List.getElem?_cons_succ, List.getElem?_cons_zero]; rfl) (by kernel_rfl) (by kernel_rfl) (by kernel_rfl) (by exact fun _ _ _ h => h) (Or.inl ⟨by rfl, ?_⟩) (by assumption) ?_
          rotate_left
          · (intro w hSw; (try dsimp only at hSw); go_simp; try (with_reducible rfl))
          try simp only [Act.put, List.setIfInBounds_toArray, List.set_cons_zero, List.set_cons_succ]
          refine wpAnyH_take (i := 4) (v := ?_) (by simp only [List.getElem?_toArray, List.getElem?_cons_succ, List.getElem?_cons_zero]; rfl) (by kernel_rfl) (by kernel_rfl) (by kernel_rfl) (by exact fun _ _ _ h => h) (Or.inl ⟨by rfl, ?_⟩) (by assumption) ?_
          rotate_left
          · (intro w hSw; (try dsimp only at hSw); go_simp; try (with_reducible rfl))
          try simp only [Act.put, List.setIfInBounds_toArray, List.set_cons_zero, List.set_cons_succ]
          refine wpAnyH_take (i := 5) (v := ?_) (by simp only [List.getElem?_toArray, List.getElem?_cons_succ, List.getElem?_cons_zero]; rfl) (by kernel_rfl) (by kernel_rfl) (by kernel_rfl) (by exact fun _ _ _ h => h) (Or.inl ⟨by rfl, ?_⟩) (by assumption) ?_
          rotate_left
          · (intro w hSw; (try dsimp only at hSw); go_simp; try (with_reducible rfl))
          try simp only [Act.put, List.setIfInBounds_toArray, List.set_cons_zero, List.set_cons_succ]
          refine wpAnyH_take (i := 6) (v := ?_) (by simp only [List.getElem?_toArray, List.getElem?_cons_succ, List.getElem?_cons_zero]; rfl) (by kernel_rfl) (by kernel_rfl) (by kernel_rfl) (by exact fun _ _ _ h => h) (Or.inl ⟨by rfl, ?_⟩) (by assumption) ?_
          rotate_left
          · (intro w hSw; (try dsimp only at hSw); go_simp; try (with_reducible rfl))
          try simp only [Act.put, List.setIfInBounds_toArray, List.set_cons_zero, List.set_cons_succ]
          refine wpAnyH_take (i := 7) (v := ?_) (by simp only [List.getElem?_toArray, List.getElem?_cons_succ, List.getElem?_cons_zero]; rfl) (by kernel_rfl) (by kernel_rfl) (by kernel_rfl) (by exact fun _ _ _ h => h) (Or.inl ⟨by rfl, ?_⟩) (by assumption) ?_
          rotate_left
          · (intro w hSw; (try dsimp only at hSw); go_simp; try (with_reducible rfl))
          try simp only [Act.put, List.setIfInBounds_toArray, List.set_cons_zero, List.set_cons_succ]
          refine wpAnyH_take (i := 8) (v := ?_) (by simp only [List.getElem?_toArray, List.getElem?_cons_succ, List.getElem?_cons_zero]; rfl) (by kernel_rfl) (by kernel_rfl) (by kernel_rfl) (by exact fun _ _ _ h => h) (Or.inl ⟨by rfl, ?_⟩) (by assumption) ?_
          rotate_left
          · (intro w hSw; (try dsimp only at hSw); go_simp; try (with_reducible rfl))
          try simp only [Act.put, List.setIfInBounds_toArray, List.set_cons_zero, List.set_cons_succ]
          refine wpAnyH_take (i := 9) (v := ?_) (by simp only [List.getElem?_toArray, List.getElem?_cons_succ, List.getElem?_cons_zero]; rfl) (by kernel_rfl) (by kernel_rfl) (by kernel_rfl) (by exact fun _ _ _ h => h) (Or.inl ⟨by rfl, ?_⟩) (by assumption) ?_
          rotate_left
          · (intro w hSw; (try dsimp only at hSw); go_simp; try (with_reducible rfl))
          try simp only [Act.put, List.setIfInBounds_toArray, List.set_cons_zero, List.set_cons_succ]
          refine wpAnyH_take (i := 10) (v := ?_) (by simp only [List.getElem?_toArray, List.getElem?_cons_succ, List.getElem?_cons_zero]; rfl) (by kernel_rfl) (by kernel_rfl) (by kernel_rfl) (by exact fun _ _ _ h => h) (Or.inl ⟨by rfl, ?_⟩) (by assumption) ?_
          rotate_left
          · (intro w hSw; (try dsimp only at hSw); go_simp; try (with_reducible rfl))
          try simp only [Act.put, List.setIfInBounds_toArray, List.set_cons_zero, List.set_cons_succ]
          refine wpAnyH_take (i := 11) (v := ?_) (by simp only [List.getElem?_toArray, List.getElem?_cons_succ, List.getElem?_cons_zero]; rfl) (by kernel_rfl) (by kernel_rfl) (by kernel_rfl) (by exact fun _ _ _ h => h) (Or.inl ⟨by rfl, ?_⟩) (by assumption) ?_
          rotate_left
          · (intro w hSw; (try dsimp only at hSw); go_simp; try (with_reducible rfl))
          try simp only [Act.put, List.setIfInBounds_toArray, List.set_cons_zero, List.set_cons_succ]
          refine wpAnyH_take (i := 12) (v := ?_) (by simp only [List.getElem?_toArray, List.getElem?_cons_succ, List.getElem?_cons_zero]; rfl) (by kernel_rfl) (by kernel_rfl) (by kernel_rfl) (by exact fun _ _ _ h => h) (Or.inl ⟨by rfl, ?_⟩) (by assumption) ?_
          rotate_left
          · (intro w hSw; (try dsimp only at hSw); go_simp; try (with_reducible rfl))
          try simp only [Act.put, List.setIfInBounds_toArray, List.set_cons_zero, List.set_cons_succ]
          refine wpAnyH_take (i := 13) (v := ?_) (by simp only [List.getElem?_toArray, List.getElem?_cons_succ, List.getElem?_cons_zero]; rfl) (by kernel_rfl) (by kernel_rfl) (by kernel_rfl) (by exact fun _ _ _ h => h) (Or.inl ⟨by rfl, ?_⟩) (by assumption) ?_
          rotate_left
          · (intro w hSw; (try dsimp only at hSw); go_simp; try (with_reducible rfl))
          try simp only [Act.put, List.setIfInBounds_toArray, List.set_cons_zero, List.set_cons_succ]
          refine wpAnyH_take (i := 14) (v := ?_) (by simp only [List.getElem?_toArray, List.getElem?_cons_succ, List.getElem?_cons_zero]; rfl) (by kernel_rfl) (by kernel_rfl) (by kernel_rfl) (by exact fun _ _ _ h => h) (Or.inl ⟨by rfl, ?_⟩) (by assumption) ?_
          rotate_left
          · (intro w hSw; (try dsimp only at hSw); go_simp; try (with_reducible rfl))
          try simp only [Act.put, List.setIfInBounds_toArray, List.set_cons_zero, List.set_cons_succ]
          refine wpAnyH_ready (rs := [15]) (by kernel_rfl) (by simp) ?_
          refine AllReadyH.cons (by simp only [List.getElem?_toArray, List.getElem?_cons_succ, List.getElem?_cons_zero]; rfl) (fun K hK => ?_) AllReadyH.nil
          go_simp
          first
            | (go_at_call 124; refine (isBeforeR_any x y _).mono ?_; rintro e w5 ⟨rfl, k5⟩; rw [hbf])
          try go_wp2_with fail
          refine hK.out _ _ ?_ (fun hHeld => ?_)
          · exact Keeps.trans (by assumption) (by assumption)
          clear hK K
          try simp only [Act.put, List.setIfInBounds_toArray, List.set_cons_zero, List.set_cons_succ]
          refine wpAnyH_take (i := 16) (v := ?_) (by simp only [List.getElem?_toArray, List.getElem?_cons_succ, List.getElem?_cons_zero]; rfl) (by kernel_rfl) (by kernel_rfl) (by kernel_rfl) (by exact fun _ _ _ h => h) (Or.inl ⟨by rfl, ?_⟩) (by assumption) ?_
          rotate_left
          · (intro w hSw; (try dsimp only at hSw); go_simp; try (with_reducible rfl))
          try simp only [Act.put, List.setIfInBounds_toArray, List.set_cons_zero, List.set_cons_succ]
          refine wpAnyH_done (by kernel_rfl) ?_ _
          have K5 : Keeps X w5 := by assumption
          go_wp2
          exact bodyPost_ret (v := .tuple #[]) (results_none rfl _ _ _) rfl ⟨rfl, _, ys, LH.out.go K5, SE.out⟩
        · have SU : Hid (Sift xs x p ((ys.set k y).set p x)) := by have := SH.out.up (by omega) HY.out hbf; rw [← HP.out] at this; exact this
          refine wp_region_held_drew (S := (fun w' => Keeps X w')) (by kernel_rfl) ?_ (fun hHeld => ?_)
          · exact (Keeps.refl X).drew
          refine wpAnyH_take (i := 0) (v := ?_) (by simp only [List.getElem?_toArray, List.getElem?_cons_zero]; rfl) (by kernel_rfl) (by kernel_rfl) (by kernel_rfl) (by exact fun _ _ _ h => h) (Or.inl ⟨by rfl, ?_⟩) (by assumption) ?_
          rotate_left
          · (intro w hSw; (try dsimp only at hSw); go_simp; try (with_reducible rfl))
          try simp only [Act.put, List.setIfInBounds_toArray, List.set_cons_zero, List.set_cons_succ]
          refine wpAnyH_take (i := 1) (v := ?_) (by simp only [List.getElem?_toArray, List.getElem?_cons_succ, List.getElem?_cons_zero]; rfl) (by kernel_rfl) (by kernel_rfl) (by kernel_rfl) (by exact fun _ _ _ h => h) (Or.inl ⟨by rfl, ?_⟩) (by assumption) ?_
          rotate_left
          · (intro w hSw; (try dsimp only at hSw); go_simp; try (with_reducible rfl))
          try simp only [Act.put, List.setIfInBounds_toArray, List.set_cons_zero, List.set_cons_succ]
          refine wpAnyH_take (i := 2) (v := ?_) (by simp only [List.getElem?_toArray, List.getElem?_cons_succ, List.getElem?_cons_zero]; rfl) (by kernel_rfl) (by kernel_rfl) (by kernel_rfl) (by exact fun _ _ _ h => h) (Or.inl ⟨by rfl, ?_⟩) (by assumption) ?_
          rotate_left
          · (intro w hSw; (try dsimp only at hSw); go_simp; try (with_reducible rfl))
          try simp only [Act.put, List.setIfInBounds_toArray, List.set_cons_zero, List.set_cons_succ]
          refine wpAnyH_take (i := 3) (v := ?_) (by simp only [List.getElem?_toArray, List.getElem?_cons_succ, List.getElem?_cons_zero]; rfl) (by kernel_rfl) (by kernel_rfl) (by kernel_rfl) (by exact fun _ _ _ h => h) (Or.inl ⟨by rfl, ?_⟩) (by assumption) ?_
          rotate_left
          · (intro w hSw; (try dsimp only at hSw); go_simp; try (with_reducible rfl))
          try simp only [Act.put, List.setIfInBounds_toArray, List.set_cons_zero, List.set_cons_succ]
          refine wpAnyH_take (i := 4) (v := ?_) (by simp only [List.getElem?_toArray, List.getElem?_cons_succ, List.getElem?_cons_zero]; rfl) (by kernel_rfl) (by kernel_rfl) (by kernel_rfl) (by exact fun _ _ _ h => h) (Or.inl ⟨by rfl, ?_⟩) (by assumption) ?_
          rotate_left
          · (intro w hSw; (try dsimp only at hSw); go_simp; try (with_reducible rfl))
          try simp only [Act.put, List.setIfInBounds_toArray, List.set_cons_zero, List.set_cons_succ]
          refine wpAnyH_take (i := 5) (v := ?_) (by simp only [List.getElem?_toArray, List.getElem?_cons_succ, List.getElem?_cons_zero]; rfl) (by kernel_rfl) (by kernel_rfl) (by kernel_rfl) (by exact fun _ _ _ h => h) (Or.inl ⟨by rfl, ?_⟩) (by assumption) ?_
          rotate_left
          · (intro w hSw; (try dsimp only at hSw); go_simp; try (with_reducible rfl))
          try simp only [Act.put, List.setIfInBounds_toArray, List.set_cons_zero, List.set_cons_succ]
          refine wpAnyH_take (i := 6) (v := ?_) (by simp only [List.getElem?_toArray, List.getElem?_cons_succ, List.getElem?_cons_zero]; rfl) (by kernel_rfl) (by kernel_rfl) (by kernel_rfl) (by exact fun _ _ _ h => h) (Or.inl ⟨by rfl, ?_⟩) (by assumption) ?_
          rotate_left
          · (intro w hSw; (try dsimp only at hSw); go_simp; try (with_reducible rfl))
          try simp only [Act.put, List.setIfInBounds_toArray, List.set_cons_zero, List.set_cons_succ]
          refine wpAnyH_take (i := 7) (v := ?_) (by simp only [List.getElem?_toArray, List.getElem?_cons_succ, List.getElem?_cons_zero]; rfl) (by kernel_rfl) (by kernel_rfl) (by kernel_rfl) (by exact fun _ _ _ h => h) (Or.inl ⟨by rfl, ?_⟩) (by assumption) ?_
          rotate_left
          · (intro w hSw; (try dsimp only at hSw); go_simp; try (with_reducible rfl))
          try simp only [Act.put, List.setIfInBounds_toArray, List.set_cons_zero, List.set_cons_succ]
          refine wpAnyH_take (i := 8) (v := ?_) (by simp only [List.getElem?_toArray, List.getElem?_cons_succ, List.getElem?_cons_zero]; rfl) (by kernel_rfl) (by kernel_rfl) (by kernel_rfl) (by exact fun _ _ _ h => h) (Or.inl ⟨by rfl, ?_⟩) (by assumption) ?_
          rotate_left
          · (intro w hSw; (try dsimp only at hSw); go_simp; try (with_reducible rfl))
          try simp only [Act.put, List.setIfInBounds_toArray, List.set_cons_zero, List.set_cons_succ]
          refine wpAnyH_take (i := 9) (v := ?_) (by simp only [List.getElem?_toArray, List.getElem?_cons_succ, List.getElem?_cons_zero]; rfl) (by kernel_rfl) (by kernel_rfl) (by kernel_rfl) (by exact fun _ _ _ h => h) (Or.inl ⟨by rfl, ?_⟩) (by assumption) ?_
          rotate_left
          · (intro w hSw; (try dsimp only at hSw); go_simp; try (with_reducible rfl))
          try simp only [Act.put, List.setIfInBounds_toArray, List.set_cons_zero, List.set_cons_succ]
          refine wpAnyH_take (i := 10) (v := ?_) (by simp only [List.getElem?_toArray, List.getElem?_cons_succ, List.getElem?_cons_zero]; rfl) (by kernel_rfl) (by kernel_rfl) (by kernel_rfl) (by exact fun _ _ _ h => h) (Or.inl ⟨by rfl, ?_⟩) (by assumption) ?_
          rotate_left
          · (intro w hSw; (try dsimp only at hSw); go_simp; try (with_reducible rfl))
          try simp only [Act.put, List.setIfInBounds_toArray, List.set_cons_zero, List.set_cons_succ]
          refine wpAnyH_take (i := 11) (v := ?_) (by simp only [List.getElem?_toArray, List.getElem?_cons_succ, List.getElem?_cons_zero]; rfl) (by kernel_rfl) (by kernel_rfl) (by kernel_rfl) (by exact fun _ _ _ h => h) (Or.inl ⟨by rfl, ?_⟩) (by assumption) ?_
          rotate_left
          · (intro w hSw; (try dsimp only at hSw); go_simp; try (with_reducible rfl))
          try simp only [Act.put, List.setIfInBounds_toArray, List.set_cons_zero, List.set_cons_succ]
          refine wpAnyH_take (i := 12) (v := ?_) (by simp only [List.getElem?_toArray, List.getElem?_cons_succ, List.getElem?_cons_zero]; rfl) (by kernel_rfl) (by kernel_rfl) (by kernel_rfl) (by exact fun _ _ _ h => h) (Or.inl ⟨by rfl, ?_⟩) (by assumption) ?_
          rotate_left
          · (intro w hSw; (try dsimp only at hSw); go_simp; try (with_reducible rfl))
          try simp only [Act.put, List.setIfInBounds_toArray, List.set_cons_zero, List.set_cons_succ]
          refine wpAnyH_take (i := 13) (v := ?_) (by simp only [List.getElem?_toArray, List.getElem?_cons_succ, List.getElem?_cons_zero]; rfl) (by kernel_rfl) (by kernel_rfl) (by kernel_rfl) (by exact fun _ _ _ h => h) (Or.inl ⟨by rfl, ?_⟩) (by assumption) ?_
          rotate_left
          · (intro w hSw; (try dsimp only at hSw); go_simp; try (with_reducible rfl))
          try simp only [Act.put, List.setIfInBounds_toArray, List.set_cons_zero, List.set_cons_succ]
          refine wpAnyH_take (i := 14) (v := ?_) (by simp only [List.getElem?_toArray, List.getElem?_cons_succ, List.getElem?_cons_zero]; rfl) (by kernel_rfl) (by kernel_rfl) (by kernel_rfl) (by exact fun _ _ _ h => h) (Or.inl ⟨by rfl, ?_⟩) (by assumption) ?_
          rotate_left
          · (intro w hSw; (try dsimp only at hSw); go_simp; try (with_reducible rfl))
          try simp only [Act.put, List.setIfInBounds_toArray, List.set_cons_zero, List.set_cons_succ]
          refine wpAnyH_ready (rs := [15]) (by kernel_rfl) (by simp) ?_
          refine AllReadyH.cons (by simp only [List.getElem?_toArray, List.getElem?_cons_succ, List.getElem?_cons_zero]; rfl) (fun K hK => ?_) AllReadyH.nil
          go_simp
          first
            | (go_at_call 124; refine (isBeforeR_any x y _).mono ?_; rintro e w5 ⟨rfl, k5⟩; rw [hbf])
          try go_wp2_with fail
          refine hK.out _ _ ?_ (fun hHeld => ?_)
          · exact Keeps.trans (by assumption) (by assumption)
          clear hK K
          try simp only [Act.put, List.setIfInBounds_toArray, List.set_cons_zero, List.set_cons_succ]
          refine wpAnyH_take (i := 16) (v := ?_) (by simp only [List.getElem?_toArray, List.getElem?_cons_succ, List.getElem?_cons_zero]; rfl) (by kernel_rfl) (by kernel_rfl) (by kernel_rfl) (by exact fun _ _ _ h => h) (Or.inl ⟨by rfl, ?_⟩) (by assumption) ?_
          rotate_left
          · (intro w hSw; (try dsimp only at hSw); go_simp; try (with_reducible rfl))
          try simp only [Act.put, List.setIfInBounds_toArray, List.set_cons_zero, List.set_cons_succ]
          refine wpAnyH_done (by kernel_rfl) ?_ _
          have K5 : Keeps X w5 := by assumption
          have ll : w5.cell? ⟨L, 0, none⟩ = some (.slice (some ⟨b, 0, none⟩) (n0 + 1) cap) := l1 _ K5
          obtain ⟨-, -, fr⟩ := (LH.out.go K5).own.free
          have v0 : w5.cell? ⟨b, k * 7, none⟩ = some (.int .i64 x.no) := x0 _ K5
          have v1 : w5.cell? ⟨b, k * 7 + 1, none⟩ = some (.int .i64 x.cls) := x1 _ K5
          have v2 : w5.cell? ⟨b, k * 7 + 2, none⟩ = some (.int .i64 x.cpu) := x2 _ K5
          have v3 : w5.cell? ⟨b, k * 7 + 3, none⟩ = some (.int .i64 x.st) := x3 _ K5
          have v4 : w5.cell? ⟨b, k * 7 + 4, none⟩ = some (.bool x.idle) := x4 _ K5
          have v5 : w5.cell? ⟨b, k * 7 + 5, none⟩ = some (.int .i64 x.nice) := x5 _ K5
          have v6 : w5.cell? ⟨b, k * 7 + 6, none⟩ = some (.int .i64 x.v) := x6 _ K5
          have u0 : w5.cell? ⟨b, p * 7, none⟩ = some (.int .i64 y.no) := y0 _ K5
          have u1 : w5.cell? ⟨b, p * 7 + 1, none⟩ = some (.int .i64 y.cls) := y1 _ K5
          have u2 : w5.cell? ⟨b, p * 7 + 2, none⟩ = some (.int .i64 y.cpu) := y2 _ K5
          have u3 : w5.cell? ⟨b, p * 7 + 3, none⟩ = some (.int .i64 y.st) := y3 _ K5
          have u4 : w5.cell? ⟨b, p * 7 + 4, none⟩ = some (.bool y.idle) := y4 _ K5
          have u5 : w5.cell? ⟨b, p * 7 + 5, none⟩ = some (.int .i64 y.nice) := y5 _ K5
          have u6 : w5.cell? ⟨b, p * 7 + 6, none⟩ = some (.int .i64 y.v) := y6 _ K5
          clear l1 x0 x1 x2 x3 x4 x5 x6 y0 y1 y2 y3 y4 y5 y6 k5 hHeld
          go_wp2_with fail
          go_region
          have D := (LH.out.go K5).swap (k := k) (m := p) (by have := Hl.out; omega) (by have := Hl.out; omega) Hl.out h1 h0 x y
          change Exit.then _ _ _ _ (putC (putC w5 b (k * 7) (rtc y).toList) b (p * 7) (rtc x).toList).drew
          clear u0 u1 u2 u3 u4 u5 u6 v0 v1 v2 v3 v4 v5 v6 fr ll
          generalize (putC (putC w5 b (k * 7) (rtc y).toList) b (p * 7) (rtc x).toList).drew = Y at D ⊢
          have DH : Hid (Line W0 L base (.slice (some ⟨b, 0, none⟩) (n0 + 1) cap) ((ys.set k y).set p x) Y) := D
          clear D
          go_wp2
          go_roundw
          case rel => exact ⟨p, rfl, _, SU.out, DH.out⟩
          case measure => simp only [intOf]; omega
end Go.Proofs.Ytdndgacaohmdnaa
namespace Go.Proofs.Ytdndgacaohmdnaa
open Go.RowKit

theorem nine0 {x : Int} (h1 : 0 ≤ x) (h2 : x ≤ 8) : x = 0 ∨ x = 1 ∨ x = 2 ∨ x = 3 ∨ x = 4 ∨ x = 5 ∨ x = 6 ∨ x = 7 ∨ x = 8 := by omega

set_option maxRecDepth 100000 in
set_option maxHeartbeats 1000000 in
theorem weightFor_any (p : Int) (w : World) (h1 : 0 ≤ p) (h2 : p ≤ 8) :
    Calls Try.prog 96 #[.int .i64 p] w fun e w' => e = .returned (.int .i64 (weightI (p - 4))) ∧ w' = w := by
  rcases nine0 h1 h2 with rfl | rfl | rfl | rfl | rfl | rfl | rfl | rfl | rfl <;>
  · clear h1 h2
    go_enter Try.func96, Try.ntmps96
    go_wp2
    go_ret
    exact ⟨rfl, rfl⟩

set_option maxRecDepth 100000 in
theorem implWeightOf_says : SaysWeightOf := by
  intro x w
  cases h : inB x (-4) 4
  · have Hr : Hid (weightI x = 0) := weightI_no h
    go_enter Try.func80, Try.ntmps80
    go_wp2_with (go_at_call 79; refine (implNiceOk_any _ _).mono ?_; rintro e w' ⟨rfl, rfl⟩)
    go_ret
    exact ⟨by rw [Hr.out]; rfl, Keeps.refl _⟩
  · obtain ⟨h1, h2⟩ := inB_iff.1 h
    go_enter Try.func80, Try.ntmps80
    go_wp2_with (first
      | (go_at_call 79; refine (implNiceOk_any _ _).mono ?_; rintro e w' ⟨rfl, rfl⟩)
      | (go_at_call 96; refine (weightFor_any (x + 4) _ (by omega) (by omega)).mono ?_; rintro e w' ⟨rfl, rfl⟩))
    go_ret
    exact ⟨rfl, Keeps.refl _⟩

set_option maxRecDepth 100000 in
set_option maxHeartbeats 1000000 in
theorem implStepOf_says : SaysStepOf := by
  intro x w
  cases h : inB x (-4) 4
  · have Hr : Hid (stepI x = 0) := stepI_no h
    go_enter Try.func30, Try.ntmps30
    go_wp2_with (go_at_call 79; refine (implNiceOk_any _ _).mono ?_; rintro e w' ⟨rfl, rfl⟩)
    go_ret
    exact ⟨by rw [Hr.out]; rfl, Keeps.refl _⟩
  · obtain ⟨h1, h2⟩ := inB_iff.1 h
    rcases nine h1 h2 with rfl | rfl | rfl | rfl | rfl | rfl | rfl | rfl | rfl <;>
    · clear h h1 h2
      go_enter Try.func30, Try.ntmps30
      go_wp2_with (first
        | (go_at_call 79; refine (implNiceOk_any _ _).mono ?_; rintro e w' ⟨rfl, rfl⟩)
        | (go_at_call 80; refine (implWeightOf_says _ _).mono ?_; rintro e w' ⟨rfl, k⟩))
      go_ret
      exact ⟨congrArg (fun z => Ending.returned (Value.int .i64 z)) (show wrap64 (Int.tdiv 48 (weightI _)) = stepI _ by kernel_rfl), k⟩
end Go.Proofs.Ytdndgacaohmdnaa
namespace Go.Proofs.Ytdndgacaohmdnaa
open Go.RowKit

theorem asFair_of {t : Tsk} (h : t.q = 0 ∧ t.p = 0 ∧ t.left = 0 ∧ t.due = 0 ∧ t.prio = 0 ∧ t.round = 0 ∧ t.seq = 0) : t.asFair = t := by
  obtain ⟨no, cls, cpu, st, idle, q, p, left, due, prio, round, seq, nice, v⟩ := t
  obtain ⟨rfl, rfl, rfl, rfl, rfl, rfl, rfl⟩ := h
  rfl

/-- The next, if it is right. -/
def rightT (s t : Tsk) : Tsk := if taskB s then s else t
theorem right_fair {s t : Tsk} (hc : s.cls = 3) : rightT s t = if fairB s then s else t := by simp [rightT, fairB, hc]
theorem right_to {t : Tsk} (H : IsFair t) (x : Int) : rightT { t with v := x } t = fairTo t x := by
  rw [right_fair (s := { t with v := x }) H.cls]
  unfold fairTo
  cases hx : inB x 0 100000000
  · rw [if_neg (by rw [fairB_iff]; intro h; have := h.v; have h2 : inB x 0 100000000 = true := inB_iff.2 this; rw [hx] at h2; cases h2), if_neg (by simp)]
  · rw [if_pos rfl, if_pos ((fairB_iff { t with v := x }).2 ⟨H.cls, H.no, H.cpu, H.st, H.nice, inB_iff.1 hx, H.none⟩)]
theorem right_mv {t : Tsk} (H : IsFair t) {cpu frm dst : Int} (h1 : inB frm 0 100000000 = true) (h2 : inB dst 0 100000000 = true) : rightT { t with cpu := cpu, v := dst + max (t.v - frm) 0 } t = fairMoveT t cpu frm dst := by
  rw [right_fair (s := { t with cpu := cpu, v := dst + max (t.v - frm) 0 }) H.cls]
  unfold fairMoveT moveB
  rw [(fairB_iff t).2 H, h1, h2]
  have g1 := inB_iff.1 h1
  have g2 := inB_iff.1 h2
  have hv := H.v
  cases hx : inB cpu 0 3
  · rw [if_neg (by rw [fairB_iff]; intro h; have h2 : inB cpu 0 3 = true := inB_iff.2 h.cpu; rw [hx] at h2; cases h2)]
    simp
  · by_cases hb : 100000000 < dst + max (t.v - frm) 0
    · rw [if_neg (by rw [fairB_iff]; intro h; have := h.v.2; dsimp only at this; omega), if_neg (by simp [hb])]
    · rw [if_pos ((fairB_iff { t with cpu := cpu, v := dst + max (t.v - frm) 0 }).2 ⟨H.cls, H.no, inB_iff.1 hx, H.st, H.nice, ⟨by dsimp only; omega, by dsimp only; omega⟩, H.none⟩), if_pos (by simp [hb])]
end Go.Proofs.Ytdndgacaohmdnaa
namespace Go.Proofs.Ytdndgacaohmdnaa
open Go.RowKit
attribute [local go_sem] Keeps.refl Keeps.alloc Keeps.drew Keeps.drewN

set_option maxRecDepth 100000 in
theorem isFair_any (t : Tsk) (w : World) :
    Calls Try.prog 56 #[tk t] w fun e w' => e = .returned (.bool (fairB t)) ∧ Keeps w w' := by
  cases c1 : (t.cls == 3)
  · have Hr : Hid (fairB t = false) := by show _ = _; simp [fairB, c1]
    go_enter Try.func56, Try.ntmps56
    go_wp2
    go_ret
    exact ⟨by rw [Hr.out]; rfl, (Keeps.refl _).alloc _⟩
  · have Hr : Hid (fairB t = taskB t) := by show _ = _; simp [fairB, c1]
    go_enter Try.func56, Try.ntmps56
    go_wp2_with (go_at_call 23; refine (implTaskOk_says t _).mono ?_; rintro e w1 ⟨rfl, k1⟩)
    go_ret
    exact ⟨by rw [Hr.out]; rfl, ((Keeps.refl w).alloc _).trans k1⟩

set_option maxRecDepth 100000 in
set_option maxHeartbeats 1000000 in
theorem rightOr_any (s t : Tsk) (w : World) :
    Calls Try.prog 70 #[tk s, tk t] w fun e w' => e = .returned (tk (rightT s t)) ∧ Keeps w w' := by
  go_enter Try.func70, Try.ntmps70
  go_wp2_with fail
  have B1 := ((Blk.new w (tc s) 25).alloc (.cells (tc t) 25)).alloc (.cells (tc Tsk.zero) 25)
  have B2 := (Blk.new (w.alloc (.cells (tc s) 25)) (tc t) 25).alloc (.cells (tc Tsk.zero) 25)
  have B3 := Blk.new ((w.alloc (.cells (tc s) 25)).alloc (.cells (tc t) 25)) (tc Tsk.zero) 25
  have K0 : Keeps w (((w.alloc (.cells (tc s) 25)).alloc (.cells (tc t) 25)).alloc (.cells (tc Tsk.zero) 25)) := (((Keeps.refl w).alloc _).alloc _).alloc _
  simp only [World.size_alloc] at B2 B3
  refine (implTaskOk_says s _).mono ?_
  rintro e w1 ⟨rfl, k1⟩
  have R : Hid (Blk w1 (w.heap.size + 1 + 1) (tc Tsk.zero)) := B3.keeps k1
  have K1 : Hid (Keeps w w1) := K0.trans k1
  obtain ⟨_, b1, b2⟩ := B1.keeps k1
  obtain ⟨_, c1, c2⟩ := B2.keeps k1
  obtain ⟨_, d1, d2⟩ := B3.keeps k1
  clear B1 B2 B3 K0 k1
  cases hs : taskB s
  · have Hn : Hid (rightT s t = t) := by show _ = _; simp [rightT, hs]
    go_wp2
    have D := R.out.putC (tc t).toList rfl
    have K := Keeps.putC (b := w.heap.size + 1 + 1) (by omega) (tc t).toList 0 K1.out
    change bodyPost _ _ _ _ _ (putC w1 (w.heap.size + 1 + 1) 0 (tc t).toList)
    generalize putC w1 (w.heap.size + 1 + 1) 0 (tc t).toList = X at D K ⊢
    exact bodyPost_ret (v := tk t) (by simp [results, Try.results70, go_sem, D.cells]) rfl ⟨by rw [Hn.out], K⟩
  · have Hn : Hid (rightT s t = s) := by show _ = _; simp [rightT, hs]
    go_wp2
    have D := R.out.putC (tc s).toList rfl
    have K := Keeps.putC (b := w.heap.size + 1 + 1) (by omega) (tc s).toList 0 K1.out
    change bodyPost _ _ _ _ _ (putC w1 (w.heap.size + 1 + 1) 0 (tc s).toList)
    generalize putC w1 (w.heap.size + 1 + 1) 0 (tc s).toList = X at D K ⊢
    exact bodyPost_ret (v := tk s) (by simp [results, Try.results70, go_sem, D.cells]) rfl ⟨by rw [Hn.out], K⟩

set_option maxRecDepth 100000 in
theorem above_any (t : Tsk) (floor : Int) (w : World) (h : 0 ≤ t.v ∧ t.v ≤ 100000000) (hf : 0 ≤ floor ∧ floor ≤ 100000000) :
    Calls Try.prog 85 #[.agg (rnc t), .int .i64 floor] w fun e w' => e = .returned (.int .i64 (max (t.v - floor) 0)) ∧ Keeps w w' := by
  obtain ⟨h1, h2⟩ := h
  obtain ⟨h3, h4⟩ := hf
  have e1 : IntKind.i64.wrap (t.v - floor) = t.v - floor := Go.IntWalk.i64_in _ (by omega)
  by_cases h : t.v - floor < 0
  · have Hm : Hid (max (t.v - floor) 0 = 0) := by show _ = _; omega
    go_enter Try.func85, Try.ntmps85
    go_wp2
    go_ret
    exact ⟨by rw [Hm.out]; rfl, (Keeps.refl _).alloc _⟩
  · have Hm : Hid (max (t.v - floor) 0 = t.v - floor) := by show _ = _; omega
    go_enter Try.func85, Try.ntmps85
    go_wp2
    go_ret
    exact ⟨by rw [Hm.out]; rfl, (Keeps.refl _).alloc _⟩
/-- Nothing old has turned, and two blocks hold their cells. -/
structure Has2 (w : World) (b : Nat) (C : Array Value) (b' : Nat) (C' : Array Value) (w' : World) : Prop where
  keeps : Keeps w w'
  box : Blk w' b C
  box2 : Blk w' b' C'
theorem Has2.go {w : World} {b b' : Nat} {C C' : Array Value} {w1 w2 : World} (h : Has2 w b C b' C' w1) (k : Keeps w1 w2) : Has2 w b C b' C' w2 := ⟨h.keeps.trans k, h.box.keeps k, h.box2.keeps k⟩
theorem Has2.put {w : World} {b b' : Nat} {C C' : Array Value} {w1 : World} (h : Has2 w b C b' C' w1) {r : Nat} (hr : w.heap.size ≤ r) (hb : r ≠ b) (hb' : r ≠ b') (k : Nat) (L : List Value) : Has2 w b C b' C' (putC w1 r k L) := ⟨Keeps.putC hr L k h.keeps, Blk.farC hb L k h.box, Blk.farC hb' L k h.box2⟩
end Go.Proofs.Ytdndgacaohmdnaa
namespace Go.Proofs.Ytdndgacaohmdnaa
open Go.RowKit Go.Shelf
attribute [local go_sem] Keeps.refl Keeps.alloc Keeps.drew Keeps.drewN

/-- Every block of cells from B on lies as it lay. -/
def KC (B : Nat) (W W' : World) : Prop := W.heap.size ≤ W'.heap.size ∧ ∀ k o, B ≤ k → W.heap[k]? = some o → o.isCells = true → W'.heap[k]? = some o
theorem KC.refl (B : Nat) (W : World) : KC B W W := ⟨Nat.le_refl _, fun _ _ _ h _ => h⟩
theorem KC.trans {B : Nat} {X Y Z : World} (h : KC B X Y) (k : KC B Y Z) : KC B X Z := ⟨Nat.le_trans h.1 k.1, fun i o hB hi ho => k.2 i o hB (h.2 i o hB hi ho) ho⟩
theorem KC.of {B : Nat} {W W' : World} (h : Keeps W W') : KC B W W' := ⟨h.size, fun k _ _ hk _ => (Below.block h k (Array.getElem?_eq_some_iff.1 hk).1).trans hk⟩
theorem KC.putObj {B : Nat} (W : World) (l : Nat) (o o' : Obj) (h : W.heap[l]? = some o) (hc : o.isCells = false) : KC B W (W.putObj l o') := by
  refine ⟨by simp, fun k o1 _ hk ho => ?_⟩
  by_cases e : k = l
  · subst e
    rw [h] at hk
    cases hk
    rw [hc] at ho; cases ho
  · rw [World.putObj_heap_other (by omega)]; exact hk
theorem Own.kc {α : Type} {e : TypeId} {sz : Nat} {c : α → Array Value} {w w' : World} {base B : Nat} {v : Value} {xs : List α} (h : Own e sz c w base v xs) (k : KC B w w') (hB : B ≤ base) : Own e sz c w' base v xs := by
  obtain ⟨h1, h2⟩ := h
  refine ⟨h1, ?_⟩
  rcases h2 with h2 | ⟨b, cap, cur, hv, hb, hh, r⟩
  · exact .inl h2
  · exact .inr ⟨b, cap, cur, hv, hb, k.2 b _ (by omega) hh rfl, r⟩
set_option maxRecDepth 100000 in
theorem leastFirst_any (a : Option Addr) (n cap : Nat) (w : World) :
    Calls Try.prog 82 #[.slice a n cap] w fun e w' => e = .returned (.func (.func 99) #[] #[.pointer (some ⟨w.heap.size, 0, none⟩)]) ∧ w' = w.alloc (.cells #[.slice a n cap] 35) := by
  go_enter Try.func82, Try.ntmps82
  go_wp2
  go_ret
  exact ⟨rfl, rfl⟩
theorem grown_of {W X : World} (h : Keeps W X) : W.grownBy X none := ⟨h.os, h.tape, h.output, h.size, fun k hk _ => Below.block h k hk⟩
theorem own_elem {w : World} {base b n cap : Nat} {xs : List Tsk} (h : OwnR w base (.slice (some ⟨b, 0, none⟩) n cap) xs) {i : Nat} {x : Tsk} (hx : xs[i]? = some x) : (w.cell? ⟨b, i * 7, none⟩ = (rtc x)[0]?) ∧ ∀ j, j < 7 → w.cell? ⟨b, i * 7 + j, none⟩ = (rtc x)[j]? := by
  obtain ⟨a, cp, e, l, -, -⟩ := h.slice rtc_size
  simp only [Value.slice.injEq] at e
  obtain ⟨rfl, -, -⟩ := e
  rcases l with rfl | ⟨b', off, e', -, l⟩
  · simp at hx
  · simp only [Option.some.injEq, Addr.mk.injEq] at e'
    obtain ⟨rfl, rfl, -⟩ := e'
    exact ⟨by simpa using l i x hx 0 (by omega), fun j hj => by simpa using l i x hx j hj⟩

set_option maxRecDepth 100000 in
set_option maxHeartbeats 8000000 in
/-- Those of ts that share fairly come, who had least first. -/
theorem least_seq (a : Option Addr) (cap : Nat) (ts : List Tsk) (Bs : Nat) (w : World) (hBs : Bs < w.heap.size) (hc : w.cell? ⟨Bs, 0, none⟩ = some (.slice a ts.length cap)) (hs : Ts w a ts) (hl : ts.length ≤ 1048576) (n : Nat) :
    SeqStopsK Fence.wide n Try.prog 99 #[.pointer (some ⟨Bs, 0, none⟩)] (fun t : Tsk => #[.agg (rtc t)]) (KC w.heap.size) (fun ys => HeapOf ts ys) (fun pre => ∃ ys, HeapOf ts ys ∧ pre <+: ys) (ts.length + 1) w := by
  intro l J Jx W hW hJ hJx hY h0
  have KW : Keeps w W := hW
  have HY : Hid (∀ (pre : List Tsk) (x : Tsk) (W1 : World), J pre W1 → pre.length < ts.length + 1 → YieldAt Fence.wide (n - 1) Try.prog l #[.agg (rtc x)] W1 fun e W' =>
      (e = .returned (.bool true) ∧ J (pre ++ [x]) W' ∧ KC w.heap.size W1 W') ∨ (e = .returned (.bool false) ∧ Jx (pre ++ [x]) W')) := hY
  have hc1 : ∀ w', Keeps W w' → w'.cell? ⟨Bs, 0, none⟩ = some (.slice a ts.length cap) := Keeps.has ((KW.cells _ _ hBs).trans hc)
  have hs1 : Hid (Ts W a ts) := hs.keeps KW
  have HJ : Hid (AbidesFrom W.heap.size J) := hJ
  have HX : Hid (AbidesFrom W.heap.size Jx) := hJx
  have hw0 : w.heap.size ≤ W.heap.size := KW.size
  have H0 : Hid (J [] W) := h0
  clear hY hJ hJx hs hc hW KW h0
  generalize hn : ts.length = m at *
  have Hn : Hid (ts.length = m) := hn
  clear hn
  refine callsIn_wide.2 ?_
  show Calls _ _ #[.func (.yield l) #[] #[], .pointer (some ⟨Bs, 0, none⟩)] _ _
  go_enter Try.func99, Try.ntmps99
  go_wp2_with fail
  have L0 : Hid (Line W W.heap.size (W.heap.size + 1) (.slice none 0 0) [] (W.alloc (.cells #[.slice none 0 0] 118))) := ⟨Blk.new _ _ _, World.ownsRow_nil _ _ _ _, (Keeps.refl W).alloc _⟩
  go_loopw [10] (fun i wr => ∃ k : Nat, k ≤ m ∧ i = .int .i64 k ∧ ∃ v xs, Line W W.heap.size (W.heap.size + 1) v xs wr ∧ HeapOf (ts.take k) xs) (fun i _ => m - (intOf i).toNat)
  case atStart => exact ⟨0, Nat.zero_le _, rfl, _, [], L0.out, by simpa using HeapOf.start⟩
  case round =>
    obtain ⟨k, hk, rfl, v, xs, hL, hO⟩ := hrel
    have LH : Hid (Line W W.heap.size (W.heap.size + 1) v xs wr) := hL
    have OH : Hid (HeapOf (ts.take k) xs) := hO
    have K1 : Keeps W wr := hL.keeps
    have hxl : xs.length ≤ k := by have := hO.len; simp at this; omega
    clear hL hO L0
    by_cases hlt : k < m
    · obtain ⟨t, ht⟩ := some_at (xs := ts) (k := k) (by rw [Hn.out]; exact hlt)
      obtain ⟨b, off, rfl, r0, r1⟩ := hs1.out.at ht (by omega)
      have Htk : Hid (ts.take (k + 1) = ts.take k ++ [t]) := by
        show _ = _
        have hk' : k < ts.length := by rw [Hn.out]; exact hlt
        rw [List.take_succ_eq_append_getElem hk']
        rw [List.getElem?_eq_getElem hk'] at ht
        simp only [Option.some.injEq] at ht
        rw [ht]
      have hlt' : (k : Int) < (m : Int) := by omega
      clear ht
      go_wp2_with fail
      have X0 : Hid (Line W W.heap.size (W.heap.size + 1) v xs (wr.alloc (.cells (tc t) 25))) := LH.out.go ((Keeps.refl wr).alloc _)
      have hT : ∀ w', Keeps (wr.alloc (.cells (tc t) 25)) w' → ∀ j, w'.cell? ⟨wr.heap.size, j, none⟩ = (tc t)[j]? := fun w' h => ((Blk.new wr (tc t) 25).keeps h).cells
      clear r0 r1
      generalize wr.alloc (.cells (tc t) 25) = X at *
      refine (isFair_any t _).mono ?_
      rintro e w1 ⟨rfl, k1⟩
      cases hf : fairB t
      · have HO : Hid (HeapOf (ts.take (k + 1)) xs) := by show HeapOf _ _; rw [Htk.out]; exact OH.out.skip hf
        go_wp2
        exact ⟨⟨k + 1, by omega, by go_num, v, xs, X0.out.go k1, HO.out⟩, by simp only [intOf]; omega⟩
      · go_wp2_with (first
          | (go_at_call 58; refine (fairTaskOf_any t _).mono ?_; rintro e w2 ⟨rfl, k2⟩)
          | (go_at_call 100; refine (putR_any t W.heap.size v xs (W.heap.size + 1) W w2 (X0.out.go (k1.trans k2)) OH.out.heap (Nat.le_refl _) (by omega) (X0.out.go (k1.trans k2)).line.lt (by omega)).mono ?_; rintro e w3 ⟨rfl, v', ys, L3, S3⟩))
        have HO : Hid (HeapOf (ts.take (k + 1)) ys) := by show HeapOf _ _; rw [Htk.out]; exact OH.out.snoc hf S3
        exact ⟨⟨k + 1, by omega, by go_num, v', ys, L3, HO.out⟩, by simp only [intOf]; omega⟩
    · have hlt' : decide ((k : Int) < (m : Int)) = false := by simp; omega
      have HO : Hid (HeapOf ts xs) := by have := OH.out; rw [List.take_of_length_le (by have := Hn.out; omega)] at this; exact this
      obtain ⟨a', cp, rfl, li, -, -⟩ := LH.out.own.slice rtc_size
      have hl1 := LH.out.line.cells 0
      generalize hq : xs.length = q at *
      have Hq : Hid (xs.length = q) := hq
      clear hq
      go_wp2_with fail
      have J0 : Hid (J [] wr) := HJ.out [] W wr none H0.out (grown_of K1) (fun r e => by cases e)
      have O0 : Hid (OwnR wr (W.heap.size + 1) (.slice a' q cp) xs) := LH.out.own
      clear LH OH li hl1 hc1
      generalize wr = V at *
      refine (wpIn_wide (n := n)).1 ?_
      gi_loopw [23] (fun i wx => ∃ j : Nat, j ≤ q ∧ i = .int .i64 j ∧ J (xs.take j) wx ∧ OwnR wx (W.heap.size + 1) (.slice a' q cp) xs) (fun i _ => q - (intOf i).toNat)
      case atStart => exact ⟨0, Nat.zero_le _, rfl, by simpa using J0.out, O0.out⟩
      case round =>
        obtain ⟨j, hj, rfl, hJ1, hO1⟩ := hrel
        have J1 : Hid (J (xs.take j) wr) := hJ1
        have O1 : Hid (OwnR wr (W.heap.size + 1) (.slice a' q cp) xs) := hO1
        clear hJ1 hO1
        by_cases hjt : j < q
        · obtain ⟨x, hx⟩ := some_at (xs := xs) (k := j) (by rw [Hq.out]; exact hjt)
          have Htk : Hid (xs.take (j + 1) = xs.take j ++ [x]) := by
            show _ = _
            have hk' : j < xs.length := by rw [Hq.out]; exact hjt
            have hx' := hx
            rw [List.getElem?_eq_getElem hk'] at hx'
            rw [List.take_succ_eq_append_getElem hk']
            simp only [Option.some.injEq] at hx'
            rw [hx']
          obtain ⟨b, cp', e1, -, -, -⟩ := O1.out.some rtc_size (by rw [Hq.out]; omega)
          simp only [Value.slice.injEq] at e1
          obtain ⟨rfl, -, -⟩ := e1
          obtain ⟨x00, x01⟩ := own_elem O1.out hx
          have c0 : wr.cell? ⟨b, j * 7, none⟩ = some (.int .i64 x.no) := x00
          have c1 : wr.cell? ⟨b, j * 7 + 1, none⟩ = some (.int .i64 x.cls) := x01 1 (by omega)
          have c2 : wr.cell? ⟨b, j * 7 + 2, none⟩ = some (.int .i64 x.cpu) := x01 2 (by omega)
          have c3 : wr.cell? ⟨b, j * 7 + 3, none⟩ = some (.int .i64 x.st) := x01 3 (by omega)
          have c4 : wr.cell? ⟨b, j * 7 + 4, none⟩ = some (.bool x.idle) := x01 4 (by omega)
          have c5 : wr.cell? ⟨b, j * 7 + 5, none⟩ = some (.int .i64 x.nice) := x01 5 (by omega)
          have c6 : wr.cell? ⟨b, j * 7 + 6, none⟩ = some (.int .i64 x.v) := x01 6 (by omega)
          have hjt' : (j : Int) < (q : Int) := by omega
          have J2 : J (xs.take j) (wr.alloc (.cells (rtc x) 87)) := HJ.out _ wr _ none J1.out (World.grownBy_alloc wr _ none) (fun r e => by cases e)
          obtain ⟨fn, tmps, assign, body, hy, hR⟩ := HY.out (xs.take j) x _ J2 (by simp; omega)
          clear x00 x01 hx J2
          gi_wp2
          refine ⟨fun h => (by simp [Fence.wide] at h), ?_⟩
          refine hR.mono ?_
          rintro e W3 (⟨rfl, hJ3, hk3⟩ | ⟨rfl, hJx3⟩)
          · have J3 : Hid (J (xs.take (j + 1)) W3) := by show J _ _; rw [Htk.out]; exact hJ3
            have O3 : Hid (OwnR W3 (W.heap.size + 1) (.slice (some ⟨b, 0, none⟩) q cp) xs) := (O1.out.alloc _).kc hk3 (by omega)
            gi_wp2
            go_roundw
            case rel => exact ⟨j + 1, by omega, by go_num, J3.out, O3.out⟩
            case measure => simp only [intOf]; omega
          · have J3 : Hid (Jx (xs.take (j + 1)) W3) := by show Jx _ _; rw [Htk.out]; exact hJx3
            gi_wp2
            refine bodyPost_ret (results_none rfl _ _ _) rfl ?_
            exact ⟨⟨_, rfl⟩, .inr ⟨_, ⟨xs, HO.out, List.take_prefix _ _⟩, J3.out⟩⟩
        · have hjt' : decide ((j : Int) < (q : Int)) = false := by simp; omega
          have J3 : Hid (J xs wr) := by have := J1.out; rw [List.take_of_length_le (by have := Hq.out; omega)] at this; exact this
          gi_wp2
          go_end0
          exact ⟨⟨_, rfl⟩, .inl ⟨xs, HO.out, J3.out⟩⟩
end Go.Proofs.Ytdndgacaohmdnaa
namespace Go.Proofs.Ytdndgacaohmdnaa
open Go.RowKit Go.Shelf
attribute [local go_sem] Oper.semAt_some

/-- A block of cells abides the turn of a block that is none. -/
theorem Blk.other {W W' : World} {b : Nat} {C : Array Value} {row : Option Nat} (h : Blk W b C) (hC : 0 < C.size) (hg : W.grownBy W' row) (hr : ∀ r, row = some r → ∃ o : Obj, W.heap[r]? = some o ∧ o.isCells = false) : Blk W' b C := by
  refine h.grown hg fun k hk e => ?_
  subst e
  obtain ⟨o, ho, hc⟩ := hr k hk
  have h0 := h.cells 0
  rw [Array.getElem?_eq_getElem hC] at h0
  unfold World.cell? at h0
  simp only [ho] at h0
  cases o <;> simp_all [Obj.isCells]
theorem others_putC {b : Nat} : ∀ (L : List Value) (w : World) (k : Nat), KeepsOthers w (putC w b k L)
  | [], w, _ => KeepsOthers.refl w
  | v :: r, w, k => (KeepsOthers.setCell w ⟨b, k, none⟩ v).trans (others_putC r _ (k + 1))
set_option maxRecDepth 100000 in
set_option maxHeartbeats 8000000 in
theorem whoHadLeast_any (a : Option Addr) (cap : Nat) (ts : List Tsk) (w : World) (hl : ts.length ≤ 1048576) (hs : Ts w a ts) :
    Calls Try.prog 57 #[.slice a ts.length cap] w fun e w' => (∃ xs, HeapOf ts xs ∧ ((xs = [] ∧ e = .returned (.tuple #[.agg (rtc Tsk.zero), .bool false])) ∨ ∃ f, xs[0]? = some f ∧ e = .returned (.tuple #[.agg (rtc f), .bool true]))) ∧ Keeps w w' := by
  refine (callsIn_wide (n := 5)).1 ?_
  refine callsIn_of_wp_marks Try.func57 rfl trivial ?_ rfl
  simp only [Try.ntmps57, List.size_toArray, List.length_cons, List.length_nil, Nat.reduceAdd, Nat.reduceSub, Array.replicate_succ, Array.replicate_zero, List.push_toArray, List.append_toArray, List.nil_append, List.cons_append]
  gi_wp2_with (refine ⟨trivial, ?_⟩; gi_at_call 82; refine (callsIn_wide.2 (leastFirst_any _ _ _ _)).mono ?_; rintro e w' ⟨rfl, rfl⟩)
  have B1 : Blk (((w.alloc (.cells (rtc Tsk.zero) 87)).alloc (.cells #[.bool false] 4)).alloc (.cells #[.slice a ts.length cap] 35)) w.heap.size (rtc Tsk.zero) := ((Blk.new _ _ _).alloc _).alloc _
  have B2 : Blk (((w.alloc (.cells (rtc Tsk.zero) 87)).alloc (.cells #[.bool false] 4)).alloc (.cells #[.slice a ts.length cap] 35)) (w.heap.size + 1) #[.bool false] := by
    have := (Blk.new (w.alloc (.cells (rtc Tsk.zero) 87)) #[.bool false] 4).alloc (.cells #[.slice a ts.length cap] 35)
    simpa using this
  have B3 : Blk (((w.alloc (.cells (rtc Tsk.zero) 87)).alloc (.cells #[.bool false] 4)).alloc (.cells #[.slice a ts.length cap] 35)) (w.heap.size + 1 + 1) #[.slice a ts.length cap] := by
    have := Blk.new ((w.alloc (.cells (rtc Tsk.zero) 87)).alloc (.cells #[.bool false] 4)) #[.slice a ts.length cap] 35
    simpa using this
  have KW : Keeps w (((w.alloc (.cells (rtc Tsk.zero) 87)).alloc (.cells #[.bool false] 4)).alloc (.cells #[.slice a ts.length cap] 35)) := (((Keeps.refl w).alloc _).alloc _).alloc _
  have hsz : (((w.alloc (.cells (rtc Tsk.zero) 87)).alloc (.cells #[.bool false] 4)).alloc (.cells #[.slice a ts.length cap] 35)).heap.size = w.heap.size + 3 := by simp
  change Code.wpIn _ _ _ _ _ _ (((w.alloc (.cells (rtc Tsk.zero) 87)).alloc (.cells #[.bool false] 4)).alloc (.cells #[.slice a ts.length cap] 35))
  generalize (((w.alloc (.cells (rtc Tsk.zero) 87)).alloc (.cells #[.bool false] 4)).alloc (.cells #[.slice a ts.length cap] 35)) = W0 at *
  refine wpIn_rangeFunc_ownH rfl (by decide) (gf := 99) (lb := #[.pointer (some ⟨w.heap.size + 1 + 1, 0, none⟩)]) rfl trivial (enters_of Try.func99 (by kernel_rfl) rfl)
    (least_seq a cap ts (w.heap.size + 1 + 1) W0 (by omega) (B3.cells 0) (hs.keeps KW) hl _) (fun h k => h.trans k) (fun W l o o' _ h hc _ => KC.putObj W l o o' h hc) (Below.refl _ _) (fun _ => rfl)
    (fun pre W => pre = [] ∧ Blk W w.heap.size (rtc Tsk.zero) ∧ Blk W (w.heap.size + 1) #[.bool false] ∧ Keeps w W)
    (fun c pre W => c = .ret ∧ ∃ f, pre = [f] ∧ Blk W w.heap.size (rtc f) ∧ Blk W (w.heap.size + 1) #[.bool true] ∧ Keeps w W)
    (fun s A B row h hg hr => ⟨h.1, h.2.1.other (by simp) hg fun r e => (hr r e).2, h.2.2.1.other (by simp) hg fun r e => (hr r e).2, h.2.2.2.grown hg fun k e => by have := (hr k e).1; omega⟩)
    (fun c s A B row h hg hr => by
      obtain ⟨h1, f, h2, h3, h4, h5⟩ := h
      exact ⟨h1, f, h2, h3.other (by simp) hg fun r e => (hr r e).2, h4.other (by simp) hg fun r e => (hr r e).2, h5.grown hg fun k e => by have := (hr k e).1; omega⟩)
    ⟨rfl, B1, B2, KW⟩
    (fun x a' W => ∃ Bx, w.heap.size + 2 ≤ Bx ∧ Blk W Bx (rtc x) ∧ a' = { tmps := #[.slice a ts.length cap, undef, .pointer (some ⟨w.heap.size, 0, none⟩), .pointer (some ⟨w.heap.size + 1, 0, none⟩), .pointer (some ⟨Bx, 0, none⟩), .slice a ts.length cap, .func (.func 99) #[] #[.pointer (some ⟨w.heap.size + 1 + 1, 0, none⟩)], .agg (rtc x), undef, undef], defers := [] })
    (fun x a' s A B row h hg hr => by
      obtain ⟨Bx, h1, h2, h3⟩ := h
      exact ⟨Bx, h1, h2.other (by simp) hg fun r e => (hr r e).2, h3⟩) ?assign ?body ?done ?stop
  case assign =>
    rintro l pre x W K ⟨h1, h2, h3, h4⟩ hK
    gi_wp2
    exact hK _ _ ((KeepsOthers.alloc _ _).from _) (KC.of ((Keeps.refl W).alloc _)) ⟨h1, h2.alloc _, h3.alloc _, h4.alloc _⟩ ⟨W.heap.size, h3.lt, Blk.new W (rtc x) 87, rfl⟩
  case body =>
    rintro l pre x a' W hll - ⟨rfl, h2, h3, h4⟩ ⟨Bx, hBx, hX, rfl⟩ -
    have H2 : Hid (Blk W w.heap.size (rtc Tsk.zero)) := h2
    have H3 : Hid (Blk W (w.heap.size + 1) #[.bool false]) := h3
    obtain ⟨_, f1, f2⟩ := h2
    obtain ⟨_, g1, g2⟩ := h3
    obtain ⟨_, x1, x2⟩ := hX
    gi_wp2
    change ownPostG _ _ _ _ _ _ _ _ ((putC W w.heap.size 0 (rtc x).toList).setCell ⟨w.heap.size + 1, 0, none⟩ (.bool true))
    exact ⟨((others_putC _ _ _).trans (KeepsOthers.setCell _ _ _)).from _, rfl, x, rfl, (H2.out.putC (rtc x).toList rfl).far (by omega) _, (Blk.farC (by omega) _ _ H3.out).set 0 (by simp) _, (Keeps.putC (b := w.heap.size) (Nat.le_refl _) _ _ h4).setCell (by show _ ≤ w.heap.size + 1; omega) _⟩
  case done =>
    rintro D ys W hD hS ⟨rfl, h2, h3, h4⟩ hK
    have D1 : Blk ((putC W w.heap.size 0 (rtc Tsk.zero).toList).setCell ⟨w.heap.size + 1, 0, none⟩ (.bool false)) w.heap.size (rtc Tsk.zero) := (h2.putC (rtc Tsk.zero).toList rfl).far (by omega) _
    have D2 : Blk ((putC W w.heap.size 0 (rtc Tsk.zero).toList).setCell ⟨w.heap.size + 1, 0, none⟩ (.bool false)) (w.heap.size + 1) #[.bool false] := (Blk.farC (by omega) _ _ h3).set 0 (by simp) _
    have KY : Keeps w ((putC W w.heap.size 0 (rtc Tsk.zero).toList).setCell ⟨w.heap.size + 1, 0, none⟩ (.bool false)) := (Keeps.putC (b := w.heap.size) (Nat.le_refl _) _ _ h4).setCell (by show _ ≤ w.heap.size + 1; omega) _
    have hK' := ((others_putC (b := w.heap.size) (rtc Tsk.zero).toList W 0).trans (KeepsOthers.setCell _ ⟨w.heap.size + 1, 0, none⟩ (.bool false))).same D _ hK rfl
    obtain ⟨_, f1, f2⟩ := h2
    obtain ⟨_, g1, g2⟩ := h3
    gi_wp2
    change bodyPostM _ _ _ _ _ _ _ ((putC W w.heap.size 0 (rtc Tsk.zero).toList).setCell ⟨w.heap.size + 1, 0, none⟩ (.bool false))
    generalize (putC W w.heap.size 0 (rtc Tsk.zero).toList).setCell ⟨w.heap.size + 1, 0, none⟩ (.bool false) = Y at *
    refine ⟨by simp, .inl ⟨_, _, rfl, run_takeDeferred hK', ?_⟩⟩
    have E1 := D1.other (by simp) (grownBy_putObj' Y D (.deferred none)) (fun r e => by cases e; exact ⟨_, hK', rfl⟩)
    have E2 := D2.other (by simp) (grownBy_putObj' Y D (.deferred none)) (fun r e => by cases e; exact ⟨_, hK', rfl⟩)
    have KE := KY.grown (grownBy_putObj' Y D (.deferred none)) (fun k e => by cases e; omega)
    refine ⟨.tuple #[.agg (rtc Tsk.zero), .bool false], ?_, ⟨[], hS, .inl ⟨rfl, rfl⟩⟩, KE⟩
    simp [results, Try.results57, go_sem, E1.cells, E2.cells]
  case stop =>
    rintro D c pre W hD ⟨ys, hS, hp⟩ ⟨rfl, f, rfl, h2, h3, h4⟩ hK
    gi_wp2
    refine ⟨by simp, .inl ⟨_, _, rfl, run_takeDeferred hK, ?_⟩⟩
    have E1 := h2.other (by simp) (grownBy_putObj' W D (.deferred none)) (fun r e => by cases e; exact ⟨_, hK, rfl⟩)
    have E2 := h3.other (by simp) (grownBy_putObj' W D (.deferred none)) (fun r e => by cases e; exact ⟨_, hK, rfl⟩)
    have KE := h4.grown (grownBy_putObj' W D (.deferred none)) (fun k e => by cases e; omega)
    obtain ⟨r, hr⟩ := hp
    refine ⟨.tuple #[.agg (rtc f), .bool true], ?_, ⟨ys, hS, .inr ⟨f, by rw [← hr]; rfl, rfl⟩⟩, KE⟩
    simp [results, Try.results57, go_sem, E1.cells, E2.cells]
end Go.Proofs.Ytdndgacaohmdnaa
