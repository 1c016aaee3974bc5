/-
  A heap of tasks that share fairly, as a list: who had least comes first.
-/
import Derived.Test.YtdndgacaohmdnaaFairPure
namespace Go.Proofs.Ytdndgacaohmdnaa
open Go.RowKit

/-- Who had less, or as much and the lesser number. -/
def befV (a b : Tsk) : Bool := decide (a.v < b.v) || a.v == b.v && decide (a.no < b.no)
theorem befV_iff (a b : Tsk) : befV a b = true ↔ a.v < b.v ∨ a.v = b.v ∧ a.no < b.no := by simp [befV]
theorem befV_no (a b : Tsk) : befV a b = false ↔ b.v < a.v ∨ b.v = a.v ∧ b.no ≤ a.no := by
  rw [Bool.eq_false_iff, ne_eq, befV_iff]
  omega
theorem befV_irr (a : Tsk) : befV a a = false := by rw [befV_no]; omega
/-- Each is no later than the two below it. -/
def HeapL (xs : List Tsk) : Prop := ∀ (i : Nat) (c p : Tsk), 0 < i → xs[i]? = some c → xs[(i - 1) / 2]? = some p → befV c p = false
/-- .. but the one at the place k. -/
def HeapBut (xs : List Tsk) (k : Nat) : Prop :=
  (∀ (i : Nat) (c p : Tsk), 0 < i → i ≠ k → xs[i]? = some c → xs[(i - 1) / 2]? = some p → befV c p = false) ∧
  (0 < k → ∀ (i : Nat) (c p : Tsk), 0 < i → (i - 1) / 2 = k → xs[i]? = some c → xs[(k - 1) / 2]? = some p → befV c p = false)
theorem HeapL.nil : HeapL [] := by intro i c p _ h; simp at h
theorem HeapL.snoc {xs : List Tsk} (h : HeapL xs) (x : Tsk) : HeapBut (xs ++ [x]) xs.length := by
  refine ⟨fun i c p h0 hne hc hp => ?_, fun h0 i c p hi hk hc hp => ?_⟩
  · rcases Nat.lt_or_ge i xs.length with hl | hl
    · rw [List.getElem?_append_left hl] at hc
      rw [List.getElem?_append_left (by omega)] at hp
      exact h i c p h0 hc hp
    · rw [List.getElem?_eq_none (by simp; omega)] at hc
      cases hc
  · rw [List.getElem?_eq_none (by simp; omega)] at hc
    cases hc
theorem HeapBut.top {xs : List Tsk} (h : HeapBut xs 0) : HeapL xs := fun i c p h0 hc hp => h.1 i c p h0 (by omega) hc hp
theorem HeapBut.stay {xs : List Tsk} {k : Nat} (h : HeapBut xs k) {x y : Tsk} (hx : xs[k]? = some x) (hy : xs[(k - 1) / 2]? = some y) (hb : befV x y = false) : HeapL xs := by
  intro i c p h0 hc hp
  by_cases e : i = k
  · subst e
    rw [hx] at hc; rw [hy] at hp
    cases hc; cases hp
    exact hb
  · exact h.1 i c p h0 e hc hp
theorem swap_at {xs : List Tsk} {k m : Nat} {x y : Tsk} (hx : xs[k]? = some x) (hy : xs[m]? = some y) (hne : m < k) (i : Nat) :
    ((xs.set k y).set m x)[i]? = if i = m then some x else if i = k then some y else xs[i]? := by
  have hk : k < xs.length := by
    rcases Nat.lt_or_ge k xs.length with h | h
    · exact h
    · rw [List.getElem?_eq_none h] at hx; cases hx
  by_cases e1 : i = m
  · subst e1
    rw [if_pos rfl, List.getElem?_set_self (by simp; omega)]
  · rw [if_neg e1, List.getElem?_set_ne (by omega)]
    by_cases e2 : i = k
    · subst e2
      rw [if_pos rfl, List.getElem?_set_self hk]
    · rw [if_neg e2, List.getElem?_set_ne (by omega)]
theorem HeapBut.up {xs : List Tsk} {k : Nat} (h : HeapBut xs k) (h0 : 0 < k) {x y : Tsk} (hx : xs[k]? = some x) (hy : xs[(k - 1) / 2]? = some y) (hb : befV x y = true) : HeapBut ((xs.set k y).set ((k - 1) / 2) x) ((k - 1) / 2) := by
  have hm : (k - 1) / 2 < k := by omega
  have at' := swap_at hx hy hm
  rw [befV_iff] at hb
  refine ⟨fun i c p hi hne hc hp => ?_, fun h1 i c p hi hk hc hp => ?_⟩
  · rw [at'] at hc hp
    rw [if_neg hne] at hc
    by_cases ek : i = k
    · subst ek
      rw [if_pos rfl] at hc hp
      cases hc; cases hp
      rw [befV_no]; omega
    · rw [if_neg ek] at hc
      by_cases e1 : (i - 1) / 2 = (k - 1) / 2
      · rw [if_pos e1] at hp
        cases hp
        rw [← e1] at hy
        have := (befV_no _ _).1 (h.1 i c y hi ek hc hy)
        rw [befV_no]; omega
      · rw [if_neg e1] at hp
        by_cases e2 : (i - 1) / 2 = k
        · rw [if_pos e2] at hp
          cases hp
          exact h.2 h0 i c _ hi e2 hc hy
        · rw [if_neg e2] at hp
          exact h.1 i c p hi ek hc hp
  · rw [at'] at hc hp
    rw [if_neg (by omega), if_neg (by omega)] at hp
    have h3 := (befV_no _ _).1 (h.1 ((k - 1) / 2) y p h1 (by omega) hy hp)
    rw [if_neg (by omega)] at hc
    by_cases ek : i = k
    · rw [if_pos ek] at hc
      cases hc
      rw [befV_no]; omega
    · rw [if_neg ek] at hc
      rw [← hk] at hy
      have h4 := (befV_no _ _).1 (h.1 i c y hi ek hc hy)
      rw [befV_no]; omega
theorem swap_mem {xs : List Tsk} {k m : Nat} {x y : Tsk} (hx : xs[k]? = some x) (hy : xs[m]? = some y) (hne : m < k) (z : Tsk) : z ∈ (xs.set k y).set m x ↔ z ∈ xs := by
  have at' := swap_at hx hy hne
  simp only [List.mem_iff_getElem?]
  constructor
  · rintro ⟨i, hi⟩
    rw [at'] at hi
    split at hi
    · cases hi; exact ⟨k, hx⟩
    · split at hi
      · cases hi; exact ⟨m, hy⟩
      · exact ⟨i, hi⟩
  · rintro ⟨i, hi⟩
    by_cases e1 : i = m
    · subst e1
      rw [hy] at hi; cases hi
      exact ⟨k, by rw [at', if_neg (by omega), if_pos rfl]⟩
    · by_cases e2 : i = k
      · subst e2
        rw [hx] at hi; cases hi
        exact ⟨m, by rw [at', if_pos rfl]⟩
      · exact ⟨i, by rw [at', if_neg e1, if_neg e2]; exact hi⟩
/-- Nobody is before the first. -/
theorem HeapL.first {xs : List Tsk} (h : HeapL xs) {f : Tsk} (hf : xs[0]? = some f) : ∀ (i : Nat) (z : Tsk), xs[i]? = some z → befV z f = false := by
  intro i
  induction i using Nat.strongRecOn with
  | _ i ih =>
    intro z hz
    by_cases h0 : i = 0
    · subst h0
      rw [hf] at hz; cases hz
      exact befV_irr _
    · have hl : i < xs.length := by
        rcases Nat.lt_or_ge i xs.length with h | h
        · exact h
        · rw [List.getElem?_eq_none h] at hz; cases hz
      obtain ⟨p, hp⟩ : ∃ p, xs[(i - 1) / 2]? = some p := ⟨_, List.getElem?_eq_getElem (by omega)⟩
      have h1 := (befV_no _ _).1 (h i z p (by omega) hz hp)
      have h2 := (befV_no _ _).1 (ih _ (by omega) p hp)
      rw [befV_no]; omega
/-- Who is first when one more has come. -/
def upL (o : Option Tsk) (x : Tsk) : Option Tsk := match o with
  | .none => some x
  | .some f => if befV x f then some x else some f
/-- One more has come, and stands at the place k. -/
structure Sift (xs : List Tsk) (x : Tsk) (k : Nat) (ys : List Tsk) : Prop where
  len : ys.length = xs.length + 1
  lt : k < ys.length
  but : HeapBut ys k
  mem : ∀ z, z ∈ ys ↔ z ∈ xs ∨ z = x
  me : ys[k]? = some x
  fst : k ≠ 0 → ys[0]? = xs[0]?
  top : k = 0 → ∀ f, xs[0]? = some f → befV x f = true
/-- One more has come. -/
structure Sifted (xs : List Tsk) (x : Tsk) (ys : List Tsk) : Prop where
  len : ys.length = xs.length + 1
  heap : HeapL ys
  mem : ∀ z, z ∈ ys ↔ z ∈ xs ∨ z = x
  fst : ys[0]? = upL xs[0]? x
theorem Sift.start {xs : List Tsk} (h : HeapL xs) (x : Tsk) : Sift xs x xs.length (xs ++ [x]) := by
  refine ⟨by simp, by simp, h.snoc x, by simp, by simp, fun h0 => ?_, fun h0 f hf => ?_⟩
  · rw [List.getElem?_append_left (by omega)]
  · rw [List.getElem?_eq_none (by omega)] at hf; cases hf
theorem Sift.up {xs ys : List Tsk} {x y : Tsk} {k : Nat} (h : Sift xs x k ys) (h0 : 0 < k) (hy : ys[(k - 1) / 2]? = some y) (hb : befV x y = true) : Sift xs x ((k - 1) / 2) ((ys.set k y).set ((k - 1) / 2) x) := by
  have hm : (k - 1) / 2 < k := by omega
  have hl := h.lt
  have at' := swap_at h.me hy hm
  refine ⟨by simpa using h.len, by simp; omega, h.but.up h0 h.me hy hb, fun z => (swap_mem h.me hy hm z).trans (h.mem z), by rw [at', if_pos rfl], fun h1 => ?_, fun h1 f hf => ?_⟩
  · rw [at', if_neg (Ne.symm h1), if_neg (by omega)]
    exact h.fst (by omega)
  · have e := h.fst (by omega)
    rw [h1, e, hf] at hy
    cases hy
    exact hb
theorem Sift.atTop {xs ys : List Tsk} {x : Tsk} (h : Sift xs x 0 ys) : Sifted xs x ys := by
  refine ⟨h.len, h.but.top, h.mem, ?_⟩
  rw [h.me]
  cases e : xs[0]? with
  | none => rfl
  | some f => simp [upL, h.top rfl f e]
theorem Sift.stay {xs ys : List Tsk} {x y : Tsk} {k : Nat} (h : Sift xs x k ys) (h0 : 0 < k) (hy : ys[(k - 1) / 2]? = some y) (hb : befV x y = false) : Sifted xs x ys := by
  have hh := h.but.stay h.me hy hb
  refine ⟨h.len, hh, h.mem, ?_⟩
  have e := h.fst (by omega)
  have hl := h.len
  have hlt := h.lt
  obtain ⟨f, hf⟩ : ∃ f, xs[0]? = some f := ⟨_, List.getElem?_eq_getElem (by omega)⟩
  have := hh.first (e.trans hf) k x h.me
  rw [e, hf]
  simp [upL, this]
/-- The heap of those of ts that share fairly. -/
structure HeapOf (ts xs : List Tsk) : Prop where
  heap : HeapL xs
  mem : ∀ z, z ∈ xs ↔ z ∈ ts ∧ fairB z = true
  len : xs.length ≤ ts.length
  fst : xs[0]? = (ts.filter fairB).foldl upL none
theorem HeapOf.start : HeapOf [] [] := ⟨HeapL.nil, by simp, by simp, rfl⟩
theorem HeapOf.skip {ts xs : List Tsk} (h : HeapOf ts xs) {t : Tsk} (ht : fairB t = false) : HeapOf (ts ++ [t]) xs := by
  refine ⟨h.heap, fun z => ?_, by have := h.len; simp; omega, ?_⟩
  · rw [h.mem z, List.mem_append, List.mem_singleton]
    constructor
    · rintro ⟨h1, h2⟩; exact ⟨.inl h1, h2⟩
    · rintro ⟨h1 | rfl, h2⟩
      · exact ⟨h1, h2⟩
      · rw [ht] at h2; cases h2
  · rw [List.filter_append, h.fst]
    simp [ht]
theorem HeapOf.snoc {ts xs ys : List Tsk} (h : HeapOf ts xs) {t : Tsk} (ht : fairB t = true) (s : Sifted xs t ys) : HeapOf (ts ++ [t]) ys := by
  refine ⟨s.heap, fun z => ?_, by have := h.len; have := s.len; simp; omega, ?_⟩
  · rw [s.mem z, h.mem z, List.mem_append, List.mem_singleton]
    constructor
    · rintro (⟨h1, h2⟩ | rfl)
      · exact ⟨.inl h1, h2⟩
      · exact ⟨.inr rfl, ht⟩
    · rintro ⟨h1 | rfl, h2⟩
      · exact .inl ⟨h1, h2⟩
      · exact .inr rfl
  · rw [s.fst, h.fst, List.filter_append]
    simp [ht]
theorem HeapOf.none {ts : List Tsk} (h : HeapOf ts []) : ∀ t ∈ ts, fairB t = false := by
  intro t ht
  cases e : fairB t
  · rfl
  · have := (h.mem t).2 ⟨ht, e⟩
    simp at this
theorem least_none {ts : List Tsk} : ∀ (a : Int), (∀ t ∈ ts, fairB t = false) → ts.foldl leastS a = a ∧ ts.foldl mostS a = a := by
  induction ts with
  | nil => intro a _; exact ⟨rfl, rfl⟩
  | cons y r ih =>
    intro a h
    have hy := h y (by simp)
    have e1 : leastS a y = a := by simp [leastS, hy]
    have e2 : mostS a y = a := by simp [mostS, hy]
    simp only [List.foldl_cons, e1, e2]
    exact ih a fun t ht => h t (List.mem_cons_of_mem _ ht)
theorem least_some {ts : List Tsk} : ∀ (a : Int), ts.foldl leastS a = a ∨ ∃ t ∈ ts, fairB t = true ∧ ts.foldl leastS a = t.v := by
  induction ts with
  | nil => intro a; exact .inl rfl
  | cons y r ih =>
    intro a
    simp only [List.foldl_cons]
    rcases ih (leastS a y) with e | ⟨t, ht, hf, e⟩
    · rw [e]
      unfold leastS
      split
      · rename_i h
        simp only [Bool.and_eq_true] at h
        exact .inr ⟨y, by simp, h.1, rfl⟩
      · exact .inl rfl
    · exact .inr ⟨t, List.mem_cons_of_mem _ ht, hf, e⟩
theorem most_some {ts : List Tsk} : ∀ (a : Int), ts.foldl mostS a = a ∨ ∃ t ∈ ts, fairB t = true ∧ ts.foldl mostS a = t.v := by
  induction ts with
  | nil => intro a; exact .inl rfl
  | cons y r ih =>
    intro a
    simp only [List.foldl_cons]
    rcases ih (mostS a y) with e | ⟨t, ht, hf, e⟩
    · rw [e]
      unfold mostS
      split
      · rename_i h
        by_cases h1 : y.v ≤ a
        · exact .inl (by omega)
        · exact .inr ⟨y, by simp, h, by omega⟩
      · exact .inl rfl
    · exact .inr ⟨t, List.mem_cons_of_mem _ ht, hf, e⟩
theorem most_ge {ts : List Tsk} : ∀ (a : Int), a ≤ ts.foldl mostS a ∧ ∀ t ∈ ts, fairB t = true → t.v ≤ ts.foldl mostS a := by
  induction ts with
  | nil => intro a; simp
  | cons y r ih =>
    intro a
    simp only [List.foldl_cons]
    obtain ⟨h1, h2⟩ := ih (mostS a y)
    have h3 : a ≤ mostS a y ∧ (fairB y = true → y.v ≤ mostS a y) := by
      unfold mostS
      split
      · exact ⟨by omega, fun _ => by omega⟩
      · rename_i h; exact ⟨by omega, fun h' => absurd h' h⟩
    refine ⟨by omega, fun t ht hf => ?_⟩
    rcases List.mem_cons.1 ht with rfl | ht
    · have := h3.2 hf; omega
    · exact h2 t ht hf
/-- The first has the least. -/
theorem HeapOf.least {ts xs : List Tsk} (h : HeapOf ts xs) {f : Tsk} (hf : xs[0]? = some f) : leastV ts = f.v ∧ 0 ≤ f.v := by
  have hm := (h.mem f).1 (List.mem_iff_getElem?.2 ⟨0, hf⟩)
  have hv := ((fairB_iff f).1 hm.2).v
  have h1 := (fair_le (ts := ts) (-1)).1 f hm.1 hm.2
  refine ⟨?_, hv.1⟩
  unfold leastV
  rcases least_some (ts := ts) (-1) with e | ⟨t, ht, hft, e⟩
  · omega
  · obtain ⟨i, hi⟩ := List.mem_iff_getElem?.1 ((h.mem t).2 ⟨ht, hft⟩)
    have := (befV_no _ _).1 (h.heap.first hf i t hi)
    omega
theorem HeapOf.floor {ts xs : List Tsk} (h : HeapOf ts xs) {f : Tsk} (hf : xs[0]? = some f) (floor : Int) : fairFloorI ts floor = max floor f.v := by
  obtain ⟨h1, h2⟩ := h.least hf
  unfold fairFloorI
  rw [h1, if_neg (by omega)]
theorem HeapOf.floor0 {ts : List Tsk} (h : HeapOf ts []) (floor : Int) : fairFloorI ts floor = floor := by
  unfold fairFloorI leastV
  rw [(least_none (-1) h.none).1, if_pos (by omega)]
/-- How far apart they are, those of xs looked at. -/
def spreadS (l : Int) (s : Int) (t : Tsk) : Int := max s (t.v - l)
theorem spreadS_bd (l : Int) (xs : List Tsk) : ∀ (s : Int), s ≤ xs.foldl (spreadS l) s ∧ (∀ t ∈ xs, t.v - l ≤ xs.foldl (spreadS l) s) ∧ (xs.foldl (spreadS l) s = s ∨ ∃ t ∈ xs, xs.foldl (spreadS l) s = t.v - l) := by
  induction xs with
  | nil => intro s; simp
  | cons y r ih =>
    intro s
    simp only [List.foldl_cons]
    obtain ⟨h1, h2, h3⟩ := ih (spreadS l s y)
    have h4 : s ≤ spreadS l s y ∧ y.v - l ≤ spreadS l s y ∧ (spreadS l s y = s ∨ spreadS l s y = y.v - l) := by unfold spreadS; omega
    refine ⟨by omega, fun t ht => ?_, ?_⟩
    · rcases List.mem_cons.1 ht with rfl | ht
      · omega
      · exact h2 t ht
    · rcases h3 with e | ⟨t, ht, e⟩
      · rcases h4.2.2 with e' | e'
        · exact .inl (by omega)
        · exact .inr ⟨y, by simp, by omega⟩
      · exact .inr ⟨t, List.mem_cons_of_mem _ ht, e⟩
theorem HeapOf.spread {ts xs : List Tsk} (h : HeapOf ts xs) {f : Tsk} (hf : xs[0]? = some f) : fairSpreadI ts = xs.foldl (spreadS f.v) 0 := by
  obtain ⟨h1, h2⟩ := h.least hf
  have hm := (h.mem f).1 (List.mem_iff_getElem?.2 ⟨0, hf⟩)
  obtain ⟨g1, g2, g3⟩ := spreadS_bd f.v xs 0
  obtain ⟨_, m2⟩ := most_ge (ts := ts) (-1)
  have hmf := m2 f hm.1 hm.2
  unfold fairSpreadI
  rw [h1]
  unfold mostV
  rcases most_some (ts := ts) (-1) with e | ⟨t, ht, hft, e⟩
  · omega
  · have k1 := g2 t ((h.mem t).2 ⟨ht, hft⟩)
    rcases g3 with e3 | ⟨u, hu, e3⟩
    · omega
    · obtain ⟨hu1, hu2⟩ := (h.mem u).1 hu
      have := m2 u hu1 hu2
      omega
theorem HeapOf.spread0 {ts : List Tsk} (h : HeapOf ts []) (l : Int) : fairSpreadI ts = ([] : List Tsk).foldl (spreadS l) 0 := by
  unfold fairSpreadI leastV mostV
  rw [(least_none (-1) h.none).1, (least_none (-1) h.none).2]
  rfl
/-- Of two: a comes first just if it is before b. -/
theorem HeapOf.two {a b : Tsk} {xs : List Tsk} (h : HeapOf [b, a] xs) (ha : fairB a = true) (hb : fairB b = true) : xs[0]? = some (if befV a b then a else b) := by
  rw [h.fst]
  simp only [List.filter_cons, ha, hb, List.filter_nil, if_true, List.foldl_cons, List.foldl_nil, upL]
  split <;> rfl
end Go.Proofs.Ytdndgacaohmdnaa
