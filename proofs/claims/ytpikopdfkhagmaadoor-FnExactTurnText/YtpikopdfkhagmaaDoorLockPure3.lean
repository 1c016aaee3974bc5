/-
  Locks: freeing leaves right ones; what asking comes to.
-/
import Derived.Test.YtpikopdfkhagmaaDoorLockPure2
namespace Go.Proofs.YtpikopdfkhagmaaDoor
open Go.RowKit

theorem hasB_less {xs : List Int} {x y : Int} : hasB (lessL xs y) x = (hasB xs x && x != y) := by
  apply Bool.eq_iff_iff.2
  rw [hasB_iff, Bool.and_eq_true, hasB_iff]
  unfold lessL
  rw [List.mem_filter]
theorem countN_less {xs : List Int} {x y : Int} (h : x ≠ y) : countN (lessL xs y) x = countN xs x := by
  unfold countN lessL
  rw [List.filter_filter]
  congr 1
  apply List.filter_congr
  intro z _
  by_cases e : z = x
  · subst e; simp [h]
  · simp [e]
section free
variable {ls : List Lk} {j : Nat} {l : Lk} {next : Int}
theorem freed_ix (R : Right ls) (hl : ls[j]? = some l) (hx : hasB l.waits next = true) : (∀ x, x ≠ next → waitIx (ls.set j ⟨next, lessL l.waits next⟩) x = waitIx ls x) ∧ waitIx (ls.set j ⟨next, lessL l.waits next⟩) next = none := by
  refine ⟨fun x hne => waitIx_same (by simp) fun i m m' hm hm' => ?_, waitIx_of_none fun i m hm => ?_⟩
  · rcases setAt hm' with ⟨rfl, rfl⟩ | ⟨_, h⟩
    · rw [hl] at hm; cases hm
      simp only [hasB_less]
      have : (x != next) = true := by simpa using hne
      rw [this, Bool.and_true]
    · rw [hm] at h; cases h; rfl
  · rcases setAt hm with ⟨rfl, rfl⟩ | ⟨hij, h⟩
    · simp only [hasB_less]; simp
    · exact waits_once (R.once j l next hl hx) hl hx h hij
theorem freed_ends (R : Right ls) (hl : ls[j]? = some l) (hx : hasB l.waits next = true) : ∀ {c : List Int} {x : Int}, Ends ls x c → ∃ c', Ends (ls.set j ⟨next, lessL l.waits next⟩) x c'
  | [], _, h => by rcases h.cases with ⟨_, e⟩ | ⟨_, _, _, e, _⟩ <;> cases e
  | y :: r, x, h => by
    by_cases hn : x = next
    · rw [hn]; exact ⟨_, Ends.stop (freed_ix R hl hx).2⟩
    · have hw := (freed_ix R hl hx).1 x hn
      rcases h.cases with ⟨h1, _⟩ | ⟨i, r', h1, e, hr⟩
      · exact ⟨_, Ends.stop (hw.trans h1)⟩
      · by_cases hij : i = j
        · subst hij
          refine ⟨_, Ends.step (hw.trans h1) (r := [next]) ?_⟩
          rw [ownerAt_self (lt_some hl)]
          exact Ends.stop (freed_ix R hl hx).2
        · cases e
          obtain ⟨c', hc'⟩ := freed_ends R hl hx hr
          refine ⟨_, Ends.step (hw.trans h1) (r := c') ?_⟩
          rw [ownerAt_set hij]; exact hc'
/-- It is freed to one that waits. -/
theorem Right.freed (R : Right ls) (hl : ls[j]? = some l) (hx : hasB l.waits next = true) : Right (ls.set j ⟨next, lessL l.waits next⟩) := by
  have hno := R.no j l next hl hx
  have nsame : ∀ x, x ≠ next → waitsN (ls.set j ⟨next, lessL l.waits next⟩) x = waitsN ls x := fun x hne => by
    have := waitsN_set (⟨next, lessL l.waits next⟩ : Lk) x hl
    simp only [countN_less hne] at this
    omega
  have back : ∀ (i : Nat) (m : Lk) (x : Int), (ls.set j ⟨next, lessL l.waits next⟩)[i]? = some m → hasB m.waits x = true → x ≠ next ∧ ∃ (k : Nat) (m0 : Lk), ls[k]? = some m0 ∧ hasB m0.waits x = true := by
    intro i m x hm hxm
    have hne : x ≠ next := fun e => by
      have := waitIx_none (freed_ix R hl hx).2 i m hm
      rw [e, this] at hxm; cases hxm
    refine ⟨hne, ?_⟩
    rcases setAt hm with ⟨rfl, rfl⟩ | ⟨_, h⟩
    · simp only [hasB_less, Bool.and_eq_true] at hxm
      exact ⟨i, l, hl, hxm.1⟩
    · exact ⟨i, m, h, hxm⟩
  refine ⟨by simpa using R.len, ?_, ?_, ?_, ?_, ?_⟩
  · intro i m hm
    rcases setAt hm with ⟨rfl, rfl⟩ | ⟨_, h⟩
    · exact ⟨by simp only; omega, hno.2⟩
    · exact R.owner i m h
  · intro i m hm e
    rcases setAt hm with ⟨rfl, rfl⟩ | ⟨_, h⟩
    · simp only at e; omega
    · exact R.free i m h e
  · intro i m x hm hxm
    obtain ⟨_, k, m0, h1, h2⟩ := back i m x hm hxm
    exact R.no k m0 x h1 h2
  · intro i m x hm hxm
    obtain ⟨hne, k, m0, h1, h2⟩ := back i m x hm hxm
    rw [nsame x hne]; exact R.once k m0 x h1 h2
  · intro i m x hm hxm
    obtain ⟨_, k, m0, h1, h2⟩ := back i m x hm hxm
    obtain ⟨c, hc⟩ := R.ends k m0 x h1 h2
    exact freed_ends R hl hx hc
end free

theorem waitAt_lt {ls : List Lk} {no : Int} (h : decide (0 ≤ waitAt ls no) = false) : waitIx ls no = none := by
  unfold waitAt at h
  split at h
  · simp at h
  · assumption
/-- What asking right locks comes to. -/
def Asked (ls : List Lk) (i no : Int) : Prop :=
  ((askN ls i no = 2 ∨ askN ls i no = 3) ∧ askL ls i no = ls) ∨
  (∃ (j : Nat) (l : Lk), i = (j : Int) ∧ ls[j]? = some l ∧ l.owner = 0 ∧ (1 ≤ no ∧ no ≤ 1000) ∧ waitIx ls no = none ∧ askN ls i no = 0 ∧ askL ls i no = ls.set j ⟨no, []⟩) ∨
  (∃ (j : Nat) (l : Lk), i = (j : Int) ∧ ls[j]? = some l ∧ hasB (chainL ls l.owner) no = true ∧ askN ls i no = 4 ∧ askL ls i no = ls) ∨
  ∃ (j : Nat) (l : Lk), i = (j : Int) ∧ ls[j]? = some l ∧ l.owner ≠ 0 ∧ l.owner ≠ no ∧ (1 ≤ no ∧ no ≤ 1000) ∧ waitIx ls no = none ∧ hasB (chainL ls l.owner) no = false ∧ askN ls i no = 1 ∧ askL ls i no = ls.set j { l with waits := l.waits ++ [no] }
theorem asked {ls : List Lk} (R : Right ls) (i no : Int) : Asked ls i no := by
  have hb := right_iff.2 R
  have key : ∀ n, askN ls i no = n → (n ≠ 0 ∧ n ≠ 1 → askL ls i no = ls) ∧ (n = 0 → askL ls i no = ls.modify i.toNat (setOwner no)) ∧ (n = 1 → askL ls i no = ls.modify i.toNat (addWait no)) := by
    rintro n rfl
    refine ⟨fun h => ?_, fun h => ?_, fun h => ?_⟩
    · unfold askL; rw [hb]; simp [h.1, h.2]
    · unfold askL; rw [hb]; simp [h]
    · unfold askL; rw [hb]; simp [h]
  by_cases c : (!inB i 0 ((ls.length : Int) - 1) || (!inB no 1 1000 || decide (0 ≤ waitAt ls no))) = true
  · have e : askN ls i no = 2 := by unfold askN; rw [hb, c]; rfl
    exact .inl ⟨.inl e, (key 2 e).1 (by decide)⟩
  · rw [Bool.not_eq_true, Bool.or_eq_false_iff, Bool.or_eq_false_iff] at c
    obtain ⟨c1, c2, c3⟩ := c
    have c1' := c1
    have c2' := c2
    rw [Bool.not_eq_false'] at c1' c2'
    obtain ⟨h0, h1⟩ := inB_iff.1 c1'
    obtain ⟨j, rfl⟩ : ∃ j : Nat, i = (j : Int) := ⟨i.toNat, by omega⟩
    have hj : j < ls.length := by omega
    have hl : ls[j]? = some ls[j] := List.getElem?_eq_getElem hj
    have hno := inB_iff.1 c2'
    have hn := waitAt_lt c3
    have go : askN ls (j : Int) no = if ls[j].owner == no then 3 else if ls[j].owner == 0 then 0 else if hasB (chainL ls ls[j].owner) no then 4 else 1 := by
      unfold askN
      rw [hb, c1, c2, c3, Int.toNat_natCast, ownerAt_of hl]
      rfl
    cases c4 : (ls[j].owner == no)
    · cases c5 : (ls[j].owner == 0)
      · cases c6 : hasB (chainL ls ls[j].owner) no
        · have e : askN ls (j : Int) no = 1 := by rw [go, c4, c5, c6]; rfl
          have e2 := (key 1 e).2.2 rfl
          rw [Int.toNat_natCast, modifySet hl] at e2
          exact .inr (.inr (.inr ⟨j, ls[j], rfl, hl, by simpa using c5, by simpa using c4, hno, hn, c6, e, e2⟩))
        · have e : askN ls (j : Int) no = 4 := by rw [go, c4, c5, c6]; rfl
          exact .inr (.inr (.inl ⟨j, ls[j], rfl, hl, c6, e, (key 4 e).1 (by decide)⟩))
      · have e : askN ls (j : Int) no = 0 := by rw [go, c4, c5]; rfl
        have e2 := (key 0 e).2.1 rfl
        have ho : ls[j].owner = 0 := by simpa using c5
        rw [Int.toNat_natCast, modifySet hl] at e2
        have : setOwner no ls[j] = ⟨no, []⟩ := by unfold setOwner; rw [R.free j _ hl ho]
        rw [this] at e2
        exact .inr (.inl ⟨j, ls[j], rfl, hl, ho, hno, hn, e, e2⟩)
    · have e : askN ls (j : Int) no = 3 := by rw [go, c4]; rfl
      exact .inl ⟨.inr e, (key 3 e).1 (by decide)⟩
end Go.Proofs.YtpikopdfkhagmaaDoor
