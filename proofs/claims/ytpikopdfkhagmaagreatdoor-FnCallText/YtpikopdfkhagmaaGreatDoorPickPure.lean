/-
  Locks: freeing leaves right ones; what asking comes to.
  Picking, as plain functions, and what holds of them.
-/
import Derived.Test.YtpikopdfkhagmaaGreatDoorLockPure2
import Derived.Test.YtpikopdfkhagmaaGreatDoorDueSpec
import Derived.Test.YtpikopdfkhagmaaGreatDoorPutC
import Derived.Test.YtpikopdfkhagmaaGreatDoorFairSpec
import Derived.Test.YtpikopdfkhagmaaGreatDoorTasksOkS
namespace Go.Proofs.YtpikopdfkhagmaaGreatDoor
open Go.RowKit

theorem hasB_less {xs : List Int} {x y : Int} : hasB (lessL xs y) x = (hasB xs x && x != y) := by
  apply Bool.eq_iff_iff.2
  rw [hasB_iff, Bool.and_eq_true, hasB_iff]
  unfold lessL
  rw [List.mem_filter]
theorem countN_less {xs : List Int} {x y : Int} (h : x ≠ y) : countN (lessL xs y) x = countN xs x := by
  unfold countN lessL
  rw [List.filter_filter]
  congr 1
  apply List.filter_congr
  intro z _
  by_cases e : z = x
  · subst e; simp [h]
  · simp [e]
section free
variable {ls : List Lk} {j : Nat} {l : Lk} {next : Int}
theorem freed_ix (R : Right ls) (hl : ls[j]? = some l) (hx : hasB l.waits next = true) : (∀ x, x ≠ next → waitIx (ls.set j ⟨next, lessL l.waits next⟩) x = waitIx ls x) ∧ waitIx (ls.set j ⟨next, lessL l.waits next⟩) next = none := by
  refine ⟨fun x hne => waitIx_same (by simp) fun i m m' hm hm' => ?_, waitIx_of_none fun i m hm => ?_⟩
  · rcases setAt hm' with ⟨rfl, rfl⟩ | ⟨_, h⟩
    · rw [hl] at hm; cases hm
      simp only [hasB_less]
      have : (x != next) = true := by simpa using hne
      rw [this, Bool.and_true]
    · rw [hm] at h; cases h; rfl
  · rcases setAt hm with ⟨rfl, rfl⟩ | ⟨hij, h⟩
    · simp only [hasB_less]; simp
    · exact waits_once (R.once j l next hl hx) hl hx h hij
theorem freed_ends (R : Right ls) (hl : ls[j]? = some l) (hx : hasB l.waits next = true) : ∀ {c : List Int} {x : Int}, Ends ls x c → ∃ c', Ends (ls.set j ⟨next, lessL l.waits next⟩) x c'
  | [], _, h => by rcases h.cases with ⟨_, e⟩ | ⟨_, _, _, e, _⟩ <;> cases e
  | y :: r, x, h => by
    by_cases hn : x = next
    · rw [hn]; exact ⟨_, Ends.stop (freed_ix R hl hx).2⟩
    · have hw := (freed_ix R hl hx).1 x hn
      rcases h.cases with ⟨h1, _⟩ | ⟨i, r', h1, e, hr⟩
      · exact ⟨_, Ends.stop (hw.trans h1)⟩
      · by_cases hij : i = j
        · subst hij
          refine ⟨_, Ends.step (hw.trans h1) (r := [next]) ?_⟩
          rw [ownerAt_self (lt_some hl)]
          exact Ends.stop (freed_ix R hl hx).2
        · cases e
          obtain ⟨c', hc'⟩ := freed_ends R hl hx hr
          refine ⟨_, Ends.step (hw.trans h1) (r := c') ?_⟩
          rw [ownerAt_set hij]; exact hc'
/-- It is freed to one that waits. -/
theorem Right.freed (R : Right ls) (hl : ls[j]? = some l) (hx : hasB l.waits next = true) : Right (ls.set j ⟨next, lessL l.waits next⟩) := by
  have hno := R.no j l next hl hx
  have nsame : ∀ x, x ≠ next → waitsN (ls.set j ⟨next, lessL l.waits next⟩) x = waitsN ls x := fun x hne => by
    have := waitsN_set (⟨next, lessL l.waits next⟩ : Lk) x hl
    simp only [countN_less hne] at this
    omega
  have back : ∀ (i : Nat) (m : Lk) (x : Int), (ls.set j ⟨next, lessL l.waits next⟩)[i]? = some m → hasB m.waits x = true → x ≠ next ∧ ∃ (k : Nat) (m0 : Lk), ls[k]? = some m0 ∧ hasB m0.waits x = true := by
    intro i m x hm hxm
    have hne : x ≠ next := fun e => by
      have := waitIx_none (freed_ix R hl hx).2 i m hm
      rw [e, this] at hxm; cases hxm
    refine ⟨hne, ?_⟩
    rcases setAt hm with ⟨rfl, rfl⟩ | ⟨_, h⟩
    · simp only [hasB_less, Bool.and_eq_true] at hxm
      exact ⟨i, l, hl, hxm.1⟩
    · exact ⟨i, m, h, hxm⟩
  refine ⟨by simpa using R.len, ?_, ?_, ?_, ?_, ?_⟩
  · intro i m hm
    rcases setAt hm with ⟨rfl, rfl⟩ | ⟨_, h⟩
    · exact ⟨by simp only; omega, hno.2⟩
    · exact R.owner i m h
  · intro i m hm e
    rcases setAt hm with ⟨rfl, rfl⟩ | ⟨_, h⟩
    · simp only at e; omega
    · exact R.free i m h e
  · intro i m x hm hxm
    obtain ⟨_, k, m0, h1, h2⟩ := back i m x hm hxm
    exact R.no k m0 x h1 h2
  · intro i m x hm hxm
    obtain ⟨hne, k, m0, h1, h2⟩ := back i m x hm hxm
    rw [nsame x hne]; exact R.once k m0 x h1 h2
  · intro i m x hm hxm
    obtain ⟨_, k, m0, h1, h2⟩ := back i m x hm hxm
    obtain ⟨c, hc⟩ := R.ends k m0 x h1 h2
    exact freed_ends R hl hx hc
end free

theorem waitAt_lt {ls : List Lk} {no : Int} (h : decide (0 ≤ waitAt ls no) = false) : waitIx ls no = none := by
  unfold waitAt at h
  split at h
  · simp at h
  · assumption
/-- What asking right locks comes to. -/
def Asked (ls : List Lk) (i no : Int) : Prop :=
  ((askN ls i no = 2 ∨ askN ls i no = 3) ∧ askL ls i no = ls) ∨
  (∃ (j : Nat) (l : Lk), i = (j : Int) ∧ ls[j]? = some l ∧ l.owner = 0 ∧ (1 ≤ no ∧ no ≤ 1000) ∧ waitIx ls no = none ∧ askN ls i no = 0 ∧ askL ls i no = ls.set j ⟨no, []⟩) ∨
  (∃ (j : Nat) (l : Lk), i = (j : Int) ∧ ls[j]? = some l ∧ hasB (chainL ls l.owner) no = true ∧ askN ls i no = 4 ∧ askL ls i no = ls) ∨
  ∃ (j : Nat) (l : Lk), i = (j : Int) ∧ ls[j]? = some l ∧ l.owner ≠ 0 ∧ l.owner ≠ no ∧ (1 ≤ no ∧ no ≤ 1000) ∧ waitIx ls no = none ∧ hasB (chainL ls l.owner) no = false ∧ askN ls i no = 1 ∧ askL ls i no = ls.set j { l with waits := l.waits ++ [no] }
theorem asked {ls : List Lk} (R : Right ls) (i no : Int) : Asked ls i no := by
  have hb := right_iff.2 R
  have key : ∀ n, askN ls i no = n → (n ≠ 0 ∧ n ≠ 1 → askL ls i no = ls) ∧ (n = 0 → askL ls i no = ls.modify i.toNat (setOwner no)) ∧ (n = 1 → askL ls i no = ls.modify i.toNat (addWait no)) := by
    rintro n rfl
    refine ⟨fun h => ?_, fun h => ?_, fun h => ?_⟩
    · unfold askL; rw [hb]; simp [h.1, h.2]
    · unfold askL; rw [hb]; simp [h]
    · unfold askL; rw [hb]; simp [h]
  by_cases c : (!inB i 0 ((ls.length : Int) - 1) || (!inB no 1 1000 || decide (0 ≤ waitAt ls no))) = true
  · have e : askN ls i no = 2 := by unfold askN; rw [hb, c]; rfl
    exact .inl ⟨.inl e, (key 2 e).1 (by decide)⟩
  · rw [Bool.not_eq_true, Bool.or_eq_false_iff, Bool.or_eq_false_iff] at c
    obtain ⟨c1, c2, c3⟩ := c
    have c1' := c1
    have c2' := c2
    rw [Bool.not_eq_false'] at c1' c2'
    obtain ⟨h0, h1⟩ := inB_iff.1 c1'
    obtain ⟨j, rfl⟩ : ∃ j : Nat, i = (j : Int) := ⟨i.toNat, by omega⟩
    have hj : j < ls.length := by omega
    have hl : ls[j]? = some ls[j] := List.getElem?_eq_getElem hj
    have hno := inB_iff.1 c2'
    have hn := waitAt_lt c3
    have go : askN ls (j : Int) no = if ls[j].owner == no then 3 else if ls[j].owner == 0 then 0 else if hasB (chainL ls ls[j].owner) no then 4 else 1 := by
      unfold askN
      rw [hb, c1, c2, c3, Int.toNat_natCast, ownerAt_of hl]
      rfl
    cases c4 : (ls[j].owner == no)
    · cases c5 : (ls[j].owner == 0)
      · cases c6 : hasB (chainL ls ls[j].owner) no
        · have e : askN ls (j : Int) no = 1 := by rw [go, c4, c5, c6]; rfl
          have e2 := (key 1 e).2.2 rfl
          rw [Int.toNat_natCast, modifySet hl] at e2
          exact .inr (.inr (.inr ⟨j, ls[j], rfl, hl, by simpa using c5, by simpa using c4, hno, hn, c6, e, e2⟩))
        · have e : askN ls (j : Int) no = 4 := by rw [go, c4, c5, c6]; rfl
          exact .inr (.inr (.inl ⟨j, ls[j], rfl, hl, c6, e, (key 4 e).1 (by decide)⟩))
      · have e : askN ls (j : Int) no = 0 := by rw [go, c4, c5]; rfl
        have e2 := (key 0 e).2.1 rfl
        have ho : ls[j].owner = 0 := by simpa using c5
        rw [Int.toNat_natCast, modifySet hl] at e2
        have : setOwner no ls[j] = ⟨no, []⟩ := by unfold setOwner; rw [R.free j _ hl ho]
        rw [this] at e2
        exact .inr (.inl ⟨j, ls[j], rfl, hl, ho, hno, hn, e, e2⟩)
    · have e : askN ls (j : Int) no = 3 := by rw [go, c4]; rfl
      exact .inl ⟨.inr e, (key 3 e).1 (by decide)⟩
end Go.Proofs.YtpikopdfkhagmaaGreatDoor
namespace Go.Proofs.YtpikopdfkhagmaaGreatDoor
open Go.RowKit

def befB (a b : Tsk) : Bool := taskB a && (taskB b && (if a.cls != b.cls then decide (a.cls < b.cls) else dueBefB a b || (fixBefB a b || fairBefB a b)))
theorem task_cls {t : Tsk} (h : taskB t = true) : 1 ≤ t.cls ∧ t.cls ≤ 3 := by
  unfold taskB at h
  simp only [Bool.and_eq_true] at h
  exact inB_iff.1 h.1.1.1.1.2
/-- Who is before whom, in numbers. -/
theorem befB_iff {a b : Tsk} : befB a b = true ↔ taskB a = true ∧ taskB b = true ∧ (a.cls < b.cls ∨ a.cls = b.cls ∧ (a.cls = 1 ∧ (a.due < b.due ∨ a.due = b.due ∧ a.no < b.no) ∨ a.cls = 2 ∧ (b.prio < a.prio ∨ a.prio = b.prio ∧ (a.seq < b.seq ∨ a.seq = b.seq ∧ a.no < b.no)) ∨ a.cls = 3 ∧ (a.v < b.v ∨ a.v = b.v ∧ a.no < b.no))) := by
  unfold befB
  rw [Bool.and_eq_true, Bool.and_eq_true]
  refine and_congr_right fun ha => and_congr_right fun hb => ?_
  have ca := task_cls ha
  have cb := task_cls hb
  by_cases hc : a.cls = b.cls
  · have e1 : (a.cls != b.cls) = false := by simpa using hc
    rw [e1]
    simp only [Bool.false_eq_true, if_false]
    unfold dueBefB fixBefB fairBefB dueB fixB fairB
    rw [ha, hb, ← hc]
    simp only [Bool.true_and, Bool.or_eq_true, Bool.and_eq_true, beq_iff_eq, decide_eq_true_eq]
    constructor
    · rintro (⟨⟨h1, -⟩, h2⟩ | ⟨⟨h1, -⟩, h2⟩ | ⟨⟨h1, -⟩, h2⟩)
      · exact .inr ⟨trivial, .inl ⟨h1, h2⟩⟩
      · refine .inr ⟨trivial, .inr (.inl ⟨h1, ?_⟩)⟩
        by_cases p1 : a.prio = b.prio
        · have q1 : (a.prio != b.prio) = false := by simpa using p1
          rw [q1] at h2
          by_cases p2 : a.seq = b.seq
          · have q2 : (a.seq != b.seq) = false := by simpa using p2
            rw [q2] at h2
            simp at h2
            omega
          · have q2 : (a.seq != b.seq) = true := by simpa using p2
            rw [q2] at h2
            simp at h2
            omega
        · have q1 : (a.prio != b.prio) = true := by simpa using p1
          rw [q1] at h2
          simp at h2
          omega
      · exact .inr ⟨trivial, .inr (.inr ⟨h1, h2⟩)⟩
    · rintro (h | ⟨-, ⟨h1, h2⟩ | ⟨h1, h2⟩ | ⟨h1, h2⟩⟩)
      · omega
      · exact .inl ⟨⟨h1, h1⟩, h2⟩
      · refine .inr (.inl ⟨⟨h1, h1⟩, ?_⟩)
        by_cases p1 : a.prio = b.prio
        · have q1 : (a.prio != b.prio) = false := by simpa using p1
          rw [q1]
          by_cases p2 : a.seq = b.seq
          · have q2 : (a.seq != b.seq) = false := by simpa using p2
            rw [q2]
            simp
            omega
          · have q2 : (a.seq != b.seq) = true := by simpa using p2
            rw [q2]
            simp
            omega
        · have q1 : (a.prio != b.prio) = true := by simpa using p1
          rw [q1]
          simp
          omega
      · exact .inr (.inr ⟨⟨h1, h1⟩, h2⟩)
  · have e1 : (a.cls != b.cls) = true := by simpa using hc
    rw [e1]
    simp only [if_true, decide_eq_true_eq]
    omega
theorem befB_irr (a : Tsk) : befB a a = false := by
  rw [Bool.eq_false_iff]
  intro h
  have := befB_iff.1 h
  omega
theorem befB_trans {a b c : Tsk} (h : befB a b = true) (k : befB b c = true) : befB a c = true := by
  have h1 := befB_iff.1 h
  have h2 := befB_iff.1 k
  exact befB_iff.2 ⟨h1.1, h2.2.1, by omega⟩
/-- Whom one comes to. -/
def chainC (ls : List Lk) (no : Int) : List Int := (chainN ls (ls.length + 1) no).1
def lastI (c : List Int) : Int := c.getD (c.length - 1) 0
def thereB (ts : List Tsk) (x : Int) : Bool := !decide (atFrom ts x < 0)
def execI (ts : List Tsk) (ls : List Lk) (no : Int) : Int := if (chainC ls no).all (thereB ts) then lastI (chainC ls no) else 0
def tAt (ts : List Tsk) (no : Int) : Tsk := ts.getD (atFrom ts no).toNat Tsk.zero
def ableB (ts : List Tsk) (ls : List Lk) (no : Int) : Bool := execI ts ls no != 0 && ((tAt ts no).st == 1 && (tAt ts (execI ts ls no)).st == 1)
def mayB (t : Tsk) : Bool := t.cls != 1 || decide (0 < t.left)
def canB (ts : List Tsk) (ls : List Lk) (no : Int) : Bool := ableB ts ls no && mayB (tAt ts no)
/-- The first of those that are told, so far. -/
def topS (ts : List Tsk) (cand : Tsk → Bool) (at' : Int) (k : Nat) (t : Tsk) : Int := if cand t && (decide (at' < 0) || befB t (ts.getD at'.toNat Tsk.zero)) then (k : Int) else at'
def topN (ts : List Tsk) (cand : Tsk → Bool) : Nat → Int
  | 0 => -1
  | k + 1 => topS ts cand (topN ts cand k) k (ts.getD k Tsk.zero)
def candP (ts : List Tsk) (ls : List Lk) (cpu : Int) (t : Tsk) : Bool := t.cpu == cpu && canB ts ls t.no
def candL (xs : List Int) (t : Tsk) : Bool := hasB xs t.no
def pickI (ts : List Tsk) (ls : List Lk) (cpu : Int) : Int := topN ts (candP ts ls cpu) ts.length
def noAt (ts : List Tsk) (k : Int) : Int := if k < 0 then 0 else (ts.getD k.toNat Tsk.zero).no
def bestI (ts : List Tsk) (xs : List Int) : Int := if tasksB ts then noAt ts (topN ts (candL xs) ts.length) else 0

theorem chainC_pos (ls : List Lk) (no : Int) : 0 < (chainC ls no).length := by
  unfold chainC
  simp only [chainN]
  split <;> simp
theorem chainC_head (ls : List Lk) (no : Int) : (chainC ls no)[0]? = some no := by
  unfold chainC
  simp only [chainN]
  split <;> simp
theorem lastI_at {c : List Int} (h : 0 < c.length) : c[c.length - 1]? = some (lastI c) := by
  unfold lastI
  rw [List.getD_eq_getElem?_getD, List.getElem?_eq_getElem (by omega)]
  rfl
theorem thereB_iff {ts : List Tsk} {x : Int} : thereB ts x = true ↔ ∃ (k : Nat) (t : Tsk), atFrom ts x = (k : Int) ∧ ts[k]? = some t ∧ t.no = x := by
  unfold thereB atFrom
  split
  · rename_i i h
    obtain ⟨hi, h1, h2⟩ := List.findIdx?_eq_some_iff_getElem.1 h
    simp only [Bool.not_eq_true', decide_eq_false_iff_not]
    exact ⟨fun _ => ⟨i, ts[i], rfl, List.getElem?_eq_getElem hi, by simpa using h1⟩, fun _ => by omega⟩
  · simp only [Bool.not_eq_true', decide_eq_false_iff_not]
    exact ⟨fun h => by omega, fun ⟨k, t, h, _⟩ => by omega⟩
theorem tAt_of {ts : List Tsk} {x : Int} {k : Nat} {t : Tsk} (h : atFrom ts x = (k : Int)) (ht : ts[k]? = some t) : tAt ts x = t := by
  unfold tAt
  rw [h, Int.toNat_natCast, List.getD_eq_getElem?_getD, ht]
  rfl
theorem getD_of {ts : List Tsk} {k : Nat} {t : Tsk} (ht : ts[k]? = some t) : ts.getD k Tsk.zero = t := by
  rw [List.getD_eq_getElem?_getD, ht]; rfl
/-- Who has an executor is there, and so is the executor. -/
theorem exec_there {ts : List Tsk} {ls : List Lk} {no : Int} (h : (execI ts ls no != 0) = true) : (∀ x ∈ chainC ls no, thereB ts x = true) ∧ execI ts ls no = lastI (chainC ls no) ∧ thereB ts no = true ∧ thereB ts (execI ts ls no) = true := by
  unfold execI at h ⊢
  split at h
  · rename_i h1
    rw [List.all_eq_true] at h1
    refine ⟨h1, by rw [if_pos (by rw [List.all_eq_true]; exact h1)], h1 no (List.mem_of_getElem? (chainC_head ls no)), ?_⟩
    rw [if_pos (by rw [List.all_eq_true]; exact h1)]
    exact h1 _ (List.mem_of_getElem? (lastI_at (chainC_pos ls no)))
  · simp at h
theorem topN_le (ts : List Tsk) (cand : Tsk → Bool) : ∀ k, -1 ≤ topN ts cand k ∧ topN ts cand k < k
  | 0 => by simp [topN]
  | k + 1 => by
    have := topN_le ts cand k
    simp only [topN, topS]
    split <;> omega
theorem topN_spec (ts : List Tsk) (cand : Tsk → Bool) : ∀ k, k ≤ ts.length → (topN ts cand k = -1 ∧ ∀ (i : Nat) (s : Tsk), i < k → ts[i]? = some s → cand s = false) ∨ ∃ (j : Nat) (t : Tsk), topN ts cand k = (j : Int) ∧ j < k ∧ ts[j]? = some t ∧ cand t = true ∧ ∀ (i : Nat) (s : Tsk), i < k → ts[i]? = some s → cand s = true → befB s t = false
  | 0, _ => .inl ⟨rfl, fun i s h => by omega⟩
  | k + 1, hk => by
    have ih := topN_spec ts cand k (by omega)
    have hu : ts[k]? = some ts[k] := List.getElem?_eq_getElem (by omega)
    simp only [topN, topS]
    rw [getD_of hu]
    rcases ih with ⟨e, h⟩ | ⟨j, t, e, hj, ht, hc, h⟩
    · rw [e]
      cases c : cand ts[k]
      · refine .inl ⟨by simp, fun i s hi hs => ?_⟩
        by_cases e2 : i = k
        · subst e2; rw [hu] at hs; cases hs; exact c
        · exact h i s (by omega) hs
      · refine .inr ⟨k, ts[k], by simp, by omega, hu, c, fun i s hi hs hcs => ?_⟩
        by_cases e2 : i = k
        · subst e2; rw [hu] at hs; cases hs; exact befB_irr _
        · rw [h i s (by omega) hs] at hcs; cases hcs
    · rw [e, Int.toNat_natCast, getD_of ht]
      cases c : cand ts[k]
      · refine .inr ⟨j, t, by simp, by omega, ht, hc, fun i s hi hs hcs => ?_⟩
        by_cases e2 : i = k
        · subst e2; rw [hu] at hs; cases hs; rw [c] at hcs; cases hcs
        · exact h i s (by omega) hs hcs
      · cases hb : befB ts[k] t
        · have hd : decide ((j : Int) < 0) = false := by simp
          refine .inr ⟨j, t, by rw [hd]; simp, by omega, ht, hc, fun i s hi hs hcs => ?_⟩
          by_cases e2 : i = k
          · subst e2; rw [hu] at hs; cases hs; exact hb
          · exact h i s (by omega) hs hcs
        · refine .inr ⟨k, ts[k], by simp, by omega, hu, c, fun i s hi hs hcs => ?_⟩
          by_cases e2 : i = k
          · subst e2; rw [hu] at hs; cases hs; exact befB_irr _
          · rw [Bool.eq_false_iff]
            intro h3
            have := h i s (by omega) hs hcs
            rw [befB_trans h3 hb] at this
            cases this
end Go.Proofs.YtpikopdfkhagmaaGreatDoor
