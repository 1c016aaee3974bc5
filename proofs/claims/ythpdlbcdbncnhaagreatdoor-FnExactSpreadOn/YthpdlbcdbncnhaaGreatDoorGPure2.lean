/-
  Picking, as plain functions, and what holds of them.
  The system, as a plain record, and what chapter 9 asks of it.
  Ticks and calls, as plain functions.
-/
import Derived.Test.YthpdlbcdbncnhaaGreatDoorGPure1
import Derived.Test.YthpdlbcdbncnhaaGreatDoorGTask3
import Derived.Test.YthpdlbcdbncnhaaGreatDoorGSum1
import Derived.Test.YthpdlbcdbncnhaaGreatDoorGTask4
namespace Go.Proofs.YthpdlbcdbncnhaaGreatDoor
open Go.RowKit

def befB (a b : Tsk) : Bool := taskB a && (taskB b && (if a.cls != b.cls then decide (a.cls < b.cls) else dueBefB a b || (fixBefB a b || fairBefB a b)))
theorem task_cls {t : Tsk} (h : taskB t = true) : 1 ≤ t.cls ∧ t.cls ≤ 3 := by
  unfold taskB at h
  simp only [Bool.and_eq_true] at h
  exact inB_iff.1 h.1.1.1.1.2
/-- Who is before whom, in numbers. -/
theorem befB_iff {a b : Tsk} : befB a b = true ↔ taskB a = true ∧ taskB b = true ∧ (a.cls < b.cls ∨ a.cls = b.cls ∧ (a.cls = 1 ∧ (a.due < b.due ∨ a.due = b.due ∧ a.no < b.no) ∨ a.cls = 2 ∧ (b.prio < a.prio ∨ a.prio = b.prio ∧ (a.seq < b.seq ∨ a.seq = b.seq ∧ a.no < b.no)) ∨ a.cls = 3 ∧ (a.v < b.v ∨ a.v = b.v ∧ a.no < b.no))) := by
  unfold befB
  rw [Bool.and_eq_true, Bool.and_eq_true]
  refine and_congr_right fun ha => and_congr_right fun hb => ?_
  have ca := task_cls ha
  have cb := task_cls hb
  by_cases hc : a.cls = b.cls
  · have e1 : (a.cls != b.cls) = false := by simpa using hc
    rw [e1]
    simp only [Bool.false_eq_true, if_false]
    unfold dueBefB fixBefB fairBefB dueB fixB fairB
    rw [ha, hb, ← hc]
    simp only [Bool.true_and, Bool.or_eq_true, Bool.and_eq_true, beq_iff_eq, decide_eq_true_eq]
    constructor
    · rintro (⟨⟨h1, -⟩, h2⟩ | ⟨⟨h1, -⟩, h2⟩ | ⟨⟨h1, -⟩, h2⟩)
      · exact .inr ⟨trivial, .inl ⟨h1, h2⟩⟩
      · refine .inr ⟨trivial, .inr (.inl ⟨h1, ?_⟩)⟩
        by_cases p1 : a.prio = b.prio
        · have q1 : (a.prio != b.prio) = false := by simpa using p1
          rw [q1] at h2
          by_cases p2 : a.seq = b.seq
          · have q2 : (a.seq != b.seq) = false := by simpa using p2
            rw [q2] at h2
            simp at h2
            omega
          · have q2 : (a.seq != b.seq) = true := by simpa using p2
            rw [q2] at h2
            simp at h2
            omega
        · have q1 : (a.prio != b.prio) = true := by simpa using p1
          rw [q1] at h2
          simp at h2
          omega
      · exact .inr ⟨trivial, .inr (.inr ⟨h1, h2⟩)⟩
    · rintro (h | ⟨-, ⟨h1, h2⟩ | ⟨h1, h2⟩ | ⟨h1, h2⟩⟩)
      · omega
      · exact .inl ⟨⟨h1, h1⟩, h2⟩
      · refine .inr (.inl ⟨⟨h1, h1⟩, ?_⟩)
        by_cases p1 : a.prio = b.prio
        · have q1 : (a.prio != b.prio) = false := by simpa using p1
          rw [q1]
          by_cases p2 : a.seq = b.seq
          · have q2 : (a.seq != b.seq) = false := by simpa using p2
            rw [q2]
            simp
            omega
          · have q2 : (a.seq != b.seq) = true := by simpa using p2
            rw [q2]
            simp
            omega
        · have q1 : (a.prio != b.prio) = true := by simpa using p1
          rw [q1]
          simp
          omega
      · exact .inr (.inr ⟨⟨h1, h1⟩, h2⟩)
  · have e1 : (a.cls != b.cls) = true := by simpa using hc
    rw [e1]
    simp only [if_true, decide_eq_true_eq]
    omega
theorem befB_irr (a : Tsk) : befB a a = false := by
  rw [Bool.eq_false_iff]
  intro h
  have := befB_iff.1 h
  omega
theorem befB_asym {a b : Tsk} (h : befB a b = true) : befB b a = false := by
  rw [Bool.eq_false_iff]
  intro h2
  have h1 := befB_iff.1 h
  have h3 := befB_iff.1 h2
  omega
theorem befB_trans {a b c : Tsk} (h : befB a b = true) (k : befB b c = true) : befB a c = true := by
  have h1 := befB_iff.1 h
  have h2 := befB_iff.1 k
  exact befB_iff.2 ⟨h1.1, h2.2.1, by omega⟩
theorem befB_total {a b : Tsk} (ha : taskB a = true) (hb : taskB b = true) (hn : a.no ≠ b.no) : befB a b = true ∨ befB b a = true := by
  have ca := task_cls ha
  have cb := task_cls hb
  by_cases h : befB a b = true
  · exact .inl h
  · refine .inr (befB_iff.2 ⟨hb, ha, ?_⟩)
    have : ¬ (a.cls < b.cls ∨ a.cls = b.cls ∧ (a.cls = 1 ∧ (a.due < b.due ∨ a.due = b.due ∧ a.no < b.no) ∨ a.cls = 2 ∧ (b.prio < a.prio ∨ a.prio = b.prio ∧ (a.seq < b.seq ∨ a.seq = b.seq ∧ a.no < b.no)) ∨ a.cls = 3 ∧ (a.v < b.v ∨ a.v = b.v ∧ a.no < b.no))) := fun h' => h (befB_iff.2 ⟨ha, hb, h'⟩)
    omega

/-- Whom one comes to. -/
def chainC (ls : List Lk) (no : Int) : List Int := (chainN ls (ls.length + 1) no).1
def lastI (c : List Int) : Int := c.getD (c.length - 1) 0
def thereB (ts : List Tsk) (x : Int) : Bool := !decide (atFrom ts x < 0)
def execI (ts : List Tsk) (ls : List Lk) (no : Int) : Int := if (chainC ls no).all (thereB ts) then lastI (chainC ls no) else 0
def tAt (ts : List Tsk) (no : Int) : Tsk := ts.getD (atFrom ts no).toNat Tsk.zero
def ableB (ts : List Tsk) (ls : List Lk) (no : Int) : Bool := execI ts ls no != 0 && ((tAt ts no).st == 1 && (tAt ts (execI ts ls no)).st == 1)
def mayB (t : Tsk) : Bool := t.cls != 1 || decide (0 < t.left)
def canB (ts : List Tsk) (ls : List Lk) (no : Int) : Bool := ableB ts ls no && mayB (tAt ts no)
def bothB (ts : List Tsk) (ls : List Lk) : Bool := tasksB ts && locksB ls
def execP (ts : List Tsk) (ls : List Lk) (no : Int) : Int := if bothB ts ls then execI ts ls no else 0
def ableP (ts : List Tsk) (ls : List Lk) (no : Int) : Bool := bothB ts ls && ableB ts ls no
def canP (ts : List Tsk) (ls : List Lk) (no : Int) : Bool := bothB ts ls && canB ts ls no
/-- The first of those that are told, so far. -/
def topS (ts : List Tsk) (cand : Tsk → Bool) (at' : Int) (k : Nat) (t : Tsk) : Int := if cand t && (decide (at' < 0) || befB t (ts.getD at'.toNat Tsk.zero)) then (k : Int) else at'
def topN (ts : List Tsk) (cand : Tsk → Bool) : Nat → Int
  | 0 => -1
  | k + 1 => topS ts cand (topN ts cand k) k (ts.getD k Tsk.zero)
def candP (ts : List Tsk) (ls : List Lk) (cpu : Int) (t : Tsk) : Bool := t.cpu == cpu && canB ts ls t.no
def candL (xs : List Int) (t : Tsk) : Bool := hasB xs t.no
def pickI (ts : List Tsk) (ls : List Lk) (cpu : Int) : Int := topN ts (candP ts ls cpu) ts.length
def noAt (ts : List Tsk) (k : Int) : Int := if k < 0 then 0 else (ts.getD k.toNat Tsk.zero).no
def pickNo (ts : List Tsk) (ls : List Lk) (cpu : Int) : Int := if bothB ts ls then noAt ts (pickI ts ls cpu) else 0
def pickX (ts : List Tsk) (ls : List Lk) (cpu : Int) : Int := if bothB ts ls && !decide (pickI ts ls cpu < 0) then execI ts ls (noAt ts (pickI ts ls cpu)) else 0
def bestI (ts : List Tsk) (xs : List Int) : Int := if tasksB ts then noAt ts (topN ts (candL xs) ts.length) else 0

theorem chainC_pos (ls : List Lk) (no : Int) : 0 < (chainC ls no).length := by
  unfold chainC
  simp only [chainN]
  split <;> simp
theorem chainC_head (ls : List Lk) (no : Int) : (chainC ls no)[0]? = some no := by
  unfold chainC
  simp only [chainN]
  split <;> simp
theorem lastI_at {c : List Int} (h : 0 < c.length) : c[c.length - 1]? = some (lastI c) := by
  unfold lastI
  rw [List.getD_eq_getElem?_getD, List.getElem?_eq_getElem (by omega)]
  rfl
theorem thereB_iff {ts : List Tsk} {x : Int} : thereB ts x = true ↔ ∃ (k : Nat) (t : Tsk), atFrom ts x = (k : Int) ∧ ts[k]? = some t ∧ t.no = x := by
  unfold thereB atFrom
  split
  · rename_i i h
    obtain ⟨hi, h1, h2⟩ := List.findIdx?_eq_some_iff_getElem.1 h
    simp only [Bool.not_eq_true', decide_eq_false_iff_not]
    exact ⟨fun _ => ⟨i, ts[i], rfl, List.getElem?_eq_getElem hi, by simpa using h1⟩, fun _ => by omega⟩
  · simp only [Bool.not_eq_true', decide_eq_false_iff_not]
    exact ⟨fun h => by omega, fun ⟨k, t, h, _⟩ => by omega⟩
theorem tAt_of {ts : List Tsk} {x : Int} {k : Nat} {t : Tsk} (h : atFrom ts x = (k : Int)) (ht : ts[k]? = some t) : tAt ts x = t := by
  unfold tAt
  rw [h, Int.toNat_natCast, List.getD_eq_getElem?_getD, ht]
  rfl
theorem getD_of {ts : List Tsk} {k : Nat} {t : Tsk} (ht : ts[k]? = some t) : ts.getD k Tsk.zero = t := by
  rw [List.getD_eq_getElem?_getD, ht]; rfl
/-- Who has an executor is there, and so is the executor. -/
theorem exec_there {ts : List Tsk} {ls : List Lk} {no : Int} (h : (execI ts ls no != 0) = true) : (∀ x ∈ chainC ls no, thereB ts x = true) ∧ execI ts ls no = lastI (chainC ls no) ∧ thereB ts no = true ∧ thereB ts (execI ts ls no) = true := by
  unfold execI at h ⊢
  split at h
  · rename_i h1
    rw [List.all_eq_true] at h1
    refine ⟨h1, by rw [if_pos (by rw [List.all_eq_true]; exact h1)], h1 no (List.mem_of_getElem? (chainC_head ls no)), ?_⟩
    rw [if_pos (by rw [List.all_eq_true]; exact h1)]
    exact h1 _ (List.mem_of_getElem? (lastI_at (chainC_pos ls no)))
  · simp at h
theorem topN_le (ts : List Tsk) (cand : Tsk → Bool) : ∀ k, -1 ≤ topN ts cand k ∧ topN ts cand k < k
  | 0 => by simp [topN]
  | k + 1 => by
    have := topN_le ts cand k
    simp only [topN, topS]
    split <;> omega
theorem topN_spec (ts : List Tsk) (cand : Tsk → Bool) : ∀ k, k ≤ ts.length → (topN ts cand k = -1 ∧ ∀ (i : Nat) (s : Tsk), i < k → ts[i]? = some s → cand s = false) ∨ ∃ (j : Nat) (t : Tsk), topN ts cand k = (j : Int) ∧ j < k ∧ ts[j]? = some t ∧ cand t = true ∧ ∀ (i : Nat) (s : Tsk), i < k → ts[i]? = some s → cand s = true → befB s t = false
  | 0, _ => .inl ⟨rfl, fun i s h => by omega⟩
  | k + 1, hk => by
    have ih := topN_spec ts cand k (by omega)
    have hu : ts[k]? = some ts[k] := List.getElem?_eq_getElem (by omega)
    simp only [topN, topS]
    rw [getD_of hu]
    rcases ih with ⟨e, h⟩ | ⟨j, t, e, hj, ht, hc, h⟩
    · rw [e]
      cases c : cand ts[k]
      · refine .inl ⟨by simp, fun i s hi hs => ?_⟩
        by_cases e2 : i = k
        · subst e2; rw [hu] at hs; cases hs; exact c
        · exact h i s (by omega) hs
      · refine .inr ⟨k, ts[k], by simp, by omega, hu, c, fun i s hi hs hcs => ?_⟩
        by_cases e2 : i = k
        · subst e2; rw [hu] at hs; cases hs; exact befB_irr _
        · rw [h i s (by omega) hs] at hcs; cases hcs
    · rw [e, Int.toNat_natCast, getD_of ht]
      cases c : cand ts[k]
      · refine .inr ⟨j, t, by simp, by omega, ht, hc, fun i s hi hs hcs => ?_⟩
        by_cases e2 : i = k
        · subst e2; rw [hu] at hs; cases hs; rw [c] at hcs; cases hcs
        · exact h i s (by omega) hs hcs
      · cases hb : befB ts[k] t
        · have hd : decide ((j : Int) < 0) = false := by simp
          refine .inr ⟨j, t, by rw [hd]; simp, by omega, ht, hc, fun i s hi hs hcs => ?_⟩
          by_cases e2 : i = k
          · subst e2; rw [hu] at hs; cases hs; exact hb
          · exact h i s (by omega) hs hcs
        · refine .inr ⟨k, ts[k], by simp, by omega, hu, c, fun i s hi hs hcs => ?_⟩
          by_cases e2 : i = k
          · subst e2; rw [hu] at hs; cases hs; exact befB_irr _
          · rw [Bool.eq_false_iff]
            intro h3
            have := h i s (by omega) hs hcs
            rw [befB_trans h3 hb] at this
            cases this
end Go.Proofs.YthpdlbcdbncnhaaGreatDoor
namespace Go.Proofs.YthpdlbcdbncnhaaGreatDoor
open Go.RowKit

/-- A part of time that is still counted. -/
structure Gh where
  cpu : Int
  q : Int
  p : Int
  til : Int
/-- A turn. -/
structure Tn where
  cpu : Int
  ctx : Int
  exe : Int
/-- A system. -/
structure Sy where
  now : Int
  cpus : Int
  tasks : List Tsk
  locks : List Lk
  ghosts : List Gh
  floors : List Int
  seq : Int
  missed : Int
  trace : List Tn
def Gh.zero : Gh := ⟨0, 0, 0, 0⟩
def Tn.zero : Tn := ⟨0, 0, 0⟩
def Sy.zero : Sy := ⟨0, 0, [], [], [], [], 0, 0, []⟩
/-- Who waits for the lock is a task of the processor cpu. -/
def onCpu (ts : List Tsk) (cpu : Int) (x : Int) : Bool := thereB ts x && (tAt ts x).cpu == cpu
def lockOnB (ts : List Tsk) (l : Lk) : Bool := l.owner == 0 || (thereB ts l.owner && l.waits.all (onCpu ts (tAt ts l.owner).cpu))
def sysLocksB (s : Sy) : Bool := s.locks.length == 5 && (locksB s.locks && s.locks.all (lockOnB s.tasks))
/-- A task with a deadline of that processor. -/
def dueOn (cpu : Int) (t : Tsk) : Bool := t.cpu == cpu && t.cls == 1
def partT (t : Tsk) : Int × Int := (t.q, t.p)
def ghOn (cpu : Int) (g : Gh) : Bool := g.cpu == cpu
def partG (g : Gh) : Int × Int := (g.q, g.p)
def sharesL (s : Sy) (cpu : Int) : List (Int × Int) := (s.tasks.filter (dueOn cpu)).map partT ++ (s.ghosts.filter (ghOn cpu)).map partG
def ghB (cpus : Int) (g : Gh) : Bool := inB g.cpu 0 (cpus - 1) && (okB g.q g.p && inB g.til 0 100040)
def ghostsB (s : Sy) : Bool := s.ghosts.all (ghB s.cpus) && decide (s.ghosts.length ≤ 12)
def fitsL (xs : List (Int × Int)) : Bool := canSumB xs && decide ((Plain.sumI xs).1 ≤ (Plain.sumI xs).2)
def headSB (s : Sy) : Bool := inB s.now 0 100000 && (inB s.cpus 1 4 && (tasksB s.tasks && (sysLocksB s && (ghostsB s && ((s.floors.length : Int) == s.cpus && (inB s.seq 0 1000000 && (inB s.missed 0 100000 && decide (s.trace.length ≤ 400))))))))
def floorI (s : Sy) (cpu : Int) : Int := if inB cpu 0 ((s.floors.length : Int) - 1) then s.floors.getD cpu.toNat 0 else 0
def cpuB (s : Sy) (cpu : Nat) : Bool := inB (s.floors.getD cpu 0) 0 100000000 && fitsL (sharesL s cpu)
def sysB (s : Sy) : Bool := headSB s && (s.tasks.all (fun t => decide (t.cpu < s.cpus)) && (List.range s.cpus.toNat).all (cpuB s))
def newS (cpus : Int) : Sy := if inB cpus 1 4 then { Sy.zero with cpus := cpus, locks := List.replicate 5 ⟨0, []⟩, floors := List.replicate cpus.toNat 0 } else Sy.zero
def sameB (s : Sy) (i no : Int) : Bool := inB i 0 ((s.locks.length : Int) - 1) && (thereB s.tasks no && (ownerAt s.locks i.toNat == 0 || (thereB s.tasks (ownerAt s.locks i.toNat) && (tAt s.tasks (ownerAt s.locks i.toNat)).cpu == (tAt s.tasks no).cpu)))
end Go.Proofs.YthpdlbcdbncnhaaGreatDoor
namespace Go.Proofs.YthpdlbcdbncnhaaGreatDoor
open Go.RowKit

/-- Who is idle now, and who was is woken. -/
def wakeOne (s : Sy) (t : Tsk) : Tsk := { (if ableB s.tasks s.locks t.no && t.idle then fairWakeT (wakeT { t with idle := false } s.now) (s.floors.getD t.cpu.toNat 0) else t) with idle := !ableB s.tasks s.locks t.no }
def wakeS (s : Sy) : Sy := { s with tasks := s.tasks.map (wakeOne s) }
def awakeB (cpu : Int) (t : Tsk) : Bool := t.cpu == cpu && !t.idle
def awakeL (s : Sy) (cpu : Int) : List Tsk := s.tasks.filter (awakeB cpu)
/-- What becomes of whose turn it is. -/
def nextT (s : Sy) (t : Tsk) : Tsk := fixSpendT (fairSpendT (spendT t)) (s.seq + 1)
def nextB (s : Sy) (t : Tsk) : Bool := turnB (fairSpendT (spendT t)) (s.seq + 1)
def turnTo (s : Sy) (cpu : Int) (k : Nat) (t : Tsk) : Sy := { s with seq := if nextB s t then s.seq + 1 else s.seq, tasks := s.tasks.set k (nextT s t), trace := s.trace ++ [⟨cpu, t.no, execI s.tasks s.locks t.no⟩] }
def turnS (s : Sy) (cpu : Int) : Sy :=
  if pickI s.tasks s.locks cpu < 0 then { s with trace := s.trace ++ [⟨cpu, 0, 0⟩] }
  else turnTo s cpu (pickI s.tasks s.locks cpu).toNat (s.tasks.getD (pickI s.tasks s.locks cpu).toNat Tsk.zero)
def turnsS (s : Sy) : Nat → Sy
  | 0 => s
  | n + 1 => turnS (turnsS s n) n
/-- A deadline has come. -/
def dueNow (now : Int) (t : Tsk) : Bool := t.cls == 1 && (!t.idle && decide (t.due ≤ now))
def missS (now : Int) (m : Int) (t : Tsk) : Int := if dueNow now t && decide (0 < t.left) then min (m + 1) 100000 else m
def renewOne (now : Int) (t : Tsk) : Tsk := if dueNow now t then renewT t now else t
def agedS (s : Sy) : Sy := { s with ghosts := s.ghosts.filter (fun g => decide (s.now < g.til)), missed := s.tasks.foldl (missS s.now) s.missed, tasks := s.tasks.map (renewOne s.now) }
def flooredS (s : Sy) : Sy := { s with floors := s.floors.mapIdx fun c x => fairFloorI (awakeL s c) x }
def tickB (s : Sy) : Bool := sysB s && (!(s.now == 100000) && (!decide (900000 < s.seq) && !decide (400 < (s.trace.length : Int) + s.cpus)))
def aheadS (s : Sy) : Sy := { s with now := s.now + 1 }
def tickS (s : Sy) : Sy := if tickB s then aheadS (turnsS (flooredS (wakeS (agedS s))) s.cpus.toNat) else if sysB s then s else Sy.zero
/-- So many ticks, as long as they go. -/
def ticksS (s : Sy) : Nat → Sy × Nat
  | 0 => (s, 0)
  | n + 1 => if tickB s then ((ticksS (tickS s) n).1, (ticksS (tickS s) n).2 + 1) else (s, 0)
def lastsL (s : Sy) : List Tn := s.trace.drop (s.trace.length - s.cpus.toNat)
/-- A call. -/
structure Cl where
  kind : Int
  no : Int
  cpu : Int
  a : Int
  b : Int
def cleanC (c : Cl) : Cl :=
  if c.kind == 1 || c.kind == 2 then c
  else if c.kind == 3 then { c with b := 0 }
  else if c.kind == 4 || c.kind == 5 || c.kind == 6 then { c with cpu := 0, a := 0, b := 0 }
  else if c.kind == 7 || c.kind == 8 || c.kind == 9 then { c with cpu := 0, b := 0 }
  else if c.kind == 10 then { c with a := 0, b := 0 }
  else if c.kind == 11 then { c with no := 0, cpu := 0, b := 0 }
  else c
def eqC (x y : Cl) : Bool := x.kind == y.kind && (x.no == y.no && (x.cpu == y.cpu && (x.a == y.a && x.b == y.b)))
def callB (c : Cl) : Bool := inB c.kind 1 11 && eqC c (cleanC c)
/-- The task that is asked for. -/
def madeT (s : Sy) (c : Cl) : Tsk := if c.kind == 1 then dueNewT c.no c.cpu c.a c.b s.now else if c.kind == 2 then newT (fixT c.no c.cpu c.a c.b (s.seq + 1)) else newT (fairT c.no c.cpu c.a (floorI s c.cpu))
def madeB (s : Sy) (c : Cl) : Bool := if c.kind == 1 then dueNewB c.no c.cpu c.a c.b s.now else if c.kind == 2 then taskB (fixT c.no c.cpu c.a c.b (s.seq + 1)) else taskB (fairT c.no c.cpu c.a (floorI s c.cpu))
def roomB (s : Sy) (c : Cl) : Bool := putB s.tasks (madeT s c) && (!(c.kind == 1) || fitsL (sharesL s c.cpu ++ [(c.a, c.b)]))
def newN (s : Sy) (c : Cl) : Int :=
  if decide (s.cpus ≤ c.cpu) || !madeB s c then 1 else if thereB s.tasks c.no then 3 else if !roomB s c || (c.kind == 2 && decide (900000 < s.seq)) then 4 else 0
def newC (s : Sy) (c : Cl) : Sy := { s with tasks := putL s.tasks (madeT s c), seq := if c.kind == 2 then s.seq + 1 else s.seq }
def busyB (s : Sy) (no : Int) : Bool := ownsB s.locks no || !decide (waitAt s.locks no < 0)
def ghostOf (t : Tsk) : Gh := ⟨t.cpu, t.q, t.p, t.due⟩
def leavesB (s : Sy) (t : Tsk) : Bool := t.cls == 1 && decide (s.now < t.due)
def exitN (s : Sy) (t : Tsk) : Int := if busyB s t.no then 5 else if leavesB s t && s.ghosts.length == 12 then 4 else 0
def exitC (s : Sy) (k : Nat) (t : Tsk) : Sy := { s with ghosts := if leavesB s t then s.ghosts ++ [ghostOf t] else s.ghosts, tasks := s.tasks.eraseIdx k }
def lockN (s : Sy) (c : Cl) (t : Tsk) : Int :=
  if !inB c.a 0 4 then 2 else if t.st == 2 || (!decide (waitAt s.locks c.no < 0) || (ownerAt s.locks c.a.toNat == c.no || !sameB s c.a c.no)) then 5 else if askN s.locks c.a c.no == 4 then 6 else 0
def lockC (s : Sy) (c : Cl) : Sy := { s with locks := askL s.locks c.a c.no }
def unlockN (s : Sy) (c : Cl) (t : Tsk) : Int :=
  if !inB c.a 0 4 then 2 else if t.st == 2 || (!decide (waitAt s.locks c.no < 0) || ownerAt s.locks c.a.toNat != c.no) then 5 else 0
def unlockC (s : Sy) (c : Cl) : Sy := { s with locks := freeL s.locks c.a c.no (bestI s.tasks (waitsAt s.locks c.a.toNat)) }
def moveN (s : Sy) (c : Cl) (t : Tsk) : Int := if t.cls != 3 || busyB s t.no then 5 else if !inB c.cpu 0 (s.cpus - 1) then 1 else 0
def moveC (s : Sy) (c : Cl) (k : Nat) (t : Tsk) : Sy := { s with tasks := s.tasks.set k (fairMoveT t c.cpu (s.floors.getD t.cpu.toNat 0) (s.floors.getD c.cpu.toNat 0)) }
/-- The code of a call of a task that is there. -/
def ofTaskN (s : Sy) (c : Cl) (t : Tsk) : Int :=
  if c.kind == 4 then (if t.st == 2 || !decide (waitAt s.locks c.no < 0) then 5 else 0)
  else if c.kind == 5 then (if t.st != 2 then 5 else 0)
  else if c.kind == 6 then exitN s t
  else if c.kind == 7 then lockN s c t
  else if c.kind == 8 then unlockN s c t
  else if c.kind == 9 then (if t.cls != 3 then 5 else if !inB c.a (-4) 4 then 1 else 0)
  else if c.kind == 10 then moveN s c t
  else 0
def ofTaskC (s : Sy) (c : Cl) (k : Nat) (t : Tsk) : Sy :=
  if c.kind == 4 then { s with tasks := s.tasks.set k { t with st := 2 } }
  else if c.kind == 5 then { s with tasks := s.tasks.set k { t with st := 1 } }
  else if c.kind == 6 then exitC s k t
  else if c.kind == 7 then lockC s c
  else if c.kind == 8 then unlockC s c
  else if c.kind == 9 then { s with tasks := s.tasks.set k { t with nice := c.a } }
  else if c.kind == 10 then moveC s c k t
  else s
/-- The code of a call of a right system, and what it makes of it. -/
def doN (s : Sy) (c : Cl) : Int :=
  if c.kind ≤ 3 then newN s c
  else if c.kind == 11 then (if !inB c.a 1 50 then 1 else if ((ticksS s c.a.toNat).2 : Int) < c.a then 4 else 0)
  else if !thereB s.tasks c.no then 2
  else ofTaskN s c (tAt s.tasks c.no)
def doC (s : Sy) (c : Cl) : Sy :=
  if c.kind ≤ 3 then newC s c
  else if c.kind == 11 then (ticksS s c.a.toNat).1
  else ofTaskC s c (atFrom s.tasks c.no).toNat (tAt s.tasks c.no)
def callN (s : Sy) (c : Cl) : Int := if sysB s && callB c then doN s c else 1
def callS (s : Sy) (c : Cl) : Sy := if sysB s && callB c then (if doN s c == 0 then doC s c else s) else Sy.zero
/-- A run of calls. -/
def runS (s : Sy) : List Cl → Sy
  | [] => s
  | c :: r => if callN s c == 0 then runS (callS s c) r else runS s r
def runN (s : Sy) : List Cl → List Int
  | [] => []
  | c :: r => callN s c :: (if callN s c == 0 then runN (callS s c) r else runN s r)
end Go.Proofs.YthpdlbcdbncnhaaGreatDoor
