/-
  Picking, as plain functions, and what holds of them. The sy
-/
import Derived.Test.YthpdlbcdbncnhaaGreatDoorGPure1
import Derived.Test.YthpdlbcdbncnhaaGreatDoorGTask3
import Derived.Test.YthpdlbcdbncnhaaGreatDoorGSum1
import Derived.Test.YthpdlbcdbncnhaaGreatDoorGTask4
namespace Go.Proofs.YthpdlbcdbncnhaaGreatDoor
open Go.RowKit
def befB (a b : Tsk) : Bool := qaf a && (qaf b && (if a.cls != b.cls then decide (a.cls < b.cls) else qbB a b || (qbC a b || qbD a b)))
theorem qgH {t : Tsk} (h : qaf t = true) : 1 <= t.cls /\ t.cls <= 3 := by
 unfold qaf at h
 simp only [Bool.and_eq_true] at h
 exact qau.1 h.1.1.1.1.2
theorem qet {a b : Tsk} : befB a b = true ↔ qaf a = true /\ qaf b = true /\ (a.cls < b.cls ∨ a.cls = b.cls /\ (a.cls = 1 /\ (a.due < b.due ∨ a.due = b.due /\ a.no < b.no) ∨ a.cls = 2 /\ (b.prio < a.prio ∨ a.prio = b.prio /\ (a.seq < b.seq ∨ a.seq = b.seq /\ a.no < b.no)) ∨ a.cls = 3 /\ (a.v < b.v ∨ a.v = b.v /\ a.no < b.no))) := by
 unfold befB
 rw [Bool.and_eq_true, Bool.and_eq_true]
 refine and_congr_right fun ha => and_congr_right fun hb => ?_
 have ca := qgH ha
 have cb := qgH hb
 by_cases hc : a.cls = b.cls
 ·have e1 : (a.cls != b.cls) = false := by simpa using hc
  rw [e1]
  simp only [Bool.false_eq_true, if_false]
  unfold qbB qbC qbD dueB fixB qay
  rw [ha, hb, <- hc]
  simp only [Bool.true_and, Bool.or_eq_true, Bool.and_eq_true, beq_iff_eq, decide_eq_true_eq]
  constructor
  ·rintro (⟨⟨h1, -⟩, h2⟩ | ⟨⟨h1, -⟩, h2⟩ | ⟨⟨h1, -⟩, h2⟩)
   ·exact .inr ⟨trivial, .inl ⟨h1, h2⟩⟩
   ·refine .inr ⟨trivial, .inr (.inl ⟨h1, ?_⟩)⟩
    by_cases p1 : a.prio = b.prio
    ·have q1 : (a.prio != b.prio) = false := by simpa using p1
     rw [q1] at h2
     by_cases p2 : a.seq = b.seq
     ·have q2 : (a.seq != b.seq) = false := by simpa using p2
      rw [q2] at h2
      simp at h2
      omega
     ·have q2 : (a.seq != b.seq) = true := by simpa using p2
      rw [q2] at h2
      simp at h2
      omega
    ·have q1 : (a.prio != b.prio) = true := by simpa using p1
     rw [q1] at h2
     simp at h2
     omega
   ·exact .inr ⟨trivial, .inr (.inr ⟨h1, h2⟩)⟩
  ·rintro (h | ⟨-, ⟨h1, h2⟩ | ⟨h1, h2⟩ | ⟨h1, h2⟩⟩)
   ·omega
   ·exact .inl ⟨⟨h1, h1⟩, h2⟩
   ·refine .inr (.inl ⟨⟨h1, h1⟩, ?_⟩)
    by_cases p1 : a.prio = b.prio
    ·have q1 : (a.prio != b.prio) = false := by simpa using p1
     rw [q1]
     by_cases p2 : a.seq = b.seq
     ·have q2 : (a.seq != b.seq) = false := by simpa using p2
      rw [q2]
      simp
      omega
     ·have q2 : (a.seq != b.seq) = true := by simpa using p2
      rw [q2]
      simp
      omega
    ·have q1 : (a.prio != b.prio) = true := by simpa using p1
     rw [q1]
     simp
     omega
   ·exact .inr (.inr ⟨⟨h1, h1⟩, h2⟩)
 ·have e1 : (a.cls != b.cls) = true := by simpa using hc
  rw [e1]
  simp only [if_true, decide_eq_true_eq]
  omega
theorem qgI (a : Tsk) : befB a a = false := by
 rw [Bool.eq_false_iff]
 intro h
 have := qet.1 h
 omega
theorem qkq {a b c : Tsk} (h : befB a b = true) (k : befB b c = true) : befB a c = true := by
 have h1 := qet.1 h
 have h2 := qet.1 k
 exact qet.2 ⟨h1.1, h2.2.1, by omega⟩
def qco (ls : List Lk) (no : Int) : List Int := (qao ls (ls.length + 1) no).1
def qdl (c : List Int) : Int := c.getD (c.length - 1) 0
def qam (ts : List Tsk) (x : Int) : Bool := !decide (qav ts x < 0)
def qbx (ts : List Tsk) (ls : List Lk) (no : Int) : Int := if (qco ls no).all (qam ts) then qdl (qco ls no) else 0
def tAt (ts : List Tsk) (no : Int) : Tsk := ts.getD (qav ts no).toNat Tsk.zero
def qbM (ts : List Tsk) (ls : List Lk) (no : Int) : Bool := qbx ts ls no != 0 && ((tAt ts no).st == 1 && (tAt ts (qbx ts ls no)).st == 1)
def mayB (t : Tsk) : Bool := t.cls != 1 || decide (0 < t.left)
def canB (ts : List Tsk) (ls : List Lk) (no : Int) : Bool := qbM ts ls no && mayB (tAt ts no)
def topS (ts : List Tsk) (cand : Tsk -> Bool) (at' : Int) (k : Nat) (t : Tsk) : Int := if cand t && (decide (at' < 0) || befB t (ts.getD at'.toNat Tsk.zero)) then (k : Int) else at'
def topN (ts : List Tsk) (cand : Tsk -> Bool) : Nat -> Int
 | 0 => -1
 | k + 1 => topS ts cand (topN ts cand k) k (ts.getD k Tsk.zero)
def qfb (ts : List Tsk) (ls : List Lk) (cpu : Int) (t : Tsk) : Bool := t.cpu == cpu && canB ts ls t.no
def qgJ (xs : List Int) (t : Tsk) : Bool := hasB xs t.no
def qcH (ts : List Tsk) (ls : List Lk) (cpu : Int) : Int := topN ts (qfb ts ls cpu) ts.length
def noAt (ts : List Tsk) (k : Int) : Int := if k < 0 then 0 else (ts.getD k.toNat Tsk.zero).no
def qcf (ts : List Tsk) (xs : List Int) : Int := if qaA ts then noAt ts (topN ts (qgJ xs) ts.length) else 0
theorem qgK (ls : List Lk) (no : Int) : 0 < (qco ls no).length := by
 unfold qco
 simp only [qao]
 split <;> simp
theorem qkr (ls : List Lk) (no : Int) : (qco ls no)[0]? = some no := by
 unfold qco
 simp only [qao]
 split <;> simp
theorem qgL {c : List Int} (h : 0 < c.length) : c[c.length - 1]? = some (qdl c) := by
 unfold qdl
 rw [List.getD_eq_getElem?_getD, List.getElem?_eq_getElem (by omega)]
 rfl
theorem qc5 {ts : List Tsk} {x : Int} : qam ts x = true ↔ ∃ (k : Nat) (t : Tsk), qav ts x = (k : Int) /\ ts[k]? = some t /\ t.no = x := by
 unfold qam qav
 split
 ·rename_i i h
  obtain ⟨hi, h1, h2⟩ := List.findIdx?_eq_some_iff_getElem.1 h
  simp only [Bool.not_eq_true', decide_eq_false_iff_not]
  exact ⟨fun _ => ⟨i, ts[i], rfl, List.getElem?_eq_getElem hi, by simpa using h1⟩, fun _ => by omega⟩
 ·simp only [Bool.not_eq_true', decide_eq_false_iff_not]
  exact ⟨fun h => by omega, fun ⟨k, t, h, _⟩ => by omega⟩
theorem qc6 {ts : List Tsk} {x : Int} {k : Nat} {t : Tsk} (h : qav ts x = (k : Int)) (ht : ts[k]? = some t) : tAt ts x = t := by
 unfold tAt
 rw [h, Int.toNat_natCast, List.getD_eq_getElem?_getD, ht]
 rfl
theorem qdm {ts : List Tsk} {k : Nat} {t : Tsk} (ht : ts[k]? = some t) : ts.getD k Tsk.zero = t := by
 rw [List.getD_eq_getElem?_getD, ht]; rfl
theorem qgM {ts : List Tsk} {ls : List Lk} {no : Int} (h : (qbx ts ls no != 0) = true) : (∀ x ∈ qco ls no, qam ts x = true) /\ qbx ts ls no = qdl (qco ls no) /\ qam ts no = true /\ qam ts (qbx ts ls no) = true := by
 unfold qbx at h ⊢
 split at h
 ·rename_i h1
  rw [List.all_eq_true] at h1
  refine ⟨h1, by rw [if_pos (by rw [List.all_eq_true]; exact h1)], h1 no (List.mem_of_getElem? (qkr ls no)), ?_⟩
  rw [if_pos (by rw [List.all_eq_true]; exact h1)]
  exact h1 _ (List.mem_of_getElem? (qgL (qgK ls no)))
 ·simp at h
theorem qfc (ts : List Tsk) (cand : Tsk -> Bool) : ∀ k, -1 <= topN ts cand k /\ topN ts cand k < k
 | 0 => by simp [topN]
 | k + 1 => by
  have := qfc ts cand k
  simp only [topN, topS]
  split <;> omega
theorem qgN (ts : List Tsk) (cand : Tsk -> Bool) : ∀ k, k <= ts.length -> (topN ts cand k = -1 /\ ∀ (i : Nat) (s : Tsk), i < k -> ts[i]? = some s -> cand s = false) ∨ ∃ (j : Nat) (t : Tsk), topN ts cand k = (j : Int) /\ j < k /\ ts[j]? = some t /\ cand t = true /\ ∀ (i : Nat) (s : Tsk), i < k -> ts[i]? = some s -> cand s = true -> befB s t = false
 | 0, _ => .inl ⟨rfl, fun i s h => by omega⟩
 | k + 1, hk => by
  have ih := qgN ts cand k (by omega)
  have hu : ts[k]? = some ts[k] := List.getElem?_eq_getElem (by omega)
  simp only [topN, topS]
  rw [qdm hu]
  rcases ih with ⟨e, h⟩ | ⟨j, t, e, hj, ht, hc, h⟩
  ·rw [e]
   cases c : cand ts[k]
   ·refine .inl ⟨by simp, fun i s hi hs => ?_⟩
    by_cases e2 : i = k
    ·subst e2; rw [hu] at hs; cases hs; exact c
    ·exact h i s (by omega) hs
   ·refine .inr ⟨k, ts[k], by simp, by omega, hu, c, fun i s hi hs hcs => ?_⟩
    by_cases e2 : i = k
    ·subst e2; rw [hu] at hs; cases hs; exact qgI _
    ·rw [h i s (by omega) hs] at hcs; cases hcs
  ·rw [e, Int.toNat_natCast, qdm ht]
   cases c : cand ts[k]
   ·refine .inr ⟨j, t, by simp, by omega, ht, hc, fun i s hi hs hcs => ?_⟩
    by_cases e2 : i = k
    ·subst e2; rw [hu] at hs; cases hs; rw [c] at hcs; cases hcs
    ·exact h i s (by omega) hs hcs
   ·cases hb : befB ts[k] t
    ·have hd : decide ((j : Int) < 0) = false := by simp
     refine .inr ⟨j, t, by rw [hd]; simp, by omega, ht, hc, fun i s hi hs hcs => ?_⟩
     by_cases e2 : i = k
     ·subst e2; rw [hu] at hs; cases hs; exact hb
     ·exact h i s (by omega) hs hcs
    ·refine .inr ⟨k, ts[k], by simp, by omega, hu, c, fun i s hi hs hcs => ?_⟩
     by_cases e2 : i = k
     ·subst e2; rw [hu] at hs; cases hs; exact qgI _
     ·rw [Bool.eq_false_iff]
      intro h3
      have := h i s (by omega) hs hcs
      rw [qkq h3 hb] at this
      cases this
structure Gh where
 cpu : Int
 q : Int
 p : Int
 til : Int
structure Tn where
 cpu : Int
 ctx : Int
 exe : Int
structure Sy where
 now : Int
 cpus : Int
 tasks : List Tsk
 locks : List Lk
 ghosts : List Gh
 floors : List Int
 seq : Int
 missed : Int
 trace : List Tn
def Gh.zero : Gh := ⟨0, 0, 0, 0⟩
def Tn.zero : Tn := ⟨0, 0, 0⟩
def Sy.zero : Sy := ⟨0, 0, [], [], [], [], 0, 0, []⟩
def qb3 (ts : List Tsk) (cpu : Int) (x : Int) : Bool := qam ts x && (tAt ts x).cpu == cpu
def qbF (ts : List Tsk) (l : Lk) : Bool := l.owner == 0 || (qam ts l.owner && l.waits.all (qb3 ts (tAt ts l.owner).cpu))
def qbj (s : Sy) : Bool := s.locks.length == 5 && (qaw s.locks && s.locks.all (qbF s.tasks))
def qaS (cpu : Int) (t : Tsk) : Bool := t.cpu == cpu && t.cls == 1
def qa6 (t : Tsk) : Int × Int := (t.q, t.p)
def ghOn (cpu : Int) (g : Gh) : Bool := g.cpu == cpu
def qbo (g : Gh) : Int × Int := (g.q, g.p)
def qaJ (s : Sy) (cpu : Int) : List (Int × Int) := (s.tasks.filter (qaS cpu)).map qa6 ++ (s.ghosts.filter (ghOn cpu)).map qbo
def ghB (cpus : Int) (g : Gh) : Bool := inB g.cpu 0 (cpus - 1) && (okB g.q g.p && inB g.til 0 100040)
def qbN (s : Sy) : Bool := s.ghosts.all (ghB s.cpus) && decide (s.ghosts.length <= 12)
def qbU (xs : List (Int × Int)) : Bool := qbr xs && decide ((Plain.sumI xs).1 <= (Plain.sumI xs).2)
def qb4 (s : Sy) : Bool := inB s.now 0 100000 && (inB s.cpus 1 4 && (qaA s.tasks && (qbj s && (qbN s && ((s.floors.length : Int) == s.cpus && (inB s.seq 0 1000000 && (inB s.missed 0 100000 && decide (s.trace.length <= 400))))))))
def qc7 (s : Sy) (cpu : Int) : Int := if inB cpu 0 ((s.floors.length : Int) - 1) then s.floors.getD cpu.toNat 0 else 0
def cpuB (s : Sy) (cpu : Nat) : Bool := inB (s.floors.getD cpu 0) 0 100000000 && qbU (qaJ s cpu)
def sysB (s : Sy) : Bool := qb4 s && (s.tasks.all (fun t => decide (t.cpu < s.cpus)) && (List.range s.cpus.toNat).all (cpuB s))
def newS (cpus : Int) : Sy := if inB cpus 1 4 then { Sy.zero with cpus := cpus, locks := List.replicate 5 ⟨0, []⟩, floors := List.replicate cpus.toNat 0 } else Sy.zero
def qaC (s : Sy) (i no : Int) : Bool := inB i 0 ((s.locks.length : Int) - 1) && (qam s.tasks no && (qaD s.locks i.toNat == 0 || (qam s.tasks (qaD s.locks i.toNat) && (tAt s.tasks (qaD s.locks i.toNat)).cpu == (tAt s.tasks no).cpu)))
def qcp (s : Sy) (t : Tsk) : Tsk := { (if qbM s.tasks s.locks t.no && t.idle then qc3 (qbL { t with idle := false } s.now) (s.floors.getD t.cpu.toNat 0) else t) with idle := !qbM s.tasks s.locks t.no }
def qaP (s : Sy) : Sy := { s with tasks := s.tasks.map (qcp s) }
def qaY (cpu : Int) (t : Tsk) : Bool := t.cpu == cpu && !t.idle
def qaZ (s : Sy) (cpu : Int) : List Tsk := s.tasks.filter (qaY cpu)
def qgO (s : Sy) (t : Tsk) : Tsk := qbT (qc2 (qcn t)) (s.seq + 1)
def qgP (s : Sy) (t : Tsk) : Bool := qbS (qc2 (qcn t)) (s.seq + 1)
def qeu (s : Sy) (cpu : Int) (k : Nat) (t : Tsk) : Sy := { s with seq := if qgP s t then s.seq + 1 else s.seq, tasks := s.tasks.set k (qgO s t), trace := s.trace ++ [⟨cpu, t.no, qbx s.tasks s.locks t.no⟩] }
def qaX (s : Sy) (cpu : Int) : Sy :=
 if qcH s.tasks s.locks cpu < 0 then { s with trace := s.trace ++ [⟨cpu, 0, 0⟩] }
 else qeu s cpu (qcH s.tasks s.locks cpu).toNat (s.tasks.getD (qcH s.tasks s.locks cpu).toNat Tsk.zero)
def qaE (s : Sy) : Nat -> Sy
 | 0 => s
 | n + 1 => qaX (qaE s n) n
def qcq (now : Int) (t : Tsk) : Bool := t.cls == 1 && (!t.idle && decide (t.due <= now))
def qb5 (now : Int) (m : Int) (t : Tsk) : Int := if qcq now t && decide (0 < t.left) then min (m + 1) 100000 else m
def qbG (now : Int) (t : Tsk) : Tsk := if qcq now t then qbR t now else t
def qaT (s : Sy) : Sy := { s with ghosts := s.ghosts.filter (fun g => decide (s.now < g.til)), missed := s.tasks.foldl (qb5 s.now) s.missed, tasks := s.tasks.map (qbG s.now) }
def qa7 (s : Sy) : Sy := { s with floors := s.floors.mapIdx fun c x => qc4 (qaZ s c) x }
def qbp (s : Sy) : Bool := sysB s && (!(s.now == 100000) && (!decide (900000 < s.seq) && !decide (400 < (s.trace.length : Int) + s.cpus)))
def qdZ (s : Sy) : Sy := { s with now := s.now + 1 }
def qaz (s : Sy) : Sy := if qbp s then qdZ (qaE (qa7 (qaP (qaT s))) s.cpus.toNat) else if sysB s then s else Sy.zero
def qaU (s : Sy) : Nat -> Sy × Nat
 | 0 => (s, 0)
 | n + 1 => if qbp s then ((qaU (qaz s) n).1, (qaU (qaz s) n).2 + 1) else (s, 0)
structure Cl where
 kind : Int
 no : Int
 cpu : Int
 a : Int
 b : Int
def qaQ (c : Cl) : Cl :=
 if c.kind == 1 || c.kind == 2 then c
 else if c.kind == 3 then { c with b := 0 }
 else if c.kind == 4 || c.kind == 5 || c.kind == 6 then { c with cpu := 0, a := 0, b := 0 }
 else if c.kind == 7 || c.kind == 8 || c.kind == 9 then { c with cpu := 0, b := 0 }
 else if c.kind == 10 then { c with a := 0, b := 0 }
 else if c.kind == 11 then { c with no := 0, cpu := 0, b := 0 }
 else c
def eqC (x y : Cl) : Bool := x.kind == y.kind && (x.no == y.no && (x.cpu == y.cpu && (x.a == y.a && x.b == y.b)))
def qcI (c : Cl) : Bool := inB c.kind 1 11 && eqC c (qaQ c)
def qcJ (s : Sy) (c : Cl) : Tsk := if c.kind == 1 then qcj c.no c.cpu c.a c.b s.now else if c.kind == 2 then newT (fixT c.no c.cpu c.a c.b (s.seq + 1)) else newT (qcw c.no c.cpu c.a (qc7 s c.cpu))
def qd0 (s : Sy) (c : Cl) : Bool := if c.kind == 1 then qcx c.no c.cpu c.a c.b s.now else if c.kind == 2 then qaf (fixT c.no c.cpu c.a c.b (s.seq + 1)) else qaf (qcw c.no c.cpu c.a (qc7 s c.cpu))
def qgQ (s : Sy) (c : Cl) : Bool := putB s.tasks (qcJ s c) && (!(c.kind == 1) || qbU (qaJ s c.cpu ++ [(c.a, c.b)]))
def newN (s : Sy) (c : Cl) : Int :=
 if decide (s.cpus <= c.cpu) || !qd0 s c then 1 else if qam s.tasks c.no then 3 else if !qgQ s c || (c.kind == 2 && decide (900000 < s.seq)) then 4 else 0
def newC (s : Sy) (c : Cl) : Sy := { s with tasks := putL s.tasks (qcJ s c), seq := if c.kind == 2 then s.seq + 1 else s.seq }
def qev (s : Sy) (no : Int) : Bool := qcc s.locks no || !decide (qaI s.locks no < 0)
def qc8 (t : Tsk) : Gh := ⟨t.cpu, t.q, t.p, t.due⟩
def qd1 (s : Sy) (t : Tsk) : Bool := t.cls == 1 && decide (s.now < t.due)
def qcr (s : Sy) (t : Tsk) : Int := if qev s t.no then 5 else if qd1 s t && s.ghosts.length == 12 then 4 else 0
def qc9 (s : Sy) (k : Nat) (t : Tsk) : Sy := { s with ghosts := if qd1 s t then s.ghosts ++ [qc8 t] else s.ghosts, tasks := s.tasks.eraseIdx k }
def qcg (s : Sy) (c : Cl) (t : Tsk) : Int :=
 if !inB c.a 0 4 then 2 else if t.st == 2 || (!decide (qaI s.locks c.no < 0) || (qaD s.locks c.a.toNat == c.no || !qaC s c.a c.no)) then 5 else if askN s.locks c.a c.no == 4 then 6 else 0
def qfd (s : Sy) (c : Cl) : Sy := { s with locks := askL s.locks c.a c.no }
def qcs (s : Sy) (c : Cl) (t : Tsk) : Int :=
 if !inB c.a 0 4 then 2 else if t.st == 2 || (!decide (qaI s.locks c.no < 0) || qaD s.locks c.a.toNat != c.no) then 5 else 0
def qd2 (s : Sy) (c : Cl) : Sy := { s with locks := qaV s.locks c.a c.no (qcf s.tasks (qcF s.locks c.a.toNat)) }
def qcK (s : Sy) (c : Cl) (t : Tsk) : Int := if t.cls != 3 || qev s t.no then 5 else if !inB c.cpu 0 (s.cpus - 1) then 1 else 0
def qd3 (s : Sy) (c : Cl) (k : Nat) (t : Tsk) : Sy := { s with tasks := s.tasks.set k (qbE t c.cpu (s.floors.getD t.cpu.toNat 0) (s.floors.getD c.cpu.toNat 0)) }
def qcL (s : Sy) (c : Cl) (t : Tsk) : Int :=
 if c.kind == 4 then (if t.st == 2 || !decide (qaI s.locks c.no < 0) then 5 else 0)
 else if c.kind == 5 then (if t.st != 2 then 5 else 0)
 else if c.kind == 6 then qcr s t
 else if c.kind == 7 then qcg s c t
 else if c.kind == 8 then qcs s c t
 else if c.kind == 9 then (if t.cls != 3 then 5 else if !inB c.a (-4) 4 then 1 else 0)
 else if c.kind == 10 then qcK s c t
 else 0
def qct (s : Sy) (c : Cl) (k : Nat) (t : Tsk) : Sy :=
 if c.kind == 4 then { s with tasks := s.tasks.set k { t with st := 2 } }
 else if c.kind == 5 then { s with tasks := s.tasks.set k { t with st := 1 } }
 else if c.kind == 6 then qc9 s k t
 else if c.kind == 7 then qfd s c
 else if c.kind == 8 then qd2 s c
 else if c.kind == 9 then { s with tasks := s.tasks.set k { t with nice := c.a } }
 else if c.kind == 10 then qd3 s c k t
 else s
def doN (s : Sy) (c : Cl) : Int :=
 if c.kind <= 3 then newN s c
 else if c.kind == 11 then (if !inB c.a 1 50 then 1 else if ((qaU s c.a.toNat).2 : Int) < c.a then 4 else 0)
 else if !qam s.tasks c.no then 2
 else qcL s c (tAt s.tasks c.no)
def doC (s : Sy) (c : Cl) : Sy :=
 if c.kind <= 3 then newC s c
 else if c.kind == 11 then (qaU s c.a.toNat).1
 else qct s c (qav s.tasks c.no).toNat (tAt s.tasks c.no)
def qbq (s : Sy) (c : Cl) : Int := if sysB s && qcI c then doN s c else 1
def qa8 (s : Sy) (c : Cl) : Sy := if sysB s && qcI c then (if doN s c == 0 then doC s c else s) else Sy.zero
def runS (s : Sy) : List Cl -> Sy
 | [] => s
 | c :: r => if qbq s c == 0 then runS (qa8 s c) r else runS s r
end Go.Proofs.YthpdlbcdbncnhaaGreatDoor
