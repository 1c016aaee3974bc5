/-
  Picking, as plain functions, and what holds of them. The sy
-/
import Derived.Test.YthpdlbcdbncnhaaGreatDoorGPure1
import Derived.Test.YthpdlbcdbncnhaaGreatDoorGTask3
import Derived.Test.YthpdlbcdbncnhaaGreatDoorGSum1
import Derived.Test.YthpdlbcdbncnhaaGreatDoorGTask4
namespace Go.Proofs.YthpdlbcdbncnhaaGreatDoor
open Go.RowKit
def befB (a b:Tsk):Bool:=qae a&&(qae b&&(if a.cls != b.cls then decide (a.cls < b.cls) else qaT a b||(qaS a b||qaU a b)))
theorem qeK {t:Tsk} (h:qae t=true):1 <= t.cls /\ t.cls <= 3:=by
 unfold qae at h
 simp only [Bool.and_eq_true] at h
 exact qap.1 h.1.1.1.1.2
theorem qdA {a b:Tsk}:befB a b=true↔qae a=true /\ qae b=true /\ (a.cls < b.cls∨a.cls=b.cls /\ (a.cls=1 /\ (a.due < b.due∨a.due=b.due /\ a.no < b.no)∨a.cls=2 /\ (b.prio < a.prio∨a.prio=b.prio /\ (a.seq < b.seq∨a.seq=b.seq /\ a.no < b.no))∨a.cls=3 /\ (a.v < b.v∨a.v=b.v /\ a.no < b.no))):=by
 unfold befB
 rw [Bool.and_eq_true,Bool.and_eq_true]
 refine and_congr_right fun ha=>and_congr_right fun hb => ?_
 have ca:=qeK ha
 have cb:=qeK hb
 by_cases hc:a.cls=b.cls
 ·have e1:(a.cls != b.cls)=false:=by simpa using hc
  rw [e1]
  simp only [Bool.false_eq_true,if_false]
  unfold qaT qaS qaU dueB fixB qaC
  rw [ha,hb,<- hc]
  simp only [Bool.true_and,Bool.or_eq_true,Bool.and_eq_true,beq_iff_eq,decide_eq_true_eq]
  constructor
  ·rintro (⟨⟨h1,-⟩,h2⟩ | ⟨⟨h1,-⟩,h2⟩ | ⟨⟨h1,-⟩,h2⟩)
   ·exact .inr ⟨trivial,.inl ⟨h1,h2⟩⟩
   ·refine .inr ⟨trivial,.inr (.inl ⟨h1,?_⟩)⟩
    by_cases p1:a.prio=b.prio
    ·have q1:(a.prio != b.prio)=false:=by simpa using p1
     rw [q1] at h2
     by_cases p2:a.seq=b.seq
     ·have q2:(a.seq != b.seq)=false:=by simpa using p2
      rw [q2] at h2
      simp at h2
      omega
     ·have q2:(a.seq != b.seq)=true:=by simpa using p2
      rw [q2] at h2
      simp at h2
      omega
    ·have q1:(a.prio != b.prio)=true:=by simpa using p1
     rw [q1] at h2
     simp at h2
     omega
   ·exact .inr ⟨trivial,.inr (.inr ⟨h1,h2⟩)⟩
  ·rintro (h | ⟨-,⟨h1,h2⟩ | ⟨h1,h2⟩ | ⟨h1,h2⟩⟩)
   ·omega
   ·exact .inl ⟨⟨h1,h1⟩,h2⟩
   ·refine .inr (.inl ⟨⟨h1,h1⟩,?_⟩)
    by_cases p1:a.prio=b.prio
    ·have q1:(a.prio != b.prio)=false:=by simpa using p1
     rw [q1]
     by_cases p2:a.seq=b.seq
     ·have q2:(a.seq != b.seq)=false:=by simpa using p2
      rw [q2]
      simp
      omega
     ·have q2:(a.seq != b.seq)=true:=by simpa using p2
      rw [q2]
      simp
      omega
    ·have q1:(a.prio != b.prio)=true:=by simpa using p1
     rw [q1]
     simp
     omega
   ·exact .inr (.inr ⟨⟨h1,h1⟩,h2⟩)
 ·have e1:(a.cls != b.cls)=true:=by simpa using hc
  rw [e1]
  simp only [if_true,decide_eq_true_eq]
  omega
theorem qgh (a:Tsk):befB a a=false:=by
 rw [Bool.eq_false_iff]
 intro h
 have:=qdA.1 h
 omega
theorem qit {a b c:Tsk} (h:befB a b=true) (k:befB b c=true):befB a c=true:=by
 have h1:=qdA.1 h
 have h2:=qdA.1 k
 exact qdA.2 ⟨h1.1,h2.2.1,by omega⟩
theorem qnx {a b:Tsk} (ha:qae a=true) (hb:qae b=true) (hn:a.no≠b.no):befB a b=true∨befB b a=true:=by
 have ca:=qeK ha
 have cb:=qeK hb
 by_cases h:befB a b=true
 ·exact .inl h
 ·refine .inr (qdA.2 ⟨hb,ha,?_⟩)
  have:¬ (a.cls < b.cls∨a.cls=b.cls /\ (a.cls=1 /\ (a.due < b.due∨a.due=b.due /\ a.no < b.no)∨a.cls=2 /\ (b.prio < a.prio∨a.prio=b.prio /\ (a.seq < b.seq∨a.seq=b.seq /\ a.no < b.no))∨a.cls=3 /\ (a.v < b.v∨a.v=b.v /\ a.no < b.no))):=fun h'=>h (qdA.2 ⟨ha,hb,h'⟩)
  omega
def qbA (ls:List Lk) (no:Int):List Int:=(qam ls (ls.length+1) no).1
def qcM (c:List Int):Int:=c.getD (c.length - 1) 0
def qag (ts:List Tsk) (x:Int):Bool := !decide (qar ts x < 0)
def qa6 (ts:List Tsk) (ls:List Lk) (no:Int):Int:=if (qbA ls no).all (qag ts) then qcM (qbA ls no) else 0
def tAt (ts:List Tsk) (no:Int):Tsk:=ts.getD (qar ts no).toNat Tsk.zero
def qbF (ts:List Tsk) (ls:List Lk) (no:Int):Bool:=qa6 ts ls no != 0&&((tAt ts no).st==1&&(tAt ts (qa6 ts ls no)).st==1)
def mayB (t:Tsk):Bool:=t.cls != 1||decide (0 < t.left)
def canB (ts:List Tsk) (ls:List Lk) (no:Int):Bool:=qbF ts ls no&&mayB (tAt ts no)
def qaV (ts:List Tsk) (ls:List Lk):Bool:=qao ts&&qav ls
def qa1 (ts:List Tsk) (ls:List Lk) (no:Int):Int:=if qaV ts ls then qa6 ts ls no else 0
def qcn (ts:List Tsk) (ls:List Lk) (no:Int):Bool:=qaV ts ls&&qbF ts ls no
def canP (ts:List Tsk) (ls:List Lk) (no:Int):Bool:=qaV ts ls&&canB ts ls no
def topS (ts:List Tsk) (cand:Tsk->Bool) (at':Int) (k:Nat) (t:Tsk):Int:=if cand t&&(decide (at' < 0)||befB t (ts.getD at'.toNat Tsk.zero)) then (k:Int) else at'
def topN (ts:List Tsk) (cand:Tsk->Bool):Nat->Int
 | 0 => -1
 | k+1=>topS ts cand (topN ts cand k) k (ts.getD k Tsk.zero)
def qbU (ts:List Tsk) (ls:List Lk) (cpu:Int) (t:Tsk):Bool:=t.cpu==cpu&&canB ts ls t.no
def qdB (xs:List Int) (t:Tsk):Bool:=hasB xs t.no
def qaz (ts:List Tsk) (ls:List Lk) (cpu:Int):Int:=topN ts (qbU ts ls cpu) ts.length
def noAt (ts:List Tsk) (k:Int):Int:=if k < 0 then 0 else (ts.getD k.toNat Tsk.zero).no
def qa7 (ts:List Tsk) (ls:List Lk) (cpu:Int):Int:=if qaV ts ls then noAt ts (qaz ts ls cpu) else 0
def qaA (ts:List Tsk) (ls:List Lk) (cpu:Int):Int:=if qaV ts ls && !decide (qaz ts ls cpu < 0) then qa6 ts ls (noAt ts (qaz ts ls cpu)) else 0
def qaP (ts:List Tsk) (xs:List Int):Int:=if qao ts then noAt ts (topN ts (qdB xs) ts.length) else 0
theorem qfg (ls:List Lk) (no:Int):0 < (qbA ls no).length:=by
 unfold qbA
 simp only [qam]
 split <;> simp
theorem qiu (ls:List Lk) (no:Int):(qbA ls no)[0]?=some no:=by
 unfold qbA
 simp only [qam]
 split <;> simp
theorem qgi {c:List Int} (h:0 < c.length):c[c.length - 1]?=some (qcM c):=by
 unfold qcM
 rw [List.getD_eq_getElem?_getD,List.getElem?_eq_getElem (by omega)]
 rfl
theorem qbV {ts:List Tsk} {x:Int}:qag ts x=true↔∃ (k:Nat) (t:Tsk),qar ts x=(k:Int) /\ ts[k]?=some t /\ t.no=x:=by
 unfold qag qar
 split
 ·rename_i i h
  obtain ⟨hi,h1,h2⟩:=List.findIdx?_eq_some_iff_getElem.1 h
  simp only [Bool.not_eq_true',decide_eq_false_iff_not]
  exact ⟨fun _=>⟨i,ts[i],rfl,List.getElem?_eq_getElem hi,by simpa using h1⟩,fun _=>by omega⟩
 ·simp only [Bool.not_eq_true',decide_eq_false_iff_not]
  exact ⟨fun h=>by omega,fun ⟨k,t,h,_⟩=>by omega⟩
theorem qcE {ts:List Tsk} {x:Int} {k:Nat} {t:Tsk} (h:qar ts x=(k:Int)) (ht:ts[k]?=some t):tAt ts x=t:=by
 unfold tAt
 rw [h,Int.toNat_natCast,List.getD_eq_getElem?_getD,ht]
 rfl
theorem qce {ts:List Tsk} {k:Nat} {t:Tsk} (ht:ts[k]?=some t):ts.getD k Tsk.zero=t:=by
 rw [List.getD_eq_getElem?_getD,ht];rfl
theorem qeL {ts:List Tsk} {ls:List Lk} {no:Int} (h:(qa6 ts ls no != 0)=true):(∀ x∈qbA ls no,qag ts x=true) /\ qa6 ts ls no=qcM (qbA ls no) /\ qag ts no=true /\ qag ts (qa6 ts ls no)=true:=by
 unfold qa6 at h ⊢
 split at h
 ·rename_i h1
  rw [List.all_eq_true] at h1
  refine ⟨h1,by rw [if_pos (by rw [List.all_eq_true];exact h1)],h1 no (List.mem_of_getElem? (qiu ls no)),?_⟩
  rw [if_pos (by rw [List.all_eq_true];exact h1)]
  exact h1 _ (List.mem_of_getElem? (qgi (qfg ls no)))
 ·simp at h
theorem qdQ (ts:List Tsk) (cand:Tsk->Bool):∀ k,-1 <= topN ts cand k /\ topN ts cand k < k
 | 0=>by simp [topN]
 | k+1=>by
  have:=qdQ ts cand k
  simp only [topN,topS]
  split <;> omega
theorem qee (ts:List Tsk) (cand:Tsk->Bool):∀ k,k <= ts.length->(topN ts cand k = -1 /\ ∀ (i:Nat) (s:Tsk),i < k->ts[i]?=some s->cand s=false)∨∃ (j:Nat) (t:Tsk),topN ts cand k=(j:Int) /\ j < k /\ ts[j]?=some t /\ cand t=true /\ ∀ (i:Nat) (s:Tsk),i < k->ts[i]?=some s->cand s=true->befB s t=false
 | 0,_ => .inl ⟨rfl,fun i s h=>by omega⟩
 | k+1,hk=>by
  have ih:=qee ts cand k (by omega)
  have hu:ts[k]?=some ts[k]:=List.getElem?_eq_getElem (by omega)
  simp only [topN,topS]
  rw [qce hu]
  rcases ih with ⟨e,h⟩ | ⟨j,t,e,hj,ht,hc,h⟩
  ·rw [e]
   cases c:cand ts[k]
   ·refine .inl ⟨by simp,fun i s hi hs => ?_⟩
    by_cases e2:i=k
    ·subst e2;rw [hu] at hs;cases hs;exact c
    ·exact h i s (by omega) hs
   ·refine .inr ⟨k,ts[k],by simp,by omega,hu,c,fun i s hi hs hcs => ?_⟩
    by_cases e2:i=k
    ·subst e2;rw [hu] at hs;cases hs;exact qgh _
    ·rw [h i s (by omega) hs] at hcs;cases hcs
  ·rw [e,Int.toNat_natCast,qce ht]
   cases c:cand ts[k]
   ·refine .inr ⟨j,t,by simp,by omega,ht,hc,fun i s hi hs hcs => ?_⟩
    by_cases e2:i=k
    ·subst e2;rw [hu] at hs;cases hs;rw [c] at hcs;cases hcs
    ·exact h i s (by omega) hs hcs
   ·cases hb:befB ts[k] t
    ·have hd:decide ((j:Int) < 0)=false:=by simp
     refine .inr ⟨j,t,by rw [hd];simp,by omega,ht,hc,fun i s hi hs hcs => ?_⟩
     by_cases e2:i=k
     ·subst e2;rw [hu] at hs;cases hs;exact hb
     ·exact h i s (by omega) hs hcs
    ·refine .inr ⟨k,ts[k],by simp,by omega,hu,c,fun i s hi hs hcs => ?_⟩
     by_cases e2:i=k
     ·subst e2;rw [hu] at hs;cases hs;exact qgh _
     ·rw [Bool.eq_false_iff]
      intro h3
      have:=h i s (by omega) hs hcs
      rw [qit h3 hb] at this
      cases this
structure Gh where
 cpu:Int
 q:Int
 p:Int
 til:Int
structure Tn where
 cpu:Int
 ctx:Int
 exe:Int
structure Sy where
 now:Int
 cpus:Int
 tasks:List Tsk
 locks:List Lk
 ghosts:List Gh
 floors:List Int
 seq:Int
 missed:Int
 trace:List Tn
def Gh.zero:Gh:=⟨0,0,0,0⟩
def Tn.zero:Tn:=⟨0,0,0⟩
def Sy.zero:Sy:=⟨0,0,[],[],[],[],0,0,[]⟩
def qcf (ts:List Tsk) (cpu:Int) (x:Int):Bool:=qag ts x&&(tAt ts x).cpu==cpu
def qbG (ts:List Tsk) (l:Lk):Bool:=l.owner==0||(qag ts l.owner&&l.waits.all (qcf ts (tAt ts l.owner).cpu))
def qbo (s:Sy):Bool:=s.locks.length==5&&(qav s.locks&&s.locks.all (qbG s.tasks))
def qa2 (cpu:Int) (t:Tsk):Bool:=t.cpu==cpu&&t.cls==1
def qbd (t:Tsk):Int × Int:=(t.q,t.p)
def ghOn (cpu:Int) (g:Gh):Bool:=g.cpu==cpu
def qbH (g:Gh):Int × Int:=(g.q,g.p)
def qaL (s:Sy) (cpu:Int):List (Int × Int):=(s.tasks.filter (qa2 cpu)).map qbd++(s.ghosts.filter (ghOn cpu)).map qbH
def ghB (cpus:Int) (g:Gh):Bool:=inB g.cpu 0 (cpus - 1)&&(okB g.q g.p&&inB g.til 0 100040)
def qb4 (s:Sy):Bool:=s.ghosts.all (ghB s.cpus)&&decide (s.ghosts.length <= 12)
def qcg (xs:List (Int × Int)):Bool:=qbK xs&&decide ((Plain.sumI xs).1 <= (Plain.sumI xs).2)
def qco (s:Sy):Bool:=inB s.now 0 100000&&(inB s.cpus 1 4&&(qao s.tasks&&(qbo s&&(qb4 s&&((s.floors.length:Int)==s.cpus&&(inB s.seq 0 1000000&&(inB s.missed 0 100000&&decide (s.trace.length <= 400))))))))
def qbu (s:Sy) (cpu:Int):Int:=if inB cpu 0 ((s.floors.length:Int) - 1) then s.floors.getD cpu.toNat 0 else 0
def cpuB (s:Sy) (cpu:Nat):Bool:=inB (s.floors.getD cpu 0) 0 100000000&&qcg (qaL s cpu)
def sysB (s:Sy):Bool:=qco s&&(s.tasks.all (fun t=>decide (t.cpu < s.cpus))&&(List.range s.cpus.toNat).all (cpuB s))
def newS (cpus:Int):Sy:=if inB cpus 1 4 then { Sy.zero with cpus:=cpus,locks:=List.replicate 5 ⟨0,[]⟩,floors:=List.replicate cpus.toNat 0 } else Sy.zero
def qaD (s:Sy) (i no:Int):Bool:=inB i 0 ((s.locks.length:Int) - 1)&&(qag s.tasks no&&(qaB s.locks i.toNat==0||(qag s.tasks (qaB s.locks i.toNat)&&(tAt s.tasks (qaB s.locks i.toNat)).cpu==(tAt s.tasks no).cpu)))
def qcN (s:Sy) (t:Tsk):Tsk:={ (if qbF s.tasks s.locks t.no&&t.idle then qdy (qb3 { t with idle:=false } s.now) (s.floors.getD t.cpu.toNat 0) else t) with idle := !qbF s.tasks s.locks t.no }
def qaW (s:Sy):Sy:={ s with tasks:=s.tasks.map (qcN s) }
def qcp (cpu:Int) (t:Tsk):Bool:=t.cpu==cpu && !t.idle
def qdC (s:Sy) (cpu:Int):List Tsk:=s.tasks.filter (qcp cpu)
def qiv (s:Sy) (t:Tsk):Tsk:=qcc (qdx (qcL t)) (s.seq+1)
def qiw (s:Sy) (t:Tsk):Bool:=qcb (qdx (qcL t)) (s.seq+1)
def qfh (s:Sy) (cpu:Int) (k:Nat) (t:Tsk):Sy:={ s with seq:=if qiw s t then s.seq+1 else s.seq,tasks:=s.tasks.set k (qiv s t),trace:=s.trace++[⟨cpu,t.no,qa6 s.tasks s.locks t.no⟩] }
def qa9 (s:Sy) (cpu:Int):Sy :=
 if qaz s.tasks s.locks cpu < 0 then { s with trace:=s.trace++[⟨cpu,0,0⟩] }
 else qfh s cpu (qaz s.tasks s.locks cpu).toNat (s.tasks.getD (qaz s.tasks s.locks cpu).toNat Tsk.zero)
def qaE (s:Sy):Nat->Sy
 | 0=>s
 | n+1=>qa9 (qaE s n) n
def qcO (now:Int) (t:Tsk):Bool:=t.cls==1&&(!t.idle&&decide (t.due <= now))
def qcq (now:Int) (m:Int) (t:Tsk):Int:=if qcO now t&&decide (0 < t.left) then min (m+1) 100000 else m
def qbW (now:Int) (t:Tsk):Tsk:=if qcO now t then qca t now else t
def qa3 (s:Sy):Sy:={ s with ghosts:=s.ghosts.filter (fun g=>decide (s.now < g.til)),missed:=s.tasks.foldl (qcq s.now) s.missed,tasks:=s.tasks.map (qbW s.now) }
def qbe (s:Sy):Sy:={ s with floors:=s.floors.mapIdx fun c x=>qdz (qdC s c) x }
def qbI (s:Sy):Bool:=sysB s&&(!(s.now==100000)&&(!decide (900000 < s.seq) && !decide (400 < (s.trace.length:Int)+s.cpus)))
def qeM (s:Sy):Sy:={ s with now:=s.now+1 }
def qay (s:Sy):Sy:=if qbI s then qeM (qaE (qbe (qaW (qa3 s))) s.cpus.toNat) else if sysB s then s else Sy.zero
def qa4 (s:Sy):Nat->Sy × Nat
 | 0=>(s,0)
 | n+1=>if qbI s then ((qa4 (qay s) n).1,(qa4 (qay s) n).2+1) else (s,0)
structure Cl where
 kind:Int
 no:Int
 cpu:Int
 a:Int
 b:Int
def qaX (c:Cl):Cl :=
 if c.kind==1||c.kind==2 then c
 else if c.kind==3 then { c with b:=0 }
 else if c.kind==4||c.kind==5||c.kind==6 then { c with cpu:=0,a:=0,b:=0 }
 else if c.kind==7||c.kind==8||c.kind==9 then { c with cpu:=0,b:=0 }
 else if c.kind==10 then { c with a:=0,b:=0 }
 else if c.kind==11 then { c with no:=0,cpu:=0,b:=0 }
 else c
def eqC (x y:Cl):Bool:=x.kind==y.kind&&(x.no==y.no&&(x.cpu==y.cpu&&(x.a==y.a&&x.b==y.b)))
def qdb (c:Cl):Bool:=inB c.kind 1 11&&eqC c (qaX c)
def qdc (s:Sy) (c:Cl):Tsk:=if c.kind==1 then qcI c.no c.cpu c.a c.b s.now else if c.kind==2 then newT (fixT c.no c.cpu c.a c.b (s.seq+1)) else newT (qcU c.no c.cpu c.a (qbu s c.cpu))
def qeN (s:Sy) (c:Cl):Bool:=if c.kind==1 then qcV c.no c.cpu c.a c.b s.now else if c.kind==2 then qae (fixT c.no c.cpu c.a c.b (s.seq+1)) else qae (qcU c.no c.cpu c.a (qbu s c.cpu))
def qix (s:Sy) (c:Cl):Bool:=putB s.tasks (qdc s c)&&(!(c.kind==1)||qcg (qaL s c.cpu++[(c.a,c.b)]))
def newN (s:Sy) (c:Cl):Int :=
 if decide (s.cpus <= c.cpu) || !qeN s c then 1 else if qag s.tasks c.no then 3 else if !qix s c||(c.kind==2&&decide (900000 < s.seq)) then 4 else 0
def newC (s:Sy) (c:Cl):Sy:={ s with tasks:=putL s.tasks (qdc s c),seq:=if c.kind==2 then s.seq+1 else s.seq }
def qfi (s:Sy) (no:Int):Bool:=qcB s.locks no || !decide (qaK s.locks no < 0)
def qdD (t:Tsk):Gh:=⟨t.cpu,t.q,t.p,t.due⟩
def qeO (s:Sy) (t:Tsk):Bool:=t.cls==1&&decide (s.now < t.due)
def qcP (s:Sy) (t:Tsk):Int:=if qfi s t.no then 5 else if qeO s t&&s.ghosts.length==12 then 4 else 0
def qdE (s:Sy) (k:Nat) (t:Tsk):Sy:={ s with ghosts:=if qeO s t then s.ghosts++[qdD t] else s.ghosts,tasks:=s.tasks.eraseIdx k }
def qcF (s:Sy) (c:Cl) (t:Tsk):Int :=
 if !inB c.a 0 4 then 2 else if t.st==2||(!decide (qaK s.locks c.no < 0)||(qaB s.locks c.a.toNat==c.no || !qaD s c.a c.no)) then 5 else if askN s.locks c.a c.no==4 then 6 else 0
def qgj (s:Sy) (c:Cl):Sy:={ s with locks:=askL s.locks c.a c.no }
def qcQ (s:Sy) (c:Cl) (t:Tsk):Int :=
 if !inB c.a 0 4 then 2 else if t.st==2||(!decide (qaK s.locks c.no < 0)||qaB s.locks c.a.toNat != c.no) then 5 else 0
def qeP (s:Sy) (c:Cl):Sy:={ s with locks:=qa5 s.locks c.a c.no (qaP s.tasks (qc9 s.locks c.a.toNat)) }
def qdd (s:Sy) (c:Cl) (t:Tsk):Int:=if t.cls != 3||qfi s t.no then 5 else if !inB c.cpu 0 (s.cpus - 1) then 1 else 0
def qeQ (s:Sy) (c:Cl) (k:Nat) (t:Tsk):Sy:={ s with tasks:=s.tasks.set k (qbT t c.cpu (s.floors.getD t.cpu.toNat 0) (s.floors.getD c.cpu.toNat 0)) }
def qde (s:Sy) (c:Cl) (t:Tsk):Int :=
 if c.kind==4 then (if t.st==2 || !decide (qaK s.locks c.no < 0) then 5 else 0)
 else if c.kind==5 then (if t.st != 2 then 5 else 0)
 else if c.kind==6 then qcP s t
 else if c.kind==7 then qcF s c t
 else if c.kind==8 then qcQ s c t
 else if c.kind==9 then (if t.cls != 3 then 5 else if !inB c.a (-4) 4 then 1 else 0)
 else if c.kind==10 then qdd s c t
 else 0
def qcR (s:Sy) (c:Cl) (k:Nat) (t:Tsk):Sy :=
 if c.kind==4 then { s with tasks:=s.tasks.set k { t with st:=2 } }
 else if c.kind==5 then { s with tasks:=s.tasks.set k { t with st:=1 } }
 else if c.kind==6 then qdE s k t
 else if c.kind==7 then qgj s c
 else if c.kind==8 then qeP s c
 else if c.kind==9 then { s with tasks:=s.tasks.set k { t with nice:=c.a } }
 else if c.kind==10 then qeQ s c k t
 else s
def doN (s:Sy) (c:Cl):Int :=
 if c.kind <= 3 then newN s c
 else if c.kind==11 then (if !inB c.a 1 50 then 1 else if ((qa4 s c.a.toNat).2:Int) < c.a then 4 else 0)
 else if !qag s.tasks c.no then 2
 else qde s c (tAt s.tasks c.no)
def doC (s:Sy) (c:Cl):Sy :=
 if c.kind <= 3 then newC s c
 else if c.kind==11 then (qa4 s c.a.toNat).1
 else qcR s c (qar s.tasks c.no).toNat (tAt s.tasks c.no)
def qbJ (s:Sy) (c:Cl):Int:=if sysB s&&qdb c then doN s c else 1
def qbf (s:Sy) (c:Cl):Sy:=if sysB s&&qdb c then (if doN s c==0 then doC s c else s) else Sy.zero
def runS (s:Sy):List Cl->Sy
 | []=>s
 | c::r=>if qbJ s c==0 then runS (qbf s c) r else runS s r
end Go.Proofs.YthpdlbcdbncnhaaGreatDoor
