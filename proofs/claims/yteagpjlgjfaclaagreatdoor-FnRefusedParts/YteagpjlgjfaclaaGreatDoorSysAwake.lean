/-
  Ticks and calls, as plain functions.
  The program's locks: who waits where, and what follows from
  Ticks: who is awake on a processor.
  The system: of the same processor.
-/
import Derived.Test.YteagpjlgjfaclaaGreatDoorFairList
import Derived.Test.YteagpjlgjfaclaaGreatDoorTaskPut
import Derived.Test.YteagpjlgjfaclaaGreatDoorTaskNew
import Derived.Test.YteagpjlgjfaclaaGreatDoorFixSpec
import Derived.Test.YteagpjlgjfaclaaGreatDoorFrame
import Derived.WalkMore
import Derived.Test.YteagpjlgjfaclaaGreatDoorSysShares
import Derived.Deep.RegionHeld3
namespace Go.Proofs.YteagpjlgjfaclaaGreatDoor
set_option maxRecDepth 100000
open Go.RowKit
def qcv (s:Sy) (t:Tsk):Tsk:={ (if qbV s.tasks s.locks t.no&&t.idle then qc0 (qbQ { t with idle:=false } s.now) (s.floors.getD t.cpu.toNat 0) else t) with idle := !qbV s.tasks s.locks t.no }
def qaR (s:Sy):Sy:={ s with tasks:=s.tasks.map (qcv s) }
def qcg (cpu:Int) (t:Tsk):Bool:=t.cpu==cpu && !t.idle
def qdg (s:Sy) (cpu:Int):List Tsk:=s.tasks.filter (qcg cpu)
def qhD (s:Sy) (t:Tsk):Tsk:=qb1 (qcZ (qcp t)) (s.seq+1)
def qhE (s:Sy) (t:Tsk):Bool:=qb0 (qcZ (qcp t)) (s.seq+1)
def qeN (s:Sy) (cpu:Int) (k:Nat) (t:Tsk):Sy:={ s with seq:=if qhE s t then s.seq+1 else s.seq,tasks:=s.tasks.set k (qhD s t),trace:=s.trace++[⟨cpu,t.no,qbB s.tasks s.locks t.no⟩] }
def qa0 (s:Sy) (cpu:Int):Sy :=
 if qcN s.tasks s.locks cpu < 0 then { s with trace:=s.trace++[⟨cpu,0,0⟩] }
 else qeN s cpu (qcN s.tasks s.locks cpu).toNat (s.tasks.getD (qcN s.tasks s.locks cpu).toNat Tsk.zero)
def qaF (s:Sy):Nat->Sy
 | 0=>s
 | n+1=>qa0 (qaF s n) n
def qcw (now:Int) (t:Tsk):Bool:=t.cls==1&&(!t.idle&&decide (t.due <= now))
def qch (now:Int) (m:Int) (t:Tsk):Int:=if qcw now t&&decide (0 < t.left) then min (m+1) 100000 else m
def qbN (now:Int) (t:Tsk):Tsk:=if qcw now t then qbZ t now else t
def qaT (s:Sy):Sy:={ s with ghosts:=s.ghosts.filter (fun g=>decide (s.now < g.til)),missed:=s.tasks.foldl (qch s.now) s.missed,tasks:=s.tasks.map (qbN s.now) }
def qbe (s:Sy):Sy:={ s with floors:=s.floors.mapIdx fun c x=>qc1 (qdg s c) x }
def qbx (s:Sy):Bool:=sysB s&&(!(s.now==100000)&&(!decide (900000 < s.seq) && !decide (400 < (s.trace.length:Int)+s.cpus)))
def qeg (s:Sy):Sy:={ s with now:=s.now+1 }
def qaz (s:Sy):Sy:=if qbx s then qeg (qaF (qbe (qaR (qaT s))) s.cpus.toNat) else if sysB s then s else Sy.zero
def qaU (s:Sy):Nat->Sy × Nat
 | 0=>(s,0)
 | n+1=>if qbx s then ((qaU (qaz s) n).1,(qaU (qaz s) n).2+1) else (s,0)
structure Cl where
 kind:Int
 no:Int
 cpu:Int
 a:Int
 b:Int
def qaB (c:Cl):Cl :=
 if c.kind==1||c.kind==2 then c
 else if c.kind==3 then { c with b:=0 }
 else if c.kind==4||c.kind==5||c.kind==6 then { c with cpu:=0,a:=0,b:=0 }
 else if c.kind==7||c.kind==8||c.kind==9 then { c with cpu:=0,b:=0 }
 else if c.kind==10 then { c with a:=0,b:=0 }
 else if c.kind==11 then { c with no:=0,cpu:=0,b:=0 }
 else c
def eqC (x y:Cl):Bool:=x.kind==y.kind&&(x.no==y.no&&(x.cpu==y.cpu&&(x.a==y.a&&x.b==y.b)))
def qaC (c:Cl):Bool:=inB c.kind 1 11&&eqC c (qaB c)
def qbY (s:Sy) (c:Cl):Tsk:=if c.kind==1 then qaV c.no c.cpu c.a c.b s.now else if c.kind==2 then newT (fixT c.no c.cpu c.a c.b (s.seq+1)) else newT (qcB c.no c.cpu c.a (qdf s c.cpu))
def qdv (s:Sy) (c:Cl):Bool:=if c.kind==1 then qaY c.no c.cpu c.a c.b s.now else if c.kind==2 then qah (fixT c.no c.cpu c.a c.b (s.seq+1)) else qah (qcB c.no c.cpu c.a (qdf s c.cpu))
def qeh (s:Sy) (c:Cl):Bool:=putB s.tasks (qbY s c)&&(!(c.kind==1)||qaL (qan s c.cpu++[(c.a,c.b)]))
def newN (s:Sy) (c:Cl):Int :=
 if decide (s.cpus <= c.cpu) || !qdv s c then 1 else if qak s.tasks c.no then 3 else if !qeh s c||(c.kind==2&&decide (900000 < s.seq)) then 4 else 0
def newC (s:Sy) (c:Cl):Sy:={ s with tasks:=putL s.tasks (qbY s c),seq:=if c.kind==2 then s.seq+1 else s.seq }
def qeO (s:Sy) (no:Int):Bool:=qck s.locks no || !decide (qaJ s.locks no < 0)
def qdh (t:Tsk):Gh:=⟨t.cpu,t.q,t.p,t.due⟩
def qei (s:Sy) (t:Tsk):Bool:=t.cls==1&&decide (s.now < t.due)
def qcx (s:Sy) (t:Tsk):Int:=if qeO s t.no then 5 else if qei s t&&s.ghosts.length==12 then 4 else 0
def qdi (s:Sy) (k:Nat) (t:Tsk):Sy:={ s with ghosts:=if qei s t then s.ghosts++[qdh t] else s.ghosts,tasks:=s.tasks.eraseIdx k }
def qcn (s:Sy) (c:Cl) (t:Tsk):Int :=
 if !inB c.a 0 4 then 2 else if t.st==2||(!decide (qaJ s.locks c.no < 0)||(qaE s.locks c.a.toNat==c.no || !qaD s c.a c.no)) then 5 else if askN s.locks c.a c.no==4 then 6 else 0
def qfE (s:Sy) (c:Cl):Sy:={ s with locks:=askL s.locks c.a c.no }
def qcy (s:Sy) (c:Cl) (t:Tsk):Int :=
 if !inB c.a 0 4 then 2 else if t.st==2||(!decide (qaJ s.locks c.no < 0)||qaE s.locks c.a.toNat != c.no) then 5 else 0
def qej (s:Sy) (c:Cl):Sy:={ s with locks:=qaX s.locks c.a c.no (qcm s.tasks (qcL s.locks c.a.toNat)) }
def qcQ (s:Sy) (c:Cl) (t:Tsk):Int:=if t.cls != 3||qeO s t.no then 5 else if !inB c.cpu 0 (s.cpus - 1) then 1 else 0
def qek (s:Sy) (c:Cl) (k:Nat) (t:Tsk):Sy:={ s with tasks:=s.tasks.set k (qbF t c.cpu (s.floors.getD t.cpu.toNat 0) (s.floors.getD c.cpu.toNat 0)) }
def qcR (s:Sy) (c:Cl) (t:Tsk):Int :=
 if c.kind==4 then (if t.st==2 || !decide (qaJ s.locks c.no < 0) then 5 else 0)
 else if c.kind==5 then (if t.st != 2 then 5 else 0)
 else if c.kind==6 then qcx s t
 else if c.kind==7 then qcn s c t
 else if c.kind==8 then qcy s c t
 else if c.kind==9 then (if t.cls != 3 then 5 else if !inB c.a (-4) 4 then 1 else 0)
 else if c.kind==10 then qcQ s c t
 else 0
def qcz (s:Sy) (c:Cl) (k:Nat) (t:Tsk):Sy :=
 if c.kind==4 then { s with tasks:=s.tasks.set k { t with st:=2 } }
 else if c.kind==5 then { s with tasks:=s.tasks.set k { t with st:=1 } }
 else if c.kind==6 then qdi s k t
 else if c.kind==7 then qfE s c
 else if c.kind==8 then qej s c
 else if c.kind==9 then { s with tasks:=s.tasks.set k { t with nice:=c.a } }
 else if c.kind==10 then qek s c k t
 else s
def doN (s:Sy) (c:Cl):Int :=
 if c.kind <= 3 then newN s c
 else if c.kind==11 then (if !inB c.a 1 50 then 1 else if ((qaU s c.a.toNat).2:Int) < c.a then 4 else 0)
 else if !qak s.tasks c.no then 2
 else qcR s c (tAt s.tasks c.no)
def doC (s:Sy) (c:Cl):Sy :=
 if c.kind <= 3 then newC s c
 else if c.kind==11 then (qaU s c.a.toNat).1
 else qcz s c (qau s.tasks c.no).toNat (tAt s.tasks c.no)
def qaS (s:Sy) (c:Cl):Int:=if sysB s&&qaC c then doN s c else 1
def qaO (s:Sy) (c:Cl):Sy:=if sysB s&&qaC c then (if doN s c==0 then doC s c else s) else Sy.zero
def runS (s:Sy):List Cl->Sy
 | []=>s
 | c::r=>if qaS s c==0 then runS (qaO s c) r else runS s r
def runN (s:Sy):List Cl->List Int
 | []=>[]
 | c::r=>qaS s c::(if qaS s c==0 then runN (qaO s c) r else runN s r)
end Go.Proofs.YteagpjlgjfaclaaGreatDoor
namespace Go.Proofs.YteagpjlgjfaclaaGreatDoor
set_option maxRecDepth 100000
open Go.RowKit
variable {p:Bool}
attribute [local go_sem] Keeps.refl Keeps.alloc Keeps.drew Keeps.drewN
theorem qd3 (w:World):(zeroValue 3).run Tryz.prog w = .ok (.int .i64 0) w:=by kernel_rfl
set_option maxHeartbeats 1000000 in
theorem qjG (a:Option Addr) (cap:Nat) (ls:List Lk) (w:World) (hl:qaj ls <= 2097152) (hs:Lks p w a ls) :
  Calls Tryz.prog 123 #[.slice a ls.length cap] w fun e w'=>e = .returned (.int .i64 (sumW ls)) /\ Keeps w w':=by
 have HL:Hid (qaj ls <= 2097152):=hl
 have hl0:ls.length <= 2097152:=by unfold qaj at hl;omega
 clear hl
 generalize hn:ls.length=n at hl0
 have Hn:Hid (ls.length=n):=hn
 clear hn
 go_enter Tryz.func123,Tryz.ntmps123
 go_wp2
 go_loopw [3,8] (fun c i wr=>∃ (k q:Nat),k <= n /\ i = .int .i64 k /\ c = .int .i64 q /\ Hid (sumW (ls.take k)=q) /\ q <= 2097152 /\ Keeps w wr) (fun _ i _=>n - (intOf i).toNat)
 case atStart=>exact ⟨0,0,Nat.zero_le _,rfl,rfl,by show _=_;simp [sumW],by omega,Keeps.refl _⟩
 case round =>
  obtain ⟨k,q,hk,rfl,rfl,Hq,hq1,hK⟩:=hrel
  by_cases hlt:k < n
  ·obtain ⟨l,hl1⟩:=qal (xs:=ls) (k:=k) (by rw [Hn.out];exact hlt)
   obtain ⟨b,off,a',cap',rfl,r0,r1,hle,hns⟩:=hs.at hl1
   have hlt':(k:Int) < (n:Int):=by omega
   have Hl:Hid (ls[k]?=some l):=hl1
   have hw2:Hid (q+l.waits.length <= 2097152):=by
    show _ <= _
    have h1:=qd9 hl1
    have h2:=qfp ls (k+1)
    have h4:=HL.out
    rw [Hq.out] at h1
    unfold qaj at h4
    omega
   clear hl1 hle hns hs
   obtain ⟨m,Hm⟩:∃ m:Nat,Hid (l.waits.length=m):=⟨_,rfl⟩
   have hm2:q+m <= 2097152:=by rw [<- Hm.out];exact hw2.out
   rw [Hm.out] at r1
   go_wp2
   exact ⟨⟨k+1,q+m,by omega,by go_num,by go_num,by show _=_;rw [qd9 Hl.out,Hq.out,Hm.out],by omega,hK.alloc _⟩,by simp only [intOf];omega⟩
  ·have e:k=n:=by omega
   subst e
   have Hr:Hid (sumW ls=q):=by show _=_;rw [<- Hq.out,<- Hn.out,List.take_length]
   go_wp2
   go_ret
   exact ⟨by rw [Hr.out];rfl,hK⟩
set_option maxHeartbeats 4000000 in
theorem qjH (a:Option Addr) (cap:Nat) (ls:List Lk) (w:World) (hl:qaj ls <= 2097152) (hs:Lks p w a ls) :
  Calls Tryz.prog 42 #[.slice a ls.length cap] w fun e w'=>e = .returned (.map (some w.heap.size)) /\ MapI w' w.heap.size (qaP ls) /\ Keeps w w':=by
 have HL:Hid (qaj ls <= 2097152):=hl
 have hl0:ls.length <= 2097152:=by unfold qaj at hl;omega
 clear hl
 have HS:Hid (Lks p w a ls):=hs
 clear hs
 generalize hn:ls.length=n at hl0
 have Hn:Hid (ls.length=n):=hn
 clear hn
 have hmm := @run_makeMap Tryz.prog
 go_enter Tryz.func42,Tryz.ntmps42
 go_wp2
 clear hmm
 have kz:Hid (Keeps w (w.alloc (.map #[] 0))):=(Keeps.refl _).alloc _
 have M0:Hid (MapI (w.alloc (.map #[] 0)) w.heap.size []):=MapI.made w
 generalize w.alloc (.map #[] 0)=W at *
 go_loopw [13] (fun i wr=>∃ (k:Nat),k <= n /\ i = .int .i64 k /\ Hid (MapI wr w.heap.size (qaZ ls k)) /\ Keeps w wr) (fun i _=>n - (intOf i).toNat)
 case atStart=>exact ⟨0,Nat.zero_le _,rfl,M0,kz.out⟩
 case round =>
  obtain ⟨k,hk,rfl,M,hK⟩:=hrel
  clear M0 kz
  by_cases hlt:k < n
  ·obtain ⟨l,hl1⟩:=qal (xs:=ls) (k:=k) (by rw [Hn.out];exact hlt)
   obtain ⟨b,off,a',cap',rfl,r0,r1,hle,hns⟩:=HS.out.at hl1
   have hlt':(k:Int) < (n:Int):=by omega
   have Hl:Hid (ls[k]?=some l):=hl1
   have hw1:Hid (l.waits.length <= 2097152):=by show _ <= _;have:=qcM hl1;have:=HL.out;unfold qaj at this;omega
   clear hl1 hle
   obtain ⟨m,Hm⟩:∃ m:Nat,Hid (l.waits.length=m):=⟨_,rfl⟩
   have hm1:m <= 2097152:=by rw [<- Hm.out];exact hw1.out
   rw [Hm.out] at r1
   have M1:Hid (∀ o,MapI (wr.alloc o) w.heap.size (qaZ ls k)):=fun o=>M.out.keeps ((Keeps.refl wr).alloc o)
   go_wp2
   go_loopw [21] (fun i w2=>∃ (j:Nat),j <= m /\ i = .int .i64 j /\ Hid (MapI w2 w.heap.size (addL k (qaZ ls k) (l.waits.take j))) /\ Keeps w w2) (fun i _=>m - (intOf i).toNat)
   case atStart=>exact ⟨0,Nat.zero_le _,rfl,M1.out _,hK.alloc _⟩
   case round =>
    obtain ⟨j,hj,rfl,M2,hK2⟩:=hrel
    clear M M1
    by_cases hlt2:j < m
    ·obtain ⟨x,hx⟩:=qal (xs:=l.waits) (k:=j) (by rw [Hm.out];exact hlt2)
     obtain ⟨b2,off2,rfl,x0⟩:=hns.at hx
     have hlt3:(j:Int) < (m:Int):=by omega
     have Hx:Hid (l.waits[j]?=some x):=hx
     clear hns hx
     obtain ⟨E,HE⟩:∃ E,Hid (addL k (qaZ ls k) (l.waits.take j)=E):=⟨_,rfl⟩
     rw [HE.out] at M2
     have HN:Hid (addL k (qaZ ls k) (l.waits.take (j+1))=addW k E x):=by show _=_;rw [qjW Hx.out,HE.out]
     obtain ⟨v,Hv⟩:∃ v,Hid (valM E x=v):=⟨_,rfl⟩
     cases hq:hasM E x
     ·have Hq:Hid (qaK E x=none):=by show _=_;unfold hasM at hq;simpa using hq
      have HQ:Hid (hasM E x=false):=hq
      have HA:Hid (addW k E x=E++[(x,(k:Int))]):=by show _=_;unfold addW;rw [hq];rfl
      clear hq
      go_wp2_with (first
       | (at_lookup;refine qeb rfl _ _ 77 rfl 3 3 Tryz.underlying77 Tryz.underlying3 (qd3 _) w.heap.size E rfl M2.out x rfl v false Hv.out HQ.out ?_)
       | (at_mapUpdate;refine qlE rfl _ _ _ 77 rfl 3 3 Tryz.underlying77 Tryz.underlying3 w.heap.size E rfl M2.out x k rfl rfl Hq.out ?_;intro w5 m5 g5;have M5:Hid (MapI w5 w.heap.size (E++[(x,(k:Int))])):=m5;have K5:Hid (Keeps w w5):=hK2.grown g5 (by rintro q ⟨⟩;exact Nat.le_refl _);clear m5 g5))
      exact ⟨⟨j+1,by omega,by go_num,by show MapI _ _ _;rw [HN.out,HA.out];exact M5.out,K5.out⟩,by simp only [intOf];omega⟩
     ·have HQ:Hid (hasM E x=true):=hq
      have HA:Hid (addW k E x=E):=by show _=_;unfold addW;rw [hq];rfl
      clear hq
      go_wp2_with (first
       | (at_lookup;refine qeb rfl _ _ 77 rfl 3 3 Tryz.underlying77 Tryz.underlying3 (qd3 _) w.heap.size E rfl M2.out x rfl v true Hv.out HQ.out ?_))
      exact ⟨⟨j+1,by omega,by go_num,by show MapI _ _ _;rw [HN.out,HA.out];exact M2.out,hK2⟩,by simp only [intOf];omega⟩
    ·have e:j=m:=by omega
     subst e
     have HN:Hid (qaZ ls (k+1)=addL k (qaZ ls k) (l.waits.take j)):=by show _=_;rw [qe7 Hl.out,<- Hm.out,List.take_length]
     go_wp2
     exact ⟨⟨k+1,by omega,by go_num,by show MapI _ _ _;rw [HN.out];exact M2.out,hK2⟩,by simp only [intOf];omega⟩
  ·have e:k=n:=by omega
   subst e
   have HR:Hid (qaZ ls k=qaP ls):=by show _=_;unfold qaP;rw [Hn.out]
   rw [HR.out] at M
   go_wp2
   go_ret
   exact ⟨rfl,M.out,hK⟩
def qgm:Value->Nat
 | .slice _ n _=>n
 | _=>0
set_option maxHeartbeats 4000000 in
theorem qjI (B:Nat) (a:Option Addr) (cap:Nat) (ls:List Lk) (no:Int) (w:World) (hl:ls.length <= 2097152) (hs:Lks p w a ls) (hm:MapI w B (qaP ls)) :
  Calls Tryz.prog 76 #[.map (some B),.int .i64 no,.slice a ls.length cap] w fun e w'=>∃ v,e = .returned (.tuple #[v,.bool (qap ls (ls.length+1) no).2]) /\ ((qap ls (ls.length+1) no).2=true->OwnN w' w.heap.size v (qap ls (ls.length+1) no).1) /\ Keeps w w':=by
 have HS:Hid (Lks p w a ls):=hs
 have HM:Hid (MapI w B (qaP ls)):=hm
 clear hs hm
 generalize hn:ls.length=n at hl
 have Hn:Hid (ls.length=n):=hn
 clear hn
 obtain ⟨C,HC⟩:∃ C,Hid (qap ls (n+1) no=C):=⟨_,rfl⟩
 rw [HC.out]
 go_enter Tryz.func76,Tryz.ntmps76
 go_wp2
 go_step3
 go_wp2
 go_step3
 go_wp2
 have kz:Hid (Keeps w (w.alloc (.cells #[.int .i64 no] 3))):=(Keeps.refl _).alloc _
 have own0:Hid (OwnN (w.alloc (.cells #[.int .i64 no] 3)) w.heap.size (.slice (some ⟨w.heap.size,0,none⟩) 1 1) ([]++[no])):=World.ownsRow_lit w #[.int .i64 no] 1 (Nat.le_refl _) (by unfold maxLen;omega) rfl
 generalize w.alloc (.cells #[.int .i64 no] 3)=W at *
 go_loopw [1,8] (fun c v wr=>∃ (done:List Int) (cur:Int),done.length <= n /\ c = .int .i64 cur /\ Hid (OwnN wr w.heap.size v (done++[cur])) /\ Keeps w wr /\ Hid (C=(done++(qap ls (n+1 - done.length) cur).1,(qap ls (n+1 - done.length) cur).2))) (fun _ v _=>n+1 - qgm v)
 case atStart=>exact ⟨[],no,Nat.zero_le _,rfl,own0,kz.out,by show _=_;rw [<- HC.out];simp⟩
 case round =>
  obtain ⟨done,cur,hd,rfl,own,hK,HI⟩:=hrel
  clear own0 kz
  obtain ⟨k,Hk⟩:∃ k,Hid (done.length=k):=⟨_,rfl⟩
  have hd':k <= n:=by rw [<- Hk.out];exact hd
  clear hd
  rw [Hk.out] at HI
  obtain ⟨av,cv,ev,-,-,-⟩:=OwnN.ns own.out
  have el:Hid ((done++[cur]).length=k+1):=by show _=_;simp [Hk.out]
  rw [el.out] at ev
  subst ev
  obtain ⟨f,Hf⟩:∃ f,Hid (n+1 - k=f+1):=⟨n - k,by show _=_;omega⟩
  have HI2:Hid (C=(done++(qap ls (f+1) cur).1,(qap ls (f+1) cur).2)):=by show _=_;rw [<- Hf.out];exact HI.out
  have MM:Hid (MapI wr B (qaP ls)):=HM.out.keeps hK
  cases hx:qay ls cur with
  | none =>
   have HQ:Hid (hasM (qaP ls) cur=false):=qjX hx
   obtain ⟨v,Hv⟩:∃ v,Hid (valM (qaP ls) cur=v):=⟨_,rfl⟩
   have HR:Hid (C=(done++[cur],true)):=by show _=_;rw [HI2.out,qdJ hx]
   go_wp2_with (first
    | (at_lookup;refine qeb rfl _ _ 77 rfl 3 3 Tryz.underlying77 Tryz.underlying3 (qd3 _) B (qaP ls) rfl MM.out cur rfl v false Hv.out HQ.out ?_))
   rw [Exit.noGoto_ret]
   go_ret2
   exact ⟨_,by rw [HR.out];rfl,fun _=>by rw [HR.out];exact own.out,hK⟩
  | some i =>
   have HQ:Hid (hasM (qaP ls) cur=true):=(qgr hx).1
   have Hv:Hid (valM (qaP ls) cur=(i:Int)):=(qgr hx).2
   obtain ⟨l,hl1,-,-⟩:=qc6 hx
   have Hi:Hid (i < n):=by show _ < _;have:=qaw hl1;rw [Hn.out] at this;exact this
   have hi1:(i:Int) < (n:Int):=by have:=Hi.out;omega
   obtain ⟨b,off,a',cap',rfl,r0,r1,-,-⟩:=HS.out.at hl1
   have HR:Hid (C=((done++[cur])++(qap ls f l.owner).1,(qap ls f l.owner).2)):=by
    show _=_
    rw [HI2.out,qdK hx,qbT hl1]
    simp
   clear hl1 r1
   by_cases hlt:k < n
   ·have hlt':¬ ((n:Int) < (k:Int)+1):=by omega
    have hlt2:decide ((n:Int) < (k:Int)+1)=false:=by simpa using hlt'
    go_wp2_with (first
     | (at_lookup;refine qeb rfl _ _ 77 rfl 3 3 Tryz.underlying77 Tryz.underlying3 (qd3 _) B (qaP ls) rfl MM.out cur rfl (i:Int) true Hv.out HQ.out ?_)
     | (at_builtin;(refine qbA rfl _ _ 27 rfl w 3 (.int .i64 0) 1 8 ic Tryz.underlying27 (by kernel_rfl) rfl (by decide) qaW qcH _ (done++[cur]) rfl wr own.out hK ((Keeps.refl _).alloc _) l.owner _ 1 (Blk.new _ _ _) rfl ?c1 ?c2 ?_)))
    case c1=>have:=Hk.out;unfold maxLen;omega
    case c2=>have:=Hk.out;omega
    intro v' w5 own5 k5 _
    have HO:Hid (OwnN w5 w.heap.size v' (done++[cur]++[l.owner])):=by show OwnN _ _ _ _;simpa using own5
    clear own5 own
    go_wp2
    refine ⟨⟨done++[cur],l.owner,by rw [el.out];omega,rfl,HO,k5,?_⟩,?_⟩
    ·show _=_
     rw [HR.out,el.out,show n+1 - (k+1)=f from by have:=Hf.out;omega]
    ·obtain ⟨a6,c6,e6,-,-,-⟩:=OwnN.ns HO.out
     rw [e6,List.length_append,el.out]
     simp only [qgm,List.length_singleton]
     omega
   ·have e:k=n:=by omega
    have hlt':((n:Int) < (k:Int)+1):=by omega
    have Hff:Hid (C.2=false):=by show _=_;rw [HR.out,show f=0 from by have:=Hf.out;omega];rfl
    go_wp2_with (first
     | (at_lookup;refine qeb rfl _ _ 77 rfl 3 3 Tryz.underlying77 Tryz.underlying3 (qd3 _) B (qaP ls) rfl MM.out cur rfl (i:Int) true Hv.out HQ.out ?_))
    rw [Exit.noGoto_ret]
    go_ret2
    exact ⟨_,by rw [Hff.out];rfl,fun h=>(by rw [Hff.out] at h;cases h),hK⟩
end Go.Proofs.YteagpjlgjfaclaaGreatDoor
namespace Go.Proofs.YteagpjlgjfaclaaGreatDoor
set_option maxRecDepth 100000
open Go.RowKit
attribute [local go_sem] Keeps.refl Keeps.alloc Keeps.drew Keeps.drewN
theorem qfA {α:Type} (p:α->Bool) {xs:List α} {k:Nat} {x:α} (h:xs[k]?=some x):(xs.take (k+1)).filter p=(xs.take k).filter p++(if p x then [x] else []):=by
 rw [qb6 h,List.filter_append]
 congr 1
 cases e:p x <;> simp [e]
set_option maxHeartbeats 4000000 in
theorem ql7 {w:World} {v:Sv} {s:Sy} (h:SysOn w v s) (cpu:Int) :
  Calls Tryz.prog 179 #[.agg (syc s v),.int .i64 cpu] w fun e w'=>∃ u,e = .returned u /\ Own 43 14 tc w' w.heap.size u (qdg s cpu) /\ Keeps w w':=by
 have hm1:v.t.n <= 2000000:=by have:=h.size;have:=h.lay.tl;unfold qai at *;omega
 have Hn:Hid (s.tasks.length=v.t.n):=h.lay.tl
 have kW:=blkK w (.cells (syc s v) 30)
 have hb:=blkR w (syc s v) 30
 have hs1:Hid (Ts (w.alloc (.cells (syc s v) 30)) v.t.a s.tasks):=h.lay.t.keeps kW
 clear h
 have HE:Hid (qdg s cpu=s.tasks.filter (qcg cpu)):=rfl
 go_enter Tryz.func179,Tryz.ntmps179
 go_wp2
 have O0:Hid (Own 43 14 tc ((w.alloc (.cells (syc s v) 30)).alloc (.cells #[] 43)) (w.alloc (.cells (syc s v) 30)).heap.size (.slice (some ⟨(w.alloc (.cells (syc s v) 30)).heap.size,0,none⟩) 0 0) []):=Own.new 43 14 tc _ (Nat.le_refl _)
 have hz:(w.alloc (.cells (syc s v) 30)).heap.size=w.heap.size+1:=by simp
 rw [hz] at O0
 have HW:Hid (w.heap.size <= (w.alloc (.cells (syc s v) 30)).heap.size):=by show _ <= _;omega
 have Hz:Hid ((w.alloc (.cells (syc s v) 30)).heap.size=w.heap.size+1):=hz
 clear hz
 generalize w.alloc (.cells (syc s v) 30)=W at *
 go_loopw [5,6] (fun o i wr=>∃ (k:Nat) (xs:List Tsk),k <= v.t.n /\ i = .int .i64 k /\ xs.length <= k /\ Hid (xs=(s.tasks.take k).filter (qcg cpu)) /\ Hid (Own 43 14 tc wr W.heap.size o xs) /\ Keeps W wr) (fun _ i _=>v.t.n - (intOf i).toNat)
 case atStart=>exact ⟨0,[],Nat.zero_le _,rfl,by simp,by show _=_;simp,by show Own _ _ _ _ _ _ _;rw [Hz.out];exact O0.out,(Keeps.refl _).alloc _⟩
 case round =>
  obtain ⟨k,xs,hk,rfl,hxl,HX,O,hK⟩:=hrel
  clear O0
  by_cases hlt:k < v.t.n
  ·obtain ⟨t,ht⟩:=qal (xs:=s.tasks) (k:=k) (by rw [Hn.out];exact hlt)
   obtain ⟨b,off,ha,r0,r1⟩:=hs1.out.at ht (by omega)
   have hlt':(k:Int) < (v.t.n:Int):=by omega
   have Hstep:=qfA (qcg cpu) ht
   rw [<- HX.out] at Hstep
   have HS:Hid ((s.tasks.take (k+1)).filter (qcg cpu)=xs++(if qcg cpu t then [t] else [])):=Hstep
   clear ht Hstep
   cases c1:(t.cpu==cpu)
   ·have Hx:Hid (xs=(s.tasks.take (k+1)).filter (qcg cpu)):=by show _=_;rw [HS.out];simp [qcg,c1]
    go_wp2
    exact ⟨⟨k+1,xs,by omega,by go_num,by omega,Hx,O,hK⟩,by simp only [intOf];omega⟩
   cases c2:t.idle
   rotate_left
   ·have Hx:Hid (xs=(s.tasks.take (k+1)).filter (qcg cpu)):=by show _=_;rw [HS.out];simp [qcg,c1,c2]
    go_wp2
    exact ⟨⟨k+1,xs,by omega,by go_num,by omega,Hx,O,hK⟩,by simp only [intOf];omega⟩
   have Hx:Hid (xs++[t]=(s.tasks.take (k+1)).filter (qcg cpu)):=by show _=_;rw [HS.out];simp [qcg,c1,c2]
   obtain ⟨u,rfl⟩:∃ u:Tsk,t={ u with idle:=false }:=⟨t,by rw [<- c2]⟩
   clear HS c2
   go_wp2_with (at_builtin;(refine qbA rfl _ _ 24 rfl W 43 (.agg (tc Tsk.zero)) 14 112 tc Tryz.underlying24 (by kernel_rfl) rfl (by decide) qao qbs _ xs rfl wr O.out hK ((Keeps.refl _).alloc _) { u with idle:=false } _ 1 (Blk.new _ _ _) rfl ?c1 ?c2 ?_))
   case c1=>unfold maxLen;omega
   case c2=>omega
   intro v' w5 own5 k5 _
   have HO:Hid (Own 43 14 tc w5 W.heap.size v' (xs++[{ u with idle:=false }])):=own5
   clear own5 O
   go_wp2
   exact ⟨⟨k+1,xs++[{ u with idle:=false }],by omega,by go_num,by simp;omega,Hx,HO,k5⟩,by simp only [intOf];omega⟩
  ·have hlt':decide ((k:Int) < (v.t.n:Int))=false:=by simp;omega
   have HP:Hid (qdg s cpu=xs):=by
    have h1:=HX.out
    rw [List.take_of_length_le (by have:=Hn.out;omega)] at h1
    show _=_
    rw [HE.out,h1]
   clear HX
   go_wp2
   go_ret
   exact ⟨_,rfl,by rw [HP.out];exact O.out.base HW.out,kW.trans hK⟩
end Go.Proofs.YteagpjlgjfaclaaGreatDoor
namespace Go.Proofs.YteagpjlgjfaclaaGreatDoor
set_option maxRecDepth 100000
open Go.RowKit
attribute [local go_sem] Keeps.refl Keeps.alloc Keeps.drew Keeps.drewN
set_option maxHeartbeats 8000000 in
theorem qmg {w:World} {v:Sv} {s:Sy} (h:SysOn w v s) (i no:Int) :
  Calls Tryz.prog 149 #[.agg (syc s v),.int .i64 i,.int .i64 no] w fun e w'=>e = .returned (.bool (qaD s i no)) /\ Keeps w w':=by
 have hm:v.t.n <= 2000000 /\ v.l.n <= 2000000:=by have:=h.size;have:=h.lay.ll;have:=h.lay.tl;have:=qc5 s.locks;unfold qai at *;omega
 obtain ⟨hm1,hm2⟩:=hm
 have kW:=blkK w (.cells (syc s v) 30)
 have hb:=blkR w (syc s v) 30
 have hT:Hid (OnT (w.alloc (.cells (syc s v) 30)) v.t.a v.t.n v.t.cap s.tasks):=h.onT.keeps kW
 have hL:Hid (On (w.alloc (.cells (syc s v) 30)) v.l.a v.l.n v.l.cap s.locks):=h.onL.keeps kW
 have e1:IntKind.i64.wrap ((v.l.n:Int) - 1)=(v.l.n:Int) - 1:=Go.IntWalk.i64_in _ (by omega)
 have HE:Hid (qaD s i no=(inB i 0 ((v.l.n:Int) - 1)&&(qak s.tasks no&&(qaE s.locks i.toNat==0||(qak s.tasks (qaE s.locks i.toNat)&&(tAt s.tasks (qaE s.locks i.toNat)).cpu==(tAt s.tasks no).cpu))))):=by show _=_;unfold qaD;rw [hL.out.len]
 clear h
 obtain ⟨pa,Hpa⟩:∃ pa,Hid (qau s.tasks no=pa):=⟨_,rfl⟩
 go_enter Tryz.func149,Tryz.ntmps149
 go_wp2_with fail
 generalize w.alloc (.cells (syc s v) 30)=W at *
 refine (hT.out.sTaskAt no Hpa.out (Keeps.refl _)).mono ?_
 rintro e w1 ⟨rfl,k1⟩
 go_wp2_with fail
 refine (qag _ _ _ _).mono ?_
 rintro e w' ⟨rfl,hw'⟩
 have hw2:=hw'.symm
 subst hw2
 cases c1:inB i 0 ((v.l.n:Int) - 1)
 ·have Hr:Hid (qaD s i no=false):=by show _=_;rw [HE.out,c1];rfl
  go_wp2
  go_ret
  exact ⟨by rw [Hr.out];rfl,kW.trans k1⟩
 cases c2:decide (pa < 0)
 rotate_left
 ·have Hr:Hid (qaD s i no=false):=by show _=_;rw [HE.out,c1];unfold qak;rw [Hpa.out,c2];rfl
  go_wp2
  go_ret
  exact ⟨by rw [Hr.out];rfl,kW.trans k1⟩
 have hth:qak s.tasks no=true:=by unfold qak;rw [Hpa.out,c2];rfl
 obtain ⟨ka,ta,ea,hta,-⟩:=qda.1 hth
 have Hta:Hid (tAt s.tasks no=ta):=qdb ea hta
 obtain rfl:pa=(ka:Int):=by rw [<- Hpa.out];exact ea
 have hka:ka < v.t.n:=by have:=qaw hta;rw [hT.out.len] at this;exact this
 have hkai:(ka:Int) < (v.t.n:Int):=by omega
 obtain ⟨bt,ot,hat,rt⟩:=hT.out.all (by omega)
 have ra:∀ w',Keeps W w'->w'.cell? ⟨bt,ot+ka*14+2,none⟩=some (.int .i64 ta.cpu):=fun w' h=>(rt ka ta hta).2 w' h 2 (by omega)
 have RT:Hid (∀ (i:Nat) (t:Tsk),s.tasks[i]?=some t->∀ w',Keeps W w'->w'.cell? ⟨bt,ot+i*14+2,none⟩=some (.int .i64 t.cpu)):=fun i t ht w' h=>(rt i t ht).2 w' h 2 (by omega)
 obtain ⟨i0,i1⟩:=qas.1 c1
 obtain ⟨k,rfl⟩:∃ k:Nat,i=(k:Int):=⟨i.toNat,by omega⟩
 obtain ⟨l,hl⟩:=qal (xs:=s.locks) (k:=k) (by rw [hL.out.len];omega)
 obtain ⟨hkn,b,off,a',cap',ha,r0,-,-,-⟩:=hL.out.at hl
 have hki:(k:Int) < (v.l.n:Int):=by omega
 have HE2:Hid (qaD s k no=(l.owner==0||(qak s.tasks l.owner&&(tAt s.tasks l.owner).cpu==ta.cpu))):=by
  show _=_
  rw [HE.out,c1,hth,Int.toNat_natCast,qbT hl,Hta.out]
  rfl
 obtain ⟨po,Hpo⟩:∃ po,Hid (qau s.tasks l.owner=po):=⟨_,rfl⟩
 have TA:Hid (∀ w',Keeps W w'->Calls Tryz.prog 71 #[.slice v.t.a v.t.n v.t.cap,.int .i64 l.owner] w' fun e w''=>e = .returned (.int .i64 po) /\ Keeps w' w''):=fun w' h=>hT.out.sTaskAt l.owner Hpo.out h
 rw [hat] at TA
 clear hth ea hta rt Hpa hl HE
 go_wp2_with fail
 refine wp_region_held_drew (S:=(fun w'=>Keeps W w')) (by kernel_rfl) ?_ (fun hHeld => ?_)
 ·exact k1.drew
 refine Plan.go [0,1,2,3,4,5,6,7] ?_
 iterate 8 (refine qac (by simp only [qab];rfl) (by kernel_rfl) (by exact fun _ _ _ h=>h) (by rfl) (by assumption) (fun w _=>by go_simp;try (with_reducible rfl)) ?_;try simp only [qaa])
 refine Plan.nil ?_
 refine qad 8 (by kernel_rfl) (by simp only [qab];rfl) (fun K hK => ?_)
 go_simp
 first
  | (go_at_call 71;refine (TA.out _ k1.drew).mono ?_;rintro e w5 ⟨rfl,k5⟩)
 try go_wp2_with fail
 refine hK.out _ _ ?_ (fun hHeld => ?_)
 ·exact Keeps.trans (by assumption) (by assumption)
 clear hK K
 try simp only [qaa]
 refine qar 9 (v := ?_) (by simp only [qab];rfl) (by kernel_rfl) (by exact fun _ _ _ h=>h) (by rfl) (by assumption) ?_ ?_
 rotate_left
 ·(intro w _;go_simp;try (with_reducible rfl))
 try simp only [qaa]
 refine wpAnyH_done (by kernel_rfl) ?_ _
 have K5:Keeps W w5:=by assumption
 clear TA
 cases c3:(l.owner==0)
 rotate_left
 ·have Hr:Hid (qaD s k no=true):=by show _=_;rw [HE2.out,c3];rfl
  go_wp2_with fail
  refine wp_region_held_drew (S:=(fun w'=>Keeps W w')) (by kernel_rfl) ?_ (fun hHeld => ?_)
  ·exact K5.drew
  refine Plan.go [0,1,2,3,4,5,6,7] ?_
  iterate 8 (refine qac (by simp only [qab];rfl) (by kernel_rfl) (by exact fun _ _ _ h=>h) (by rfl) (by assumption) (fun w _=>by go_simp;try (with_reducible rfl)) ?_;try simp only [qaa])
  refine Plan.nil ?_
  refine Plan.go [8,9,10,11,12,13,14,15,16,17,18,19,20,21,22,23,24] ?_
  iterate 17 (refine qaA (by simp only [qab];rfl) (by kernel_rfl) (by exact fun _ _ _ h=>h) (by rfl) (by assumption) ?_;try simp only [qaa])
  refine Plan.nil ?_
  refine Plan.go [25,26] ?_
  iterate 2 (refine qac (by simp only [qab];rfl) (by kernel_rfl) (by exact fun _ _ _ h=>h) (by rfl) (by assumption) (fun w _=>by go_simp;try (with_reducible rfl)) ?_;try simp only [qaa])
  refine Plan.nil ?_
  refine wpAnyH_done (by kernel_rfl) ?_ _
  go_wp2
  go_ret
  exact ⟨by rw [Hr.out];rfl,kW.trans K5.drew⟩
 cases c4:decide (0 <= po)
 ·have Hr:Hid (qaD s k no=false):=by
   have:qak s.tasks l.owner=false:=by unfold qak;rw [Hpo.out];simp only [decide_eq_false_iff_not] at c4;simp;omega
   show _=_
   rw [HE2.out,c3,this];rfl
  go_wp2_with fail
  refine wp_region_held_drew (S:=(fun w'=>Keeps W w')) (by kernel_rfl) ?_ (fun hHeld => ?_)
  ·exact K5.drew
  refine Plan.go [0,1,2,3,4,5,6,7,8,9,10] ?_
  iterate 11 (refine qac (by simp only [qab];rfl) (by kernel_rfl) (by exact fun _ _ _ h=>h) (by rfl) (by assumption) (fun w _=>by go_simp;try (with_reducible rfl)) ?_;try simp only [qaa])
  refine Plan.nil ?_
  refine Plan.go [11,12,13,14,15,16,17,18,19,20,21,22,23] ?_
  iterate 13 (refine qaA (by simp only [qab];rfl) (by kernel_rfl) (by exact fun _ _ _ h=>h) (by rfl) (by assumption) ?_;try simp only [qaa])
  refine Plan.nil ?_
  refine Plan.go [24,25,26] ?_
  iterate 3 (refine qac (by simp only [qab];rfl) (by kernel_rfl) (by exact fun _ _ _ h=>h) (by rfl) (by assumption) (fun w _=>by go_simp;try (with_reducible rfl)) ?_;try simp only [qaa])
  refine Plan.nil ?_
  refine wpAnyH_done (by kernel_rfl) ?_ _
  go_wp2
  go_ret
  exact ⟨by rw [Hr.out];rfl,kW.trans K5.drew⟩
 have htho:qak s.tasks l.owner=true:=by unfold qak;rw [Hpo.out];simp only [decide_eq_true_eq] at c4;simp;omega
 obtain ⟨kx,tx,ex,htx,-⟩:=qda.1 htho
 have Htx:Hid (tAt s.tasks l.owner=tx):=qdb ex htx
 obtain rfl:po=(kx:Int):=by rw [<- Hpo.out];exact ex
 have hkx:kx < v.t.n:=by have:=qaw htx;rw [hT.out.len] at this;exact this
 have hkxi:(kx:Int) < (v.t.n:Int):=by omega
 have rx:∀ w',Keeps W w'->w'.cell? ⟨bt,ot+kx*14+2,none⟩=some (.int .i64 tx.cpu):=fun w' h=>RT.out kx tx htx w' h
 have Hr:Hid (qaD s k no=(tx.cpu==ta.cpu)):=by show _=_;rw [HE2.out,c3,htho,Htx.out];rfl
 clear htho ex htx Hpo
 go_wp2_with fail
 refine wp_region_held_drew (S:=(fun w'=>Keeps W w')) (by kernel_rfl) ?_ (fun hHeld => ?_)
 ·exact K5.drew
 refine Plan.go [0,1,2,3,4,5,6,7,8,9,10,11,12,13,14,15,16,17,18,19,20,21,22,23,24,25,26] ?_
 iterate 27 (refine qac (by simp only [qab];rfl) (by kernel_rfl) (by exact fun _ _ _ h=>h) (by rfl) (by assumption) (fun w _=>by go_simp;try (with_reducible rfl)) ?_;try simp only [qaa])
 refine Plan.nil ?_
 refine wpAnyH_done (by kernel_rfl) ?_ _
 go_wp2
 go_ret
 exact ⟨by rw [Hr.out];rfl,kW.trans K5.drew⟩
end Go.Proofs.YteagpjlgjfaclaaGreatDoor
