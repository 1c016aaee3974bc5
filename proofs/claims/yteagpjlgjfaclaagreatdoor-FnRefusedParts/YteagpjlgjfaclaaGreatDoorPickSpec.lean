/-
  Picking, as plain functions, and what holds of them.
  Picking: contracts of the model's functions.
-/
import Derived.Test.YteagpjlgjfaclaaGreatDoorFrame
import Derived.Test.YteagpjlgjfaclaaGreatDoorDueSpec
import Derived.Test.YteagpjlgjfaclaaGreatDoorFixSpec
import Derived.Test.YteagpjlgjfaclaaGreatDoorTasksOkS
import Derived.Test.YteagpjlgjfaclaaGreatDoorPlain1
import Derived.Deep.RegionHeld3
namespace Go.Proofs.YteagpjlgjfaclaaGreatDoor
set_option maxRecDepth 100000
open Go.RowKit
def befB (a b:Tsk):Bool:=qah a&&(qah b&&(if a.cls != b.cls then decide (a.cls < b.cls) else qbD a b||(qbG a b||qbE a b)))
theorem qhc {t:Tsk} (h:qah t=true):1 <= t.cls /\ t.cls <= 3:=by
 unfold qah at h
 simp only [Bool.and_eq_true] at h
 exact qas.1 h.1.1.1.1.2
theorem qeJ {a b:Tsk}:befB a b=true↔qah a=true /\ qah b=true /\ (a.cls < b.cls∨a.cls=b.cls /\ (a.cls=1 /\ (a.due < b.due∨a.due=b.due /\ a.no < b.no)∨a.cls=2 /\ (b.prio < a.prio∨a.prio=b.prio /\ (a.seq < b.seq∨a.seq=b.seq /\ a.no < b.no))∨a.cls=3 /\ (a.v < b.v∨a.v=b.v /\ a.no < b.no))):=by
 unfold befB
 rw [Bool.and_eq_true,Bool.and_eq_true]
 refine and_congr_right fun ha=>and_congr_right fun hb => ?_
 have ca:=qhc ha
 have cb:=qhc hb
 by_cases hc:a.cls=b.cls
 ·have e1:(a.cls != b.cls)=false:=by simpa using hc
  rw [e1]
  simp only [Bool.false_eq_true,if_false]
  unfold qbD qbG qbE dueB fixB qbb
  rw [ha,hb,<- hc]
  simp only [Bool.true_and,Bool.or_eq_true,Bool.and_eq_true,beq_iff_eq,decide_eq_true_eq]
  constructor
  ·rintro (⟨⟨h1,-⟩,h2⟩ | ⟨⟨h1,-⟩,h2⟩ | ⟨⟨h1,-⟩,h2⟩)
   ·exact .inr ⟨trivial,.inl ⟨h1,h2⟩⟩
   ·refine .inr ⟨trivial,.inr (.inl ⟨h1,?_⟩)⟩
    by_cases p1:a.prio=b.prio
    ·have q1:(a.prio != b.prio)=false:=by simpa using p1
     rw [q1] at h2
     by_cases p2:a.seq=b.seq
     ·have q2:(a.seq != b.seq)=false:=by simpa using p2
      rw [q2] at h2
      simp at h2
      omega
     ·have q2:(a.seq != b.seq)=true:=by simpa using p2
      rw [q2] at h2
      simp at h2
      omega
    ·have q1:(a.prio != b.prio)=true:=by simpa using p1
     rw [q1] at h2
     simp at h2
     omega
   ·exact .inr ⟨trivial,.inr (.inr ⟨h1,h2⟩)⟩
  ·rintro (h | ⟨-,⟨h1,h2⟩ | ⟨h1,h2⟩ | ⟨h1,h2⟩⟩)
   ·omega
   ·exact .inl ⟨⟨h1,h1⟩,h2⟩
   ·refine .inr (.inl ⟨⟨h1,h1⟩,?_⟩)
    by_cases p1:a.prio=b.prio
    ·have q1:(a.prio != b.prio)=false:=by simpa using p1
     rw [q1]
     by_cases p2:a.seq=b.seq
     ·have q2:(a.seq != b.seq)=false:=by simpa using p2
      rw [q2]
      simp
      omega
     ·have q2:(a.seq != b.seq)=true:=by simpa using p2
      rw [q2]
      simp
      omega
    ·have q1:(a.prio != b.prio)=true:=by simpa using p1
     rw [q1]
     simp
     omega
   ·exact .inr (.inr ⟨⟨h1,h1⟩,h2⟩)
 ·have e1:(a.cls != b.cls)=true:=by simpa using hc
  rw [e1]
  simp only [if_true,decide_eq_true_eq]
  omega
theorem qhd (a:Tsk):befB a a=false:=by
 rw [Bool.eq_false_iff]
 intro h
 have:=qeJ.1 h
 omega
theorem qlN {a b c:Tsk} (h:befB a b=true) (k:befB b c=true):befB a c=true:=by
 have h1:=qeJ.1 h
 have h2:=qeJ.1 k
 exact qeJ.2 ⟨h1.1,h2.2.1,by omega⟩
def qcu (ls:List Lk) (no:Int):List Int:=(qap ls (ls.length+1) no).1
def qds (c:List Int):Int:=c.getD (c.length - 1) 0
def qak (ts:List Tsk) (x:Int):Bool := !decide (qau ts x < 0)
def qbB (ts:List Tsk) (ls:List Lk) (no:Int):Int:=if (qcu ls no).all (qak ts) then qds (qcu ls no) else 0
def tAt (ts:List Tsk) (no:Int):Tsk:=ts.getD (qau ts no).toNat Tsk.zero
def qbV (ts:List Tsk) (ls:List Lk) (no:Int):Bool:=qbB ts ls no != 0&&((tAt ts no).st==1&&(tAt ts (qbB ts ls no)).st==1)
def mayB (t:Tsk):Bool:=t.cls != 1||decide (0 < t.left)
def canB (ts:List Tsk) (ls:List Lk) (no:Int):Bool:=qbV ts ls no&&mayB (tAt ts no)
def topS (ts:List Tsk) (cand:Tsk->Bool) (at':Int) (k:Nat) (t:Tsk):Int:=if cand t&&(decide (at' < 0)||befB t (ts.getD at'.toNat Tsk.zero)) then (k:Int) else at'
def topN (ts:List Tsk) (cand:Tsk->Bool):Nat->Int
 | 0 => -1
 | k+1=>topS ts cand (topN ts cand k) k (ts.getD k Tsk.zero)
def qfv (ts:List Tsk) (ls:List Lk) (cpu:Int) (t:Tsk):Bool:=t.cpu==cpu&&canB ts ls t.no
def qhe (xs:List Int) (t:Tsk):Bool:=hasB xs t.no
def qcN (ts:List Tsk) (ls:List Lk) (cpu:Int):Int:=topN ts (qfv ts ls cpu) ts.length
def noAt (ts:List Tsk) (k:Int):Int:=if k < 0 then 0 else (ts.getD k.toNat Tsk.zero).no
def qcm (ts:List Tsk) (xs:List Int):Int:=if qav ts then noAt ts (topN ts (qhe xs) ts.length) else 0
theorem qhf (ls:List Lk) (no:Int):0 < (qcu ls no).length:=by
 unfold qcu
 simp only [qap]
 split <;> simp
theorem qlO (ls:List Lk) (no:Int):(qcu ls no)[0]?=some no:=by
 unfold qcu
 simp only [qap]
 split <;> simp
theorem qhg {c:List Int} (h:0 < c.length):c[c.length - 1]?=some (qds c):=by
 unfold qds
 rw [List.getD_eq_getElem?_getD,List.getElem?_eq_getElem (by omega)]
 rfl
theorem qda {ts:List Tsk} {x:Int}:qak ts x=true↔∃ (k:Nat) (t:Tsk),qau ts x=(k:Int) /\ ts[k]?=some t /\ t.no=x:=by
 unfold qak qau
 split
 ·rename_i i h
  obtain ⟨hi,h1,h2⟩:=List.findIdx?_eq_some_iff_getElem.1 h
  simp only [Bool.not_eq_true',decide_eq_false_iff_not]
  exact ⟨fun _=>⟨i,ts[i],rfl,List.getElem?_eq_getElem hi,by simpa using h1⟩,fun _=>by omega⟩
 ·simp only [Bool.not_eq_true',decide_eq_false_iff_not]
  exact ⟨fun h=>by omega,fun ⟨k,t,h,_⟩=>by omega⟩
theorem qdb {ts:List Tsk} {x:Int} {k:Nat} {t:Tsk} (h:qau ts x=(k:Int)) (ht:ts[k]?=some t):tAt ts x=t:=by
 unfold tAt
 rw [h,Int.toNat_natCast,List.getD_eq_getElem?_getD,ht]
 rfl
theorem qdt {ts:List Tsk} {k:Nat} {t:Tsk} (ht:ts[k]?=some t):ts.getD k Tsk.zero=t:=by
 rw [List.getD_eq_getElem?_getD,ht];rfl
theorem qhh {ts:List Tsk} {ls:List Lk} {no:Int} (h:(qbB ts ls no != 0)=true):(∀ x∈qcu ls no,qak ts x=true) /\ qbB ts ls no=qds (qcu ls no) /\ qak ts no=true /\ qak ts (qbB ts ls no)=true:=by
 unfold qbB at h ⊢
 split at h
 ·rename_i h1
  rw [List.all_eq_true] at h1
  refine ⟨h1,by rw [if_pos (by rw [List.all_eq_true];exact h1)],h1 no (List.mem_of_getElem? (qlO ls no)),?_⟩
  rw [if_pos (by rw [List.all_eq_true];exact h1)]
  exact h1 _ (List.mem_of_getElem? (qhg (qhf ls no)))
 ·simp at h
theorem qfw (ts:List Tsk) (cand:Tsk->Bool):∀ k,-1 <= topN ts cand k /\ topN ts cand k < k
 | 0=>by simp [topN]
 | k+1=>by
  have:=qfw ts cand k
  simp only [topN,topS]
  split <;> omega
theorem qhi (ts:List Tsk) (cand:Tsk->Bool):∀ k,k <= ts.length->(topN ts cand k = -1 /\ ∀ (i:Nat) (s:Tsk),i < k->ts[i]?=some s->cand s=false)∨∃ (j:Nat) (t:Tsk),topN ts cand k=(j:Int) /\ j < k /\ ts[j]?=some t /\ cand t=true /\ ∀ (i:Nat) (s:Tsk),i < k->ts[i]?=some s->cand s=true->befB s t=false
 | 0,_ => .inl ⟨rfl,fun i s h=>by omega⟩
 | k+1,hk=>by
  have ih:=qhi ts cand k (by omega)
  have hu:ts[k]?=some ts[k]:=List.getElem?_eq_getElem (by omega)
  simp only [topN,topS]
  rw [qdt hu]
  rcases ih with ⟨e,h⟩ | ⟨j,t,e,hj,ht,hc,h⟩
  ·rw [e]
   cases c:cand ts[k]
   ·refine .inl ⟨by simp,fun i s hi hs => ?_⟩
    by_cases e2:i=k
    ·subst e2;rw [hu] at hs;cases hs;exact c
    ·exact h i s (by omega) hs
   ·refine .inr ⟨k,ts[k],by simp,by omega,hu,c,fun i s hi hs hcs => ?_⟩
    by_cases e2:i=k
    ·subst e2;rw [hu] at hs;cases hs;exact qhd _
    ·rw [h i s (by omega) hs] at hcs;cases hcs
  ·rw [e,Int.toNat_natCast,qdt ht]
   cases c:cand ts[k]
   ·refine .inr ⟨j,t,by simp,by omega,ht,hc,fun i s hi hs hcs => ?_⟩
    by_cases e2:i=k
    ·subst e2;rw [hu] at hs;cases hs;rw [c] at hcs;cases hcs
    ·exact h i s (by omega) hs hcs
   ·cases hb:befB ts[k] t
    ·have hd:decide ((j:Int) < 0)=false:=by simp
     refine .inr ⟨j,t,by rw [hd];simp,by omega,ht,hc,fun i s hi hs hcs => ?_⟩
     by_cases e2:i=k
     ·subst e2;rw [hu] at hs;cases hs;exact hb
     ·exact h i s (by omega) hs hcs
    ·refine .inr ⟨k,ts[k],by simp,by omega,hu,c,fun i s hi hs hcs => ?_⟩
     by_cases e2:i=k
     ·subst e2;rw [hu] at hs;cases hs;exact qhd _
     ·rw [Bool.eq_false_iff]
      intro h3
      have:=h i s (by omega) hs hcs
      rw [qlN h3 hb] at this
      cases this
end Go.Proofs.YteagpjlgjfaclaaGreatDoor
namespace Go.Proofs.YteagpjlgjfaclaaGreatDoor
set_option maxRecDepth 100000
open Go.RowKit
attribute [local go_sem] Keeps.refl Keeps.alloc Keeps.drew Keeps.drewN
set_option maxHeartbeats 2000000 in
theorem qdc (a b:Tsk) (w:World) :
  Calls Tryz.prog 183 #[tk a,tk b] w fun e w'=>e = .returned (.bool (befB a b)) /\ Keeps w w':=by
 go_enter Tryz.func183,Tryz.ntmps183
 go_wp2_with fail
 have kW:Keeps w ((w.alloc (.cells (tc a) 43)).alloc (.cells (tc b) 43)):=((Keeps.refl w).alloc _).alloc _
 have r1:∀ w',Keeps ((w.alloc (.cells (tc a) 43)).alloc (.cells (tc b) 43)) w'->∀ k,w'.cell? ⟨w.heap.size,k,none⟩=(tc a)[k]?:=fun w' h=>(((Blk.new w (tc a) 43).alloc _).keeps h).cells
 have r2:∀ w',Keeps ((w.alloc (.cells (tc a) 43)).alloc (.cells (tc b) 43)) w'->∀ k,w'.cell? ⟨w.heap.size+1,k,none⟩=(tc b)[k]?:=fun w' h=>by
  have:=(Blk.new (w.alloc (.cells (tc a) 43)) (tc b) 43).keeps h
  simp only [World.size_alloc] at this
  exact this.cells
 generalize (w.alloc (.cells (tc a) 43)).alloc (.cells (tc b) 43)=W at *
 refine (qcC a _).mono ?_
 rintro e w1 ⟨rfl,k1⟩
 cases ha:qah a
 ·have Hr:Hid (befB a b=false):=by show _=_;simp [befB,ha]
  go_wp2
  go_ret
  exact ⟨by rw [Hr.out];rfl,kW.trans k1⟩
 ·go_wp2_with fail
  refine (qcC b _).mono ?_
  rintro e w2 ⟨rfl,k2⟩
  have K2:=k1.trans k2
  cases hb:qah b
  ·have Hr:Hid (befB a b=false):=by show _=_;simp [befB,hb]
   go_wp2
   go_ret
   exact ⟨by rw [Hr.out];rfl,kW.trans K2⟩
  ·cases hc:(a.cls != b.cls)
   ·have Hr:Hid (befB a b=(qbD a b||(qbG a b||qbE a b))):=by show _=_;unfold befB;rw [ha,hb,hc];rfl
    go_wp2_with fail
    refine (qiJ a b _).mono ?_
    rintro e w3 ⟨rfl,k3⟩
    have K3:=K2.trans k3
    cases h1:qbD a b
    ·go_wp2_with fail
     refine (qjq a b _).mono ?_
     rintro e w4 ⟨rfl,k4⟩
     have K4:=K3.trans k4
     cases h2:qbG a b
     ·go_wp2_with fail
      refine (qji a b _).mono ?_
      rintro e w5 ⟨rfl,k5⟩
      have K5:=K4.trans k5
      have Hr2:Hid (befB a b=qbE a b):=by show _=_;rw [Hr.out,h1,h2];rfl
      go_wp2
      go_ret
      exact ⟨by rw [Hr2.out];rfl,kW.trans K5⟩
     ·have Hr2:Hid (befB a b=true):=by show _=_;rw [Hr.out,h1,h2];rfl
      go_wp2
      go_ret
      exact ⟨by rw [Hr2.out];rfl,kW.trans K4⟩
    ·have Hr2:Hid (befB a b=true):=by show _=_;rw [Hr.out,h1];rfl
     go_wp2
     go_ret
     exact ⟨by rw [Hr2.out];rfl,kW.trans K3⟩
   ·have Hr:Hid (befB a b=decide (a.cls < b.cls)):=by show _=_;unfold befB;rw [ha,hb,hc];rfl
    go_wp2
    go_ret
    exact ⟨by rw [Hr.out];rfl,kW.trans K2⟩
structure OnT (w:World) (a:Option Addr) (n cap:Nat) (ts:List Tsk):Prop where
 len:ts.length=n
 small:ts.length <= maxLen
 lies:Ts w a ts
section calls
variable {w w':World} {a:Option Addr} {n cap:Nat} {ts:List Tsk}
theorem OnT.keeps (h:OnT w a n cap ts) (k:Keeps w w'):OnT w' a n cap ts:=⟨h.len,h.small,h.lies.keeps k⟩
theorem OnT.sTaskAt (h:OnT w a n cap ts) (x:Int) {z:Int} (hz:qau ts x=z) (k:Keeps w w'):Calls Tryz.prog 71 #[.slice a n cap,.int .i64 x] w' fun e w''=>e = .returned (.int .i64 z) /\ Keeps w' w'':=by
 have:=qmw a cap ts x w' h.small (h.keeps k).lies
 rw [h.len,hz] at this
 exact this
theorem OnT.sTasksOk (h:OnT w a n cap ts) {z:Bool} (hz:qav ts=z) (k:Keeps w w'):Calls Tryz.prog 28 #[.slice a n cap] w' fun e w''=>e = .returned (.bool z) /\ Keeps w' w'':=by
 have:=qdW a cap ts w' h.small (h.keeps k).lies
 rw [h.len,hz] at this
 exact this
theorem OnT.all (h:OnT w a n cap ts) (hn:0 < n):∃ b off,a=some ⟨b,off,none⟩ /\ ∀ (i:Nat) (t:Tsk),ts[i]?=some t->(∀ w',Keeps w w'->w'.cell? ⟨b,off+i*14,none⟩=some (.int .i64 t.no)) /\ ∀ w',Keeps w w'->∀ k,k < 14->w'.cell? ⟨b,off+i*14+k,none⟩=(tc t)[k]?:=by
 obtain ⟨t0,h0⟩:=qbP (xs:=ts) (k:=0) (by rw [h.len];exact hn)
 obtain ⟨b,off,rfl,-,-⟩:=h.lies.at h0 (by omega)
 refine ⟨b,off,rfl,fun i t ht => ?_⟩
 obtain ⟨b',off',e,r0,r1⟩:=h.lies.at ht (by omega)
 simp only [Option.some.injEq,Addr.mk.injEq] at e
 obtain ⟨rfl,rfl,-⟩:=e
 exact ⟨r0,r1⟩
end calls
end Go.Proofs.YteagpjlgjfaclaaGreatDoor
