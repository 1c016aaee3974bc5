/-
  Picking, as plain functions, and what holds of them.
-/
import Derived.Test.YteagpjlgjfaclaaGreatDoorPlain1
import Derived.Test.YteagpjlgjfaclaaGreatDoorFixPure
import Derived.Test.YteagpjlgjfaclaaGreatDoorLockAsk
import Derived.Test.YteagpjlgjfaclaaGreatDoorTaskPut
namespace Go.Proofs.YteagpjlgjfaclaaGreatDoor
open Go.RowKit
def dh (a b:ar):Bool:=bN a&&(bN b&&(if a.cls != b.cls then decide (a.cls < b.cls) else iB a b||(iH a b||iG a b)))
theorem zu {t:ar} (h:bN t=true):1 <= t.cls /\ t.cls <= 3:=by
 unfold bN at h
 simp only [Bool.and_eq_true] at h
 exact dq.1 h.1.1.1.1.2
theorem rR {a b:ar}:dh a b=true↔bN a=true /\ bN b=true /\ (a.cls < b.cls∨a.cls=b.cls /\ (a.cls=1 /\ (a.due < b.due∨a.due=b.due /\ a.no < b.no)∨a.cls=2 /\ (b.prio < a.prio∨a.prio=b.prio /\ (a.seq < b.seq∨a.seq=b.seq /\ a.no < b.no))∨a.cls=3 /\ (a.v < b.v∨a.v=b.v /\ a.no < b.no))):=by
 unfold dh
 rw [Bool.and_eq_true,Bool.and_eq_true]
 refine and_congr_right fun ha=>and_congr_right fun hb => ?_
 have ca:=zu ha
 have cb:=zu hb
 by_cases hc:a.cls=b.cls
 ·have e1:(a.cls != b.cls)=false:=by simpa using hc
  rw [e1]
  simp only [Bool.false_eq_true,if_false]
  unfold iB iH iG cq ey gf
  rw [ha,hb,<- hc]
  simp only [Bool.true_and,Bool.or_eq_true,Bool.and_eq_true,beq_iff_eq,decide_eq_true_eq]
  constructor
  ·rintro (⟨⟨h1,-⟩,h2⟩ | ⟨⟨h1,-⟩,h2⟩ | ⟨⟨h1,-⟩,h2⟩)
   ·exact .inr ⟨trivial,.inl ⟨h1,h2⟩⟩
   ·refine .inr ⟨trivial,.inr (.inl ⟨h1,?_⟩)⟩
    by_cases p1:a.prio=b.prio
    ·have q1:(a.prio != b.prio)=false:=by simpa using p1
     rw [q1] at h2
     by_cases p2:a.seq=b.seq
     ·have q2:(a.seq != b.seq)=false:=by simpa using p2
      rw [q2] at h2
      simp at h2
      omega
     ·have q2:(a.seq != b.seq)=true:=by simpa using p2
      rw [q2] at h2
      simp at h2
      omega
    ·have q1:(a.prio != b.prio)=true:=by simpa using p1
     rw [q1] at h2
     simp at h2
     omega
   ·exact .inr ⟨trivial,.inr (.inr ⟨h1,h2⟩)⟩
  ·rintro (h | ⟨-,⟨h1,h2⟩ | ⟨h1,h2⟩ | ⟨h1,h2⟩⟩)
   ·omega
   ·exact .inl ⟨⟨h1,h1⟩,h2⟩
   ·refine .inr (.inl ⟨⟨h1,h1⟩,?_⟩)
    by_cases p1:a.prio=b.prio
    ·have q1:(a.prio != b.prio)=false:=by simpa using p1
     rw [q1]
     by_cases p2:a.seq=b.seq
     ·have q2:(a.seq != b.seq)=false:=by simpa using p2
      rw [q2]
      simp
      omega
     ·have q2:(a.seq != b.seq)=true:=by simpa using p2
      rw [q2]
      simp
      omega
    ·have q1:(a.prio != b.prio)=true:=by simpa using p1
     rw [q1]
     simp
     omega
   ·exact .inr (.inr ⟨⟨h1,h1⟩,h2⟩)
 ·have e1:(a.cls != b.cls)=true:=by simpa using hc
  rw [e1]
  simp only [if_true,decide_eq_true_eq]
  omega
theorem zv (a:ar):dh a a=false:=by
 rw [Bool.eq_false_iff]
 intro h
 have:=rR.1 h
 omega
theorem IB {a b c:ar} (h:dh a b=true) (k:dh b c=true):dh a c=true:=by
 have h1:=rR.1 h
 have h2:=rR.1 k
 exact rR.2 ⟨h1.1,h2.2.1,by omega⟩
def kG (ls:List Lk) (no:Int):List Int:=(cB ls (ls.length+1) no).1
def mv (c:List Int):Int:=c.getD (c.length - 1) 0
def ct (ts:List ar) (x:Int):Bool := !decide (dc ts x < 0)
def ie (ts:List ar) (ls:List Lk) (no:Int):Int:=if (kG ls no).all (ct ts) then mv (kG ls no) else 0
def dB (ts:List ar) (no:Int):ar:=ts.getD (dc ts no).toNat ar.zero
def iS (ts:List ar) (ls:List Lk) (no:Int):Bool:=ie ts ls no != 0&&((dB ts no).st==1&&(dB ts (ie ts ls no)).st==1)
def lu (t:ar):Bool:=t.cls != 1||decide (0 < t.left)
def fO (ts:List ar) (ls:List Lk) (no:Int):Bool:=iS ts ls no&&lu (dB ts no)
def j2 (ts:List ar) (bP:ar->Bool) (at':Int) (k:Nat) (t:ar):Int:=if bP t&&(decide (at' < 0)||dh t (ts.getD at'.toNat ar.zero)) then (k:Int) else at'
def cJ (ts:List ar) (bP:ar->Bool):Nat->Int
 | 0 => -1
 | k+1=>j2 ts bP (cJ ts bP k) k (ts.getD k ar.zero)
def sV (ts:List ar) (ls:List Lk) (cpu:Int) (t:ar):Bool:=t.cpu==cpu&&fO ts ls t.no
def we (xs:List Int) (t:ar):Bool:=hasB xs t.no
def lx (ts:List ar) (ls:List Lk) (cpu:Int):Int:=cJ ts (sV ts ls cpu) ts.length
def ly (ts:List ar) (k:Int):Int:=if k < 0 then 0 else (ts.getD k.toNat ar.zero).no
def j3 (ts:List ar) (xs:List Int):Int:=if dz ts then ly ts (cJ ts (we xs) ts.length) else 0
theorem vV (ls:List Lk) (no:Int):0 < (kG ls no).length:=by
 unfold kG
 simp only [cB]
 split <;> simp
theorem IC (ls:List Lk) (no:Int):(kG ls no)[0]?=some no:=by
 unfold kG
 simp only [cB]
 split <;> simp
theorem vY {c:List Int} (h:0 < c.length):c[c.length - 1]?=some (mv c):=by
 unfold mv
 rw [List.getD_eq_getElem?_getD,List.getElem?_eq_getElem (by omega)]
 rfl
theorem lQ {ts:List ar} {x:Int}:ct ts x=true↔∃ (k:Nat) (t:ar),dc ts x=(k:Int) /\ ts[k]?=some t /\ t.no=x:=by
 unfold ct dc
 split
 ·rename_i i h
  obtain ⟨hi,h1,h2⟩:=List.findIdx?_eq_some_iff_getElem.1 h
  simp only [Bool.not_eq_true',decide_eq_false_iff_not]
  exact ⟨fun _=>⟨i,ts[i],rfl,List.getElem?_eq_getElem hi,by simpa using h1⟩,fun _=>by omega⟩
 ·simp only [Bool.not_eq_true',decide_eq_false_iff_not]
  exact ⟨fun h=>by omega,fun ⟨k,t,h,_⟩=>by omega⟩
theorem lR {ts:List ar} {x:Int} {k:Nat} {t:ar} (h:dc ts x=(k:Int)) (ht:ts[k]?=some t):dB ts x=t:=by
 unfold dB
 rw [h,Int.toNat_natCast,List.getD_eq_getElem?_getD,ht]
 rfl
theorem mz {ts:List ar} {k:Nat} {t:ar} (ht:ts[k]?=some t):ts.getD k ar.zero=t:=by
 rw [List.getD_eq_getElem?_getD,ht];rfl
theorem v9 {ts:List ar} {ls:List Lk} {no:Int} (h:(ie ts ls no != 0)=true):(∀ x∈kG ls no,ct ts x=true) /\ ie ts ls no=mv (kG ls no) /\ ct ts no=true /\ ct ts (ie ts ls no)=true:=by
 unfold ie at h ⊢
 split at h
 ·rename_i h1
  rw [List.all_eq_true] at h1
  refine ⟨h1,by rw [if_pos (by rw [List.all_eq_true];exact h1)],h1 no (List.mem_of_getElem? (IC ls no)),?_⟩
  rw [if_pos (by rw [List.all_eq_true];exact h1)]
  exact h1 _ (List.mem_of_getElem? (vY (vV ls no)))
 ·simp at h
theorem sW (ts:List ar) (bP:ar->Bool):∀ k,-1 <= cJ ts bP k /\ cJ ts bP k < k
 | 0=>by simp [cJ]
 | k+1=>by
  have:=sW ts bP k
  simp only [cJ,j2]
  split <;> omega
theorem zw (ts:List ar) (bP:ar->Bool):∀ k,k <= ts.length->(cJ ts bP k = -1 /\ ∀ (i:Nat) (s:ar),i < k->ts[i]?=some s->bP s=false)∨∃ (j:Nat) (t:ar),cJ ts bP k=(j:Int) /\ j < k /\ ts[j]?=some t /\ bP t=true /\ ∀ (i:Nat) (s:ar),i < k->ts[i]?=some s->bP s=true->dh s t=false
 | 0,_ => .inl ⟨rfl,fun i s h=>by omega⟩
 | k+1,hk=>by
  have ih:=zw ts bP k (by omega)
  have hu:ts[k]?=some ts[k]:=List.getElem?_eq_getElem (by omega)
  simp only [cJ,j2]
  rw [mz hu]
  rcases ih with ⟨e,h⟩ | ⟨j,t,e,hj,ht,hc,h⟩
  ·rw [e]
   cases c:bP ts[k]
   ·refine .inl ⟨by simp,fun i s hi hs => ?_⟩
    by_cases e2:i=k
    ·subst e2;rw [hu] at hs;cases hs;exact c
    ·exact h i s (by omega) hs
   ·refine .inr ⟨k,ts[k],by simp,by omega,hu,c,fun i s hi hs hcs => ?_⟩
    by_cases e2:i=k
    ·subst e2;rw [hu] at hs;cases hs;exact zv _
    ·rw [h i s (by omega) hs] at hcs;cases hcs
  ·rw [e,Int.toNat_natCast,mz ht]
   cases c:bP ts[k]
   ·refine .inr ⟨j,t,by simp,by omega,ht,hc,fun i s hi hs hcs => ?_⟩
    by_cases e2:i=k
    ·subst e2;rw [hu] at hs;cases hs;rw [c] at hcs;cases hcs
    ·exact h i s (by omega) hs hcs
   ·cases hb:dh ts[k] t
    ·have hd:decide ((j:Int) < 0)=false:=by simp
     refine .inr ⟨j,t,by rw [hd];simp,by omega,ht,hc,fun i s hi hs hcs => ?_⟩
     by_cases e2:i=k
     ·subst e2;rw [hu] at hs;cases hs;exact hb
     ·exact h i s (by omega) hs hcs
    ·refine .inr ⟨k,ts[k],by simp,by omega,hu,c,fun i s hi hs hcs => ?_⟩
     by_cases e2:i=k
     ·subst e2;rw [hu] at hs;cases hs;exact zv _
     ·rw [Bool.eq_false_iff]
      intro h3
      have:=h i s (by omega) hs hcs
      rw [IB h3 hb] at this
      cases this
end Go.Proofs.YteagpjlgjfaclaaGreatDoor
