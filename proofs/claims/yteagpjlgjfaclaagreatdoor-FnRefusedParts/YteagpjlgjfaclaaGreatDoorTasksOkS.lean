/-
  A list of tasks: the contract of the model's TasksOk.
-/
import Derived.Test.YteagpjlgjfaclaaGreatDoorTaskList
namespace Go.Proofs.YteagpjlgjfaclaaGreatDoor
set_option maxRecDepth 100000
open Go.RowKit
attribute [local go_sem] Keeps.refl Keeps.alloc Keeps.drew Keeps.drewN
def ascB:List Tsk->Bool
 | a::b::r=>decide (a.no < b.no)&&ascB (b::r)
 | _=>true
theorem qfJ (ts:List Tsk):ascB ts=true↔∀ j a b,ts[j]?=some a->ts[j+1]?=some b->a.no < b.no:=by
 induction ts with
 | nil=>simp [ascB]
 | cons x r ih =>
  cases r with
  | nil=>simp [ascB]
  | cons y r =>
   simp only [ascB,Bool.and_eq_true,decide_eq_true_eq,ih]
   constructor
   ·rintro ⟨h1,h2⟩ j a b ha hb
    cases j with
    | zero=>simp at ha hb;subst ha hb;exact h1
    | succ j=>exact h2 j a b (by simpa using ha) (by simpa using hb)
   ·intro h
    exact ⟨h 0 x y rfl rfl,fun j a b ha hb=>h (j+1) a b (by simpa using ha) (by simpa using hb)⟩
def qav (ts:List Tsk):Bool:=ts.all qah&&ascB ts&&decide (ts.length <= 12)
theorem qhS {ts:List Tsk} {k:Nat} {t:Tsk} (h:ts[k]?=some t) (ht:qah t=false):qav ts=false:=by
 have:ts.all qah=false:=by
  rw [List.all_eq_false]
  exact ⟨t,List.mem_of_getElem? h,by simp [ht]⟩
 simp [qav,this]
theorem qhT {ts:List Tsk} {k:Nat} {s t:Tsk} (hs:ts[k]?=some s) (ht:ts[k+1]?=some t) (h:t.no <= s.no):qav ts=false:=by
 have:ascB ts=false:=by
  rw [Bool.eq_false_iff]
  intro e
  have:=(qfJ ts).1 e k s t hs ht
  omega
 simp [qav,this]
theorem qhU {ts:List Tsk} (h1:∀ (j:Nat) (t:Tsk),ts[j]?=some t->qah t=true) (h2:∀ (j:Nat) (a b:Tsk),ts[j]?=some a->ts[j+1]?=some b->a.no < b.no):qav ts=decide (ts.length <= 12):=by
 have e1:ts.all qah=true:=by
  rw [List.all_eq_true]
  intro t ht
  obtain ⟨j,hj,rfl⟩:=List.mem_iff_getElem.1 ht
  exact h1 j _ (List.getElem?_eq_getElem hj)
 simp [qav,e1,(qfJ ts).2 h2]
set_option maxHeartbeats 4000000 in
theorem qdW (a:Option Addr) (cap:Nat) (ts:List Tsk) (w:World) (hl:ts.length <= maxLen) (hs:Ts w a ts) :
  Calls Tryz.prog 28 #[.slice a ts.length cap] w fun e w'=>e = .returned (.bool (qav ts)) /\ Keeps w w':=by
 unfold maxLen at hl
 generalize hn:ts.length=n at hl
 have Hn:Hid (ts.length=n):=hn
 clear hn
 go_enter Tryz.func28,Tryz.ntmps28
 go_wp2
 go_loopw [3] (fun i wr=>∃ k:Nat,k <= n /\ i = .int .i64 k /\ Keeps w wr /\ Hid (∀ j t,j < k->ts[j]?=some t->qah t=true) /\ Hid (∀ j s t,j+1 < k->ts[j]?=some s->ts[j+1]?=some t->s.no < t.no)) (fun i _=>n - (intOf i).toNat)
 case atStart=>exact ⟨0,Nat.zero_le _,rfl,Keeps.refl _,fun j t hj=>by omega,fun j s t hj=>by omega⟩
 case round =>
  obtain ⟨k,hk,rfl,hK,H1,H2⟩:=hrel
  by_cases hlt:k < n
  ·obtain ⟨t,ht⟩:=qbP (xs:=ts) (k:=k) (by rw [Hn.out];exact hlt)
   have hlt':(k:Int) < (n:Int):=by omega
   have Ht:Hid (ts[k]?=some t):=ht
   cases hb:qah t
   ·obtain ⟨b,off,rfl,r0,r1⟩:=hs.at ht (by omega)
    have Hr:Hid (qav ts=false):=qhS ht hb
    clear hs ht
    go_wp2
    refine wp_region_held_drew (S:=(fun w'=>Keeps w w')) (by kernel_rfl) ?_ (fun hHeld => ?_)
    ·exact Keeps.drew (by assumption)
    refine Plan.go [0,1,2,3] ?_
    iterate 4 (refine qac (by simp only [qab];rfl) (by kernel_rfl) (by exact fun _ _ _ h=>h) (by rfl) (by assumption) (fun w _=>by go_simp;try (with_reducible rfl)) ?_;try simp only [qaa])
    refine Plan.nil ?_
    refine qad 4 (by kernel_rfl) (by simp only [qab];rfl) (fun K hK => ?_)
    go_simp
    first
     | (go_at_call 69;refine (qcC t _).mono ?_;rintro e w' ⟨rfl,hkk⟩;rw [hb])
    try go_wp2_with fail
    refine hK.out _ _ ?_ (fun hHeld => ?_)
    ·exact Keeps.trans (by assumption) (by assumption)
    clear hK K
    try simp only [qaa]
    refine Plan.go [5,6] ?_
    iterate 2 (refine qac (by simp only [qab];rfl) (by kernel_rfl) (by exact fun _ _ _ h=>h) (by rfl) (by assumption) (fun w _=>by go_simp;try (with_reducible rfl)) ?_;try simp only [qaa])
    refine Plan.nil ?_
    refine Plan.go [7,8,9,10,11,12,13,14,15,16,17,18,19,20,21,22] ?_
    iterate 16 (refine qaA (by simp only [qab];rfl) (by kernel_rfl) (by exact fun _ _ _ h=>h) (by rfl) (by assumption) ?_;try simp only [qaa])
    refine Plan.nil ?_
    refine qar 23 (v := ?_) (by simp only [qab];rfl) (by kernel_rfl) (by exact fun _ _ _ h=>h) (by rfl) (by assumption) ?_ ?_
    rotate_left
    ·(intro w _;go_simp;try (with_reducible rfl))
    try simp only [qaa]
    refine wpAnyH_done (by kernel_rfl) ?_ _
    go_wp2
    go_ret
    exact ⟨by rw [Hr.out];rfl,by assumption⟩
   ·rcases Nat.eq_zero_or_pos k with h0 | h0
    ·obtain ⟨b,off,rfl,r0,r1⟩:=hs.at ht (by omega)
     have hz:decide (0 < k)=false:=by simp;omega
     have H0:Hid (k=0):=h0
     clear hs ht h0
     go_wp2
     refine wp_region_held_drew (S:=(fun w'=>Keeps w w')) (by kernel_rfl) ?_ (fun hHeld => ?_)
     ·exact Keeps.drew (by assumption)
     refine Plan.go [0,1,2,3] ?_
     iterate 4 (refine qac (by simp only [qab];rfl) (by kernel_rfl) (by exact fun _ _ _ h=>h) (by rfl) (by assumption) (fun w _=>by go_simp;try (with_reducible rfl)) ?_;try simp only [qaa])
     refine Plan.nil ?_
     refine qad 4 (by kernel_rfl) (by simp only [qab];rfl) (fun K hK => ?_)
     go_simp
     first
      | (go_at_call 69;refine (qcC t _).mono ?_;rintro e w' ⟨rfl,hkk⟩;rw [hb])
     try go_wp2_with fail
     refine hK.out _ _ ?_ (fun hHeld => ?_)
     ·exact Keeps.trans (by assumption) (by assumption)
     clear hK K
     try simp only [qaa]
     refine Plan.go [5,6,7,8,9] ?_
     iterate 5 (refine qac (by simp only [qab];rfl) (by kernel_rfl) (by exact fun _ _ _ h=>h) (by rfl) (by assumption) (fun w _=>by go_simp;try (with_reducible rfl)) ?_;try simp only [qaa])
     refine Plan.nil ?_
     refine Plan.go [10,11,12,13,14,15,16,17,18,19,20,21] ?_
     iterate 12 (refine qaA (by simp only [qab];rfl) (by kernel_rfl) (by exact fun _ _ _ h=>h) (by rfl) (by assumption) ?_;try simp only [qaa])
     refine Plan.nil ?_
     refine Plan.go [22,23] ?_
     iterate 2 (refine qac (by simp only [qab];rfl) (by kernel_rfl) (by exact fun _ _ _ h=>h) (by rfl) (by assumption) (fun w _=>by go_simp;try (with_reducible rfl)) ?_;try simp only [qaa])
     refine Plan.nil ?_
     refine wpAnyH_done (by kernel_rfl) ?_ _
     go_wp2
     exact ⟨⟨k+1,by omega,by go_num,by assumption,fun j s hj hjs=>by
      obtain rfl:j=k:=by have:=H0.out;omega
      rw [Ht.out] at hjs;cases hjs;exact hb,fun j s u hj=>by have:=H0.out;omega⟩,by simp only [intOf];omega⟩
    ·obtain ⟨m,hm⟩:∃ m,k=m+1:=⟨k - 1,by omega⟩
     obtain ⟨s,hs1⟩:=qbP (xs:=ts) (k:=m) (by rw [Hn.out];omega)
     obtain ⟨b,off,rfl,r0,r1⟩:=hs.at ht (by omega)
     obtain ⟨b',off',e',q0,q1⟩:=hs.at hs1 (by omega)
     simp only [Option.some.injEq,Addr.mk.injEq] at e'
     obtain ⟨rfl,rfl,-⟩:=e'
     have Hs:Hid (ts[m]?=some s):=hs1
     have hk1:(m:Int) < (n:Int):=by omega
     have hp:0 < k:=h0
     have hm1:(k:Int) - 1=(m:Int):=by omega
     have hw:IntKind.i64.wrap (m:Int)=(m:Int):=Go.IntWalk.i64_in _ (by omega)
     have Hm:Hid (k=m+1):=hm
     clear hs ht hs1 q1 hm h0
     cases hd:decide (t.no <= s.no)
     ·go_wp2
      refine wp_region_held_drew (S:=(fun w'=>Keeps w w')) (by kernel_rfl) ?_ (fun hHeld => ?_)
      ·exact Keeps.drew (by assumption)
      refine Plan.go [0,1,2,3] ?_
      iterate 4 (refine qac (by simp only [qab];rfl) (by kernel_rfl) (by exact fun _ _ _ h=>h) (by rfl) (by assumption) (fun w _=>by go_simp;try (with_reducible rfl)) ?_;try simp only [qaa])
      refine Plan.nil ?_
      refine qad 4 (by kernel_rfl) (by simp only [qab];rfl) (fun K hK => ?_)
      go_simp
      first
       | (go_at_call 69;refine (qcC t _).mono ?_;rintro e w' ⟨rfl,hkk⟩;rw [hb])
      try go_wp2_with fail
      refine hK.out _ _ ?_ (fun hHeld => ?_)
      ·exact Keeps.trans (by assumption) (by assumption)
      clear hK K
      try simp only [qaa]
      refine Plan.go [5,6,7,8,9,10,11,12,13,14,15,16,17,18,19,20,21,22,23] ?_
      iterate 19 (refine qac (by simp only [qab];rfl) (by kernel_rfl) (by exact fun _ _ _ h=>h) (by rfl) (by assumption) (fun w _=>by go_simp;try (with_reducible rfl)) ?_;try simp only [qaa])
      refine Plan.nil ?_
      refine wpAnyH_done (by kernel_rfl) ?_ _
      go_wp2
      exact ⟨⟨k+1,by omega,by go_num,by assumption,fun j x hj hjx=>by
       by_cases e:j=k
       ·subst e;rw [Ht.out] at hjx;cases hjx;exact hb
       ·exact H1.out j x (by omega) hjx,fun j x y hj hx hy=>by
       have hk:=Hm.out
       by_cases e:j=m
       ·subst e;rw [<- hk] at hy;rw [Hs.out] at hx;rw [Ht.out] at hy;cases hx;cases hy
        have:=of_decide_eq_false hd;omega
       ·exact H2.out j x y (by omega) hx hy⟩,by simp only [intOf];omega⟩
     ·have Hr:Hid (qav ts=false):=qhT Hs.out (by rw [<- Hm.out];exact Ht.out) (of_decide_eq_true hd)
      go_wp2
      refine wp_region_held_drew (S:=(fun w'=>Keeps w w')) (by kernel_rfl) ?_ (fun hHeld => ?_)
      ·exact Keeps.drew (by assumption)
      refine Plan.go [0,1,2,3] ?_
      iterate 4 (refine qac (by simp only [qab];rfl) (by kernel_rfl) (by exact fun _ _ _ h=>h) (by rfl) (by assumption) (fun w _=>by go_simp;try (with_reducible rfl)) ?_;try simp only [qaa])
      refine Plan.nil ?_
      refine qad 4 (by kernel_rfl) (by simp only [qab];rfl) (fun K hK => ?_)
      go_simp
      first
       | (go_at_call 69;refine (qcC t _).mono ?_;rintro e w' ⟨rfl,hkk⟩;rw [hb])
      try go_wp2_with fail
      refine hK.out _ _ ?_ (fun hHeld => ?_)
      ·exact Keeps.trans (by assumption) (by assumption)
      clear hK K
      try simp only [qaa]
      refine Plan.go [5,6,7,8,9,10,11,12,13,14,15,16,17,18,19,20,21,22,23] ?_
      iterate 19 (refine qac (by simp only [qab];rfl) (by kernel_rfl) (by exact fun _ _ _ h=>h) (by rfl) (by assumption) (fun w _=>by go_simp;try (with_reducible rfl)) ?_;try simp only [qaa])
      refine Plan.nil ?_
      refine wpAnyH_done (by kernel_rfl) ?_ _
      go_wp2
      go_ret
      exact ⟨by rw [Hr.out];rfl,by assumption⟩
  ·have Hr:Hid (qav ts=decide (n <= 12)):=by
    show _=_
    rw [<- Hn.out]
    have hh:∀ (j:Nat) (t:Tsk),ts[j]?=some t->j < k:=fun j t h=>by
     rcases Nat.lt_or_ge j ts.length with h' | h'
     ·have:=Hn.out;omega
     ·simp [List.getElem?_eq_none h'] at h
    exact qhU (fun j t h=>H1.out j t (hh j t h) h) (fun j s t h1 h2=>H2.out j s t (hh _ t h2) h1 h2)
   by_cases h12:n <= 12
   ·have hd:decide ((n:Int) <= 12)=true:=by simp;omega
    go_wp2
    go_ret
    exact ⟨by rw [Hr.out];simp [h12],hK⟩
   ·have hd:decide ((n:Int) <= 12)=false:=by simp;omega
    go_wp2
    go_ret
    exact ⟨by rw [Hr.out];simp [h12],hK⟩
end Go.Proofs.YteagpjlgjfaclaaGreatDoor
