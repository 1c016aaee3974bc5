/-
  A list of tasks: the contract of the model's TasksOk. A tas
-/
import Derived.Test.YthpdlbcdbncnhaaGreatDoorGTask2
import Derived.Test.YthpdlbcdbncnhaaGreatDoorGBase1
import Derived.Test.YthpdlbcdbncnhaaGreatDoorGTask1
import Derived.Laws.StructEq
import Derived.Test.YthpdlbcdbncnhaaGreatDoorGBase2
import Derived.Deep.SlicePairs
namespace Go.Proofs.YthpdlbcdbncnhaaGreatDoor
set_option maxRecDepth 100000
open Go.RowKit
attribute [local go_sem] Keeps.refl Keeps.alloc Keeps.drew Keeps.drewN
def ascB:List Tsk->Bool
 | a::b::r=>decide (a.no < b.no)&&ascB (b::r)
 | _=>true
theorem qgs (ts:List Tsk):ascB ts=true↔∀ j a b,ts[j]?=some a->ts[j+1]?=some b->a.no < b.no:=by
 induction ts with
 | nil=>simp [ascB]
 | cons x r ih =>
  cases r with
  | nil=>simp [ascB]
  | cons y r =>
   simp only [ascB,Bool.and_eq_true,decide_eq_true_eq,ih]
   constructor
   ·rintro ⟨h1,h2⟩ j a b ha hb
    cases j with
    | zero=>simp at ha hb;subst ha hb;exact h1
    | succ j=>exact h2 j a b (by simpa using ha) (by simpa using hb)
   ·intro h
    exact ⟨h 0 x y rfl rfl,fun j a b ha hb=>h (j+1) a b (by simpa using ha) (by simpa using hb)⟩
def qao (ts:List Tsk):Bool:=ts.all qae&&ascB ts&&decide (ts.length <= 12)
theorem qiU {ts:List Tsk} {k:Nat} {t:Tsk} (h:ts[k]?=some t) (ht:qae t=false):qao ts=false:=by
 have:ts.all qae=false:=by
  rw [List.all_eq_false]
  exact ⟨t,List.mem_of_getElem? h,by simp [ht]⟩
 simp [qao,this]
theorem qiV {ts:List Tsk} {k:Nat} {s t:Tsk} (hs:ts[k]?=some s) (ht:ts[k+1]?=some t) (h:t.no <= s.no):qao ts=false:=by
 have:ascB ts=false:=by
  rw [Bool.eq_false_iff]
  intro e
  have:=(qgs ts).1 e k s t hs ht
  omega
 simp [qao,this]
theorem qiW {ts:List Tsk} (h1:∀ (j:Nat) (t:Tsk),ts[j]?=some t->qae t=true) (h2:∀ (j:Nat) (a b:Tsk),ts[j]?=some a->ts[j+1]?=some b->a.no < b.no):qao ts=decide (ts.length <= 12):=by
 have e1:ts.all qae=true:=by
  rw [List.all_eq_true]
  intro t ht
  obtain ⟨j,hj,rfl⟩:=List.mem_iff_getElem.1 ht
  exact h1 j _ (List.getElem?_eq_getElem hj)
 simp [qao,e1,(qgs ts).2 h2]
set_option maxHeartbeats 4000000 in
theorem qen (a:Option Addr) (cap:Nat) (ts:List Tsk) (w:World) (hl:ts.length <= maxLen) (hs:Ts w a ts) :
  Calls Tryz.prog 70 #[.slice a ts.length cap] w fun e w'=>e = .returned (.bool (qao ts)) /\ Keeps w w':=by
 unfold maxLen at hl
 generalize hn:ts.length=n at hl
 have Hn:Hid (ts.length=n):=hn
 clear hn
 go_enter Tryz.func70,Tryz.ntmps70
 go_wp2
 go_loopw [3] (fun i wr=>∃ k:Nat,k <= n /\ i = .int .i64 k /\ Keeps w wr /\ Hid (∀ j t,j < k->ts[j]?=some t->qae t=true) /\ Hid (∀ j s t,j+1 < k->ts[j]?=some s->ts[j+1]?=some t->s.no < t.no)) (fun i _=>n - (intOf i).toNat)
 case atStart=>exact ⟨0,Nat.zero_le _,rfl,Keeps.refl _,fun j t hj=>by omega,fun j s t hj=>by omega⟩
 case round =>
  obtain ⟨k,hk,rfl,hK,H1,H2⟩:=hrel
  by_cases hlt:k < n
  ·obtain ⟨t,ht⟩:=qbB (xs:=ts) (k:=k) (by rw [Hn.out];exact hlt)
   have hlt':(k:Int) < (n:Int):=by omega
   have Ht:Hid (ts[k]?=some t):=ht
   cases hb:qae t
   ·obtain ⟨b,off,rfl,r0,r1⟩:=hs.at ht (by omega)
    have Hr:Hid (qao ts=false):=qiU ht hb
    clear hs ht
    go_wp2
    refine wp_region_held_drew (S:=(fun w'=>Keeps w w')) (by kernel_rfl) ?_ (fun hHeld => ?_)
    ·exact Keeps.drew (by assumption)
    refine Plan.go [0,1,2,3] ?_
    iterate 4 (refine qac (by simp only [qab];rfl) (by kernel_rfl) (by exact fun _ _ _ h=>h) (by rfl) (by assumption) (fun w _=>by go_simp;try (with_reducible rfl)) ?_;try simp only [qaa])
    refine Plan.nil ?_
    refine qad 4 (by kernel_rfl) (by simp only [qab];rfl) (fun K hK => ?_)
    go_simp
    first
     | (go_at_call 109;refine (qcT t _).mono ?_;rintro e w' ⟨rfl,hkk⟩;rw [hb])
    try go_wp2_with fail
    refine hK.out _ _ ?_ (fun hHeld => ?_)
    ·exact Keeps.trans (by assumption) (by assumption)
    clear hK K
    try simp only [qaa]
    refine Plan.go [5,6] ?_
    iterate 2 (refine qac (by simp only [qab];rfl) (by kernel_rfl) (by exact fun _ _ _ h=>h) (by rfl) (by assumption) (fun w _=>by go_simp;try (with_reducible rfl)) ?_;try simp only [qaa])
    refine Plan.nil ?_
    refine Plan.go [7,8,9,10,11,12,13,14,15,16,17,18,19,20,21,22] ?_
    iterate 16 (refine qaq (by simp only [qab];rfl) (by kernel_rfl) (by exact fun _ _ _ h=>h) (by rfl) (by assumption) ?_;try simp only [qaa])
    refine Plan.nil ?_
    refine qan 23 (v := ?_) (by simp only [qab];rfl) (by kernel_rfl) (by exact fun _ _ _ h=>h) (by rfl) (by assumption) ?_ ?_
    rotate_left
    ·(intro w _;go_simp;try (with_reducible rfl))
    try simp only [qaa]
    refine wpAnyH_done (by kernel_rfl) ?_ _
    go_wp2
    go_ret
    exact ⟨by rw [Hr.out];rfl,by assumption⟩
   ·rcases Nat.eq_zero_or_pos k with h0 | h0
    ·obtain ⟨b,off,rfl,r0,r1⟩:=hs.at ht (by omega)
     have hz:decide (0 < k)=false:=by simp;omega
     have H0:Hid (k=0):=h0
     clear hs ht h0
     go_wp2
     refine wp_region_held_drew (S:=(fun w'=>Keeps w w')) (by kernel_rfl) ?_ (fun hHeld => ?_)
     ·exact Keeps.drew (by assumption)
     refine Plan.go [0,1,2,3] ?_
     iterate 4 (refine qac (by simp only [qab];rfl) (by kernel_rfl) (by exact fun _ _ _ h=>h) (by rfl) (by assumption) (fun w _=>by go_simp;try (with_reducible rfl)) ?_;try simp only [qaa])
     refine Plan.nil ?_
     refine qad 4 (by kernel_rfl) (by simp only [qab];rfl) (fun K hK => ?_)
     go_simp
     first
      | (go_at_call 109;refine (qcT t _).mono ?_;rintro e w' ⟨rfl,hkk⟩;rw [hb])
     try go_wp2_with fail
     refine hK.out _ _ ?_ (fun hHeld => ?_)
     ·exact Keeps.trans (by assumption) (by assumption)
     clear hK K
     try simp only [qaa]
     refine Plan.go [5,6,7,8,9] ?_
     iterate 5 (refine qac (by simp only [qab];rfl) (by kernel_rfl) (by exact fun _ _ _ h=>h) (by rfl) (by assumption) (fun w _=>by go_simp;try (with_reducible rfl)) ?_;try simp only [qaa])
     refine Plan.nil ?_
     refine Plan.go [10,11,12,13,14,15,16,17,18,19,20,21] ?_
     iterate 12 (refine qaq (by simp only [qab];rfl) (by kernel_rfl) (by exact fun _ _ _ h=>h) (by rfl) (by assumption) ?_;try simp only [qaa])
     refine Plan.nil ?_
     refine Plan.go [22,23] ?_
     iterate 2 (refine qac (by simp only [qab];rfl) (by kernel_rfl) (by exact fun _ _ _ h=>h) (by rfl) (by assumption) (fun w _=>by go_simp;try (with_reducible rfl)) ?_;try simp only [qaa])
     refine Plan.nil ?_
     refine wpAnyH_done (by kernel_rfl) ?_ _
     go_wp2
     exact ⟨⟨k+1,by omega,by go_num,by assumption,fun j s hj hjs=>by
      obtain rfl:j=k:=by have:=H0.out;omega
      rw [Ht.out] at hjs;cases hjs;exact hb,fun j s u hj=>by have:=H0.out;omega⟩,by simp only [intOf];omega⟩
    ·obtain ⟨m,hm⟩:∃ m,k=m+1:=⟨k - 1,by omega⟩
     obtain ⟨s,hs1⟩:=qbB (xs:=ts) (k:=m) (by rw [Hn.out];omega)
     obtain ⟨b,off,rfl,r0,r1⟩:=hs.at ht (by omega)
     obtain ⟨b',off',e',q0,q1⟩:=hs.at hs1 (by omega)
     simp only [Option.some.injEq,Addr.mk.injEq] at e'
     obtain ⟨rfl,rfl,-⟩:=e'
     have Hs:Hid (ts[m]?=some s):=hs1
     have hk1:(m:Int) < (n:Int):=by omega
     have hp:0 < k:=h0
     have hm1:(k:Int) - 1=(m:Int):=by omega
     have hw:IntKind.i64.wrap (m:Int)=(m:Int):=Go.IntWalk.i64_in _ (by omega)
     have Hm:Hid (k=m+1):=hm
     clear hs ht hs1 q1 hm h0
     cases hd:decide (t.no <= s.no)
     ·go_wp2
      refine wp_region_held_drew (S:=(fun w'=>Keeps w w')) (by kernel_rfl) ?_ (fun hHeld => ?_)
      ·exact Keeps.drew (by assumption)
      refine Plan.go [0,1,2,3] ?_
      iterate 4 (refine qac (by simp only [qab];rfl) (by kernel_rfl) (by exact fun _ _ _ h=>h) (by rfl) (by assumption) (fun w _=>by go_simp;try (with_reducible rfl)) ?_;try simp only [qaa])
      refine Plan.nil ?_
      refine qad 4 (by kernel_rfl) (by simp only [qab];rfl) (fun K hK => ?_)
      go_simp
      first
       | (go_at_call 109;refine (qcT t _).mono ?_;rintro e w' ⟨rfl,hkk⟩;rw [hb])
      try go_wp2_with fail
      refine hK.out _ _ ?_ (fun hHeld => ?_)
      ·exact Keeps.trans (by assumption) (by assumption)
      clear hK K
      try simp only [qaa]
      refine Plan.go [5,6,7,8,9,10,11,12,13,14,15,16,17,18,19,20,21,22,23] ?_
      iterate 19 (refine qac (by simp only [qab];rfl) (by kernel_rfl) (by exact fun _ _ _ h=>h) (by rfl) (by assumption) (fun w _=>by go_simp;try (with_reducible rfl)) ?_;try simp only [qaa])
      refine Plan.nil ?_
      refine wpAnyH_done (by kernel_rfl) ?_ _
      go_wp2
      exact ⟨⟨k+1,by omega,by go_num,by assumption,fun j x hj hjx=>by
       by_cases e:j=k
       ·subst e;rw [Ht.out] at hjx;cases hjx;exact hb
       ·exact H1.out j x (by omega) hjx,fun j x y hj hx hy=>by
       have hk:=Hm.out
       by_cases e:j=m
       ·subst e;rw [<- hk] at hy;rw [Hs.out] at hx;rw [Ht.out] at hy;cases hx;cases hy
        have:=of_decide_eq_false hd;omega
       ·exact H2.out j x y (by omega) hx hy⟩,by simp only [intOf];omega⟩
     ·have Hr:Hid (qao ts=false):=qiV Hs.out (by rw [<- Hm.out];exact Ht.out) (of_decide_eq_true hd)
      go_wp2
      refine wp_region_held_drew (S:=(fun w'=>Keeps w w')) (by kernel_rfl) ?_ (fun hHeld => ?_)
      ·exact Keeps.drew (by assumption)
      refine Plan.go [0,1,2,3] ?_
      iterate 4 (refine qac (by simp only [qab];rfl) (by kernel_rfl) (by exact fun _ _ _ h=>h) (by rfl) (by assumption) (fun w _=>by go_simp;try (with_reducible rfl)) ?_;try simp only [qaa])
      refine Plan.nil ?_
      refine qad 4 (by kernel_rfl) (by simp only [qab];rfl) (fun K hK => ?_)
      go_simp
      first
       | (go_at_call 109;refine (qcT t _).mono ?_;rintro e w' ⟨rfl,hkk⟩;rw [hb])
      try go_wp2_with fail
      refine hK.out _ _ ?_ (fun hHeld => ?_)
      ·exact Keeps.trans (by assumption) (by assumption)
      clear hK K
      try simp only [qaa]
      refine Plan.go [5,6,7,8,9,10,11,12,13,14,15,16,17,18,19,20,21,22,23] ?_
      iterate 19 (refine qac (by simp only [qab];rfl) (by kernel_rfl) (by exact fun _ _ _ h=>h) (by rfl) (by assumption) (fun w _=>by go_simp;try (with_reducible rfl)) ?_;try simp only [qaa])
      refine Plan.nil ?_
      refine wpAnyH_done (by kernel_rfl) ?_ _
      go_wp2
      go_ret
      exact ⟨by rw [Hr.out];rfl,by assumption⟩
  ·have Hr:Hid (qao ts=decide (n <= 12)):=by
    show _=_
    rw [<- Hn.out]
    have hh:∀ (j:Nat) (t:Tsk),ts[j]?=some t->j < k:=fun j t h=>by
     rcases Nat.lt_or_ge j ts.length with h' | h'
     ·have:=Hn.out;omega
     ·simp [List.getElem?_eq_none h'] at h
    exact qiW (fun j t h=>H1.out j t (hh j t h) h) (fun j s t h1 h2=>H2.out j s t (hh _ t h2) h1 h2)
   by_cases h12:n <= 12
   ·have hd:decide ((n:Int) <= 12)=true:=by simp;omega
    go_wp2
    go_ret
    exact ⟨by rw [Hr.out];simp [h12],hK⟩
   ·have hd:decide ((n:Int) <= 12)=false:=by simp;omega
    go_wp2
    go_ret
    exact ⟨by rw [Hr.out];simp [h12],hK⟩
def ins (t:Tsk):List Tsk->List Tsk
 | []=>[t]
 | x::r=>if decide (t.no <= x.no) then t::x::r else x::ins t r
theorem qeU (t:Tsk) (ts:List Tsk):(ins t ts).length=ts.length+1:=by
 induction ts with
 | nil=>rfl
 | cons x r ih=>simp only [ins];split <;> simp [ih]
def putL (ts:List Tsk) (t:Tsk):List Tsk:=if qao ts then (if qao (ins t ts) then ins t ts else ts) else []
def putB (ts:List Tsk) (t:Tsk):Bool:=qao ts&&qao (ins t ts)
theorem qfm {ts:List Tsk} (h:qao ts=true):ts.length <= 12:=by
 simp only [qao,Bool.and_eq_true,decide_eq_true_eq] at h;exact h.2
theorem qaw (t:Tsk):(tc t).size=14:=rfl
theorem qb6 (t:Tsk):∀ u∈(tc t).toList,u.oneCell'=true:=by
 intro u hu
 simp at hu
 rcases hu with rfl | rfl | rfl | rfl | rfl | rfl | rfl | rfl | rfl | rfl | rfl | rfl | rfl | rfl <;> rfl
abbrev OwnT (w:World) (base:Nat) (v:Value) (ts:List Tsk):Prop:=Own 47 14 tc w base v ts
set_option maxHeartbeats 4000000 in
theorem qiX (ba off cap:Nat) (ts:List Tsk) (t:Tsk) (w:World) (hl:ts.length <= maxLen) (hs:Ts w (some ⟨ba,off,none⟩) ts) :
  Calls Tryz.prog 146 #[.slice (some ⟨ba,off,none⟩) ts.length cap,tk t] w fun e w'=>∃ v,e = .returned (.tuple #[v,.bool (putB ts t)]) /\ OwnT w' w.heap.size v (putL ts t) /\ Keeps w w':=by
 generalize hn:ts.length=n at *
 have Hn:Hid (ts.length=n):=hn
 clear hn
 go_enter Tryz.func146,Tryz.ntmps146
 go_wp2_with fail
 have kW:Keeps w (w.alloc (.cells (tc t) 47)):=(Keeps.refl _).alloc _
 have B0:=Blk.new w (tc t) 47
 have hs0:=hs.keeps kW
 refine ((Hn.out ▸ qen (some ⟨ba,off,none⟩) cap ts _ (by rw [Hn.out];exact hl) hs0:Calls _ _ _ _ _)).mono ?_
 rintro e w1 ⟨rfl,k1⟩
 have B1:=B0.keeps k1
 have hs1:=hs0.keeps k1
 have kw1:=kW.trans k1
 clear kW B0 hs0 k1 hs
 cases hb:qao ts
 ·have Hb:Hid (putB ts t=false):=by show _=_;simp [putB,hb]
  have Hp:Hid (putL ts t=[]):=by show _=_;simp [putL,hb]
  go_wp2
  go_ret2
  exact ⟨_,by rw [Hb.out];rfl,by rw [Hp.out];exact Own.new 47 14 tc w1 kw1.size,kw1.alloc _⟩
 ·have h12:n <= 12:=by rw [<- Hn.out];exact qfm hb
  have Hts:Hid (qao ts=true):=hb
  clear hb
  go_wp2_with fail
  have kz:Keeps w1 (w1.alloc (.cells #[] 47)):=(Keeps.refl _).alloc _
  have own0:OwnT (w1.alloc (.cells #[] 47)) w1.heap.size (.slice (some ⟨w1.heap.size,0,none⟩) 0 0) []:=Own.new 47 14 tc w1 (Nat.le_refl _)
  generalize w1.alloc (.cells #[] 47)=W at *
  have b0:∀ w',Keeps w1 w'->∀ k,w'.cell? ⟨w.heap.size,k,none⟩=(tc t)[k]?:=fun w' h=>(B1.keeps h).cells
  clear B1
  go_loopw [6,7,8] (fun v p i wr=>∃ (k:Nat) (put:Bool) (xs:List Tsk),k <= n /\ i = .int .i64 k /\ p = .bool put /\ OwnT wr w1.heap.size v xs /\ Keeps w1 wr /\ Hid (xs++(if put then ts.drop k else ins t (ts.drop k))=ins t ts)) (fun _ _ i _=>n - (intOf i).toNat)
  case atStart=>exact ⟨0,false,[],Nat.zero_le _,rfl,rfl,own0,kz,by show _=_;simp⟩
  case round =>
   obtain ⟨k,put,xs,hk',rfl,rfl,hown,hk,HI⟩:=hrel
   clear own0 kz
   have hxl:xs.length <= 13:=by
    have:=congrArg List.length HI.out
    rw [List.length_append,qeU,Hn.out] at this
    omega
   by_cases hlt:k < n
   ·obtain ⟨x,hx⟩:=qbB (xs:=ts) (k:=k) (by rw [Hn.out];exact hlt)
    have Hd:Hid (ts.drop k=x::ts.drop (k+1)):=by
     show _=_
     rw [List.drop_eq_getElem_cons (by rw [Hn.out];exact hlt)]
     congr 1
     rw [List.getElem?_eq_getElem (by rw [Hn.out];exact hlt)] at hx
     simpa using hx
    obtain ⟨ba',off',e',r0,r1⟩:=hs1.at hx (by omega)
    simp only [Option.some.injEq,Addr.mk.injEq] at e'
    obtain ⟨rfl,rfl,-⟩:=e'
    have hlt':(k:Int) < (n:Int):=by omega
    have HS:Hid (Lies 14 tc w1 (some ⟨ba,off,none⟩) ts):=hs1
    clear hx hs1
    cases put
    ·cases hd:decide (t.no <= x.no)
     ·go_wp2
      refine wp_region_held_drew (S:=(fun w'=>Keeps w1 w')) (by kernel_rfl) ?_ (fun hHeld => ?_)
      ·exact Keeps.drew (by assumption)
      refine Plan.go [0,1,2,3,4,5,6,7,8,9,10,11] ?_
      iterate 12 (refine qac (by simp only [qab];rfl) (by kernel_rfl) (by exact fun _ _ _ h=>h) (by rfl) (by assumption) (fun w _=>by go_simp;try (with_reducible rfl)) ?_;try simp only [qaa])
      refine Plan.nil ?_
      refine wpAnyH_done (by kernel_rfl) ?_ _
      go_wp2_with (at_builtin;(refine qbi rfl _ _ 32 rfl w1 47 (tk Tsk.zero) 14 112 tc Tryz.underlying32 (by kernel_rfl) rfl (by decide) qaw qb6 _ xs rfl wr hown hk (((Keeps.refl _).alloc _).drew) x _ 1 ((Blk.new _ _ _).keeps (Keeps.refl _).drew) rfl ?c1 ?c2 ?_))
      case c1=>unfold maxLen;omega
      case c2=>omega
      intro v' w5 hown5 k5 _
      have HO:Hid (OwnT w5 w1.heap.size v' (xs++[x])):=hown5
      clear hown5 hown
      go_wp2
      refine ⟨⟨k+1,false,xs++[x],by omega,by go_num,rfl,HO.out,k5,?_⟩,by simp only [intOf];omega⟩
      show _=_
      rw [<- HI.out,Hd.out]
      simp [ins,hd]
     ·go_wp2
      refine wp_region_held_drew (S:=(fun w'=>Keeps w1 w')) (by kernel_rfl) ?_ (fun hHeld => ?_)
      ·exact Keeps.drew (by assumption)
      refine Plan.go [0,1,2,3,4,5,6,7,8,9,10,11] ?_
      iterate 12 (refine qac (by simp only [qab];rfl) (by kernel_rfl) (by exact fun _ _ _ h=>h) (by rfl) (by assumption) (fun w _=>by go_simp;try (with_reducible rfl)) ?_;try simp only [qaa])
      refine Plan.nil ?_
      refine wpAnyH_done (by kernel_rfl) ?_ _
      go_wp2_with (at_builtin;(refine qbi rfl _ _ 32 rfl w1 47 (tk Tsk.zero) 14 112 tc Tryz.underlying32 (by kernel_rfl) rfl (by decide) qaw qb6 _ xs rfl wr hown hk (((Keeps.refl _).alloc _).drew) t _ 1 ((Blk.new _ _ _).keeps (Keeps.refl _).drew) rfl ?c1 ?c2 ?_))
      case c1=>unfold maxLen;omega
      case c2=>omega
      intro v' w5 hown5 k5 _
      have HO:Hid (OwnT w5 w1.heap.size v' (xs++[t])):=hown5
      clear hown
      go_wp2_with (at_builtin;(refine qbi rfl _ _ 32 rfl w1 47 (tk Tsk.zero) 14 112 tc Tryz.underlying32 (by kernel_rfl) rfl (by decide) qaw qb6 _ (xs++[t]) rfl w5 hown5 k5 ((Keeps.refl _).alloc _) x _ 1 (Blk.new _ _ _) rfl ?c1 ?c2 ?_))
      case c1=>unfold maxLen;simp;omega
      case c2=>simp;omega
      intro v6 w6 hown6 k6 _
      have HO6:Hid (OwnT w6 w1.heap.size v6 (xs++[t,x])):=hown6
      clear hown5 hown6
      go_wp2
      refine ⟨⟨k+1,true,xs++[t,x],by omega,by go_num,rfl,HO6.out,k6,?_⟩,by simp only [intOf];omega⟩
      show _=_
      rw [<- HI.out,Hd.out]
      simp [ins,hd]
    ·go_wp2
     refine wp_region_held_drew (S:=(fun w'=>Keeps w1 w')) (by kernel_rfl) ?_ (fun hHeld => ?_)
     ·exact Keeps.drew (by assumption)
     refine Plan.go [0,1,2] ?_
     iterate 3 (refine qac (by simp only [qab];rfl) (by kernel_rfl) (by exact fun _ _ _ h=>h) (by rfl) (by assumption) (fun w _=>by go_simp;try (with_reducible rfl)) ?_;try simp only [qaa])
     refine Plan.nil ?_
     refine Plan.go [3,4,5,6,7,8,9,10] ?_
     iterate 8 (refine qaq (by simp only [qab];rfl) (by kernel_rfl) (by exact fun _ _ _ h=>h) (by rfl) (by assumption) ?_;try simp only [qaa])
     refine Plan.nil ?_
     refine qan 11 (v := ?_) (by simp only [qab];rfl) (by kernel_rfl) (by exact fun _ _ _ h=>h) (by rfl) (by assumption) ?_ ?_
     rotate_left
     ·(intro w _;go_simp;try (with_reducible rfl))
     try simp only [qaa]
     refine wpAnyH_done (by kernel_rfl) ?_ _
     go_wp2_with (at_builtin;(refine qbi rfl _ _ 32 rfl w1 47 (tk Tsk.zero) 14 112 tc Tryz.underlying32 (by kernel_rfl) rfl (by decide) qaw qb6 _ xs rfl wr hown hk (((Keeps.refl _).alloc _).drew) x _ 1 ((Blk.new _ _ _).keeps (Keeps.refl _).drew) rfl ?c1 ?c2 ?_))
     case c1=>unfold maxLen;omega
     case c2=>omega
     intro v' w5 hown5 k5 _
     have HO:Hid (OwnT w5 w1.heap.size v' (xs++[x])):=hown5
     clear hown5 hown
     go_wp2
     refine ⟨⟨k+1,true,xs++[x],by omega,by go_num,rfl,HO.out,k5,?_⟩,by simp only [intOf];omega⟩
     show _=_
     rw [<- HI.out,Hd.out]
     simp
   ·have e:k=n:=by omega
    subst e
    have hdn:ts.drop k=[]:=List.drop_eq_nil_of_le (by rw [Hn.out];exact Nat.le_refl _)
    have hI:=HI.out
    rw [hdn] at hI
    clear hdn HI hk' hlt
    cases put
    ·have HI:Hid (xs++[t]=ins t ts):=by
      show _=_
      simpa [ins] using hI
     clear hI
     go_wp2_with (at_builtin;(refine qbi rfl _ _ 32 rfl w1 47 (tk Tsk.zero) 14 112 tc Tryz.underlying32 (by kernel_rfl) rfl (by decide) qaw qb6 _ xs rfl wr hown hk ((Keeps.refl _).alloc _) t _ 1 (Blk.new _ _ _) rfl ?c1 ?c2 ?_))
     case c1=>unfold maxLen;omega
     case c2=>omega
     intro v2 w2 hown2 hk2 _
     clear hown hk
     have hown:=hown2
     have hk:=hk2
     obtain ⟨ys,HY⟩:∃ ys,Hid (ys=xs++[t]):=⟨_,rfl⟩
     rw [<- HY.out] at hown
     have HX0:Hid (ys=ins t ts):=HY.out.trans HI.out
     clear hown2 hk2 HI HY hxl xs
     revert HX0
     revert hown
     generalize ys=xs
     intro hown HX
     obtain ⟨av,cv,rfl,hlies,hcv,hmv⟩:=hown.slice qaw
     have hxl:Hid (xs.length=ts.length+1):=by show _=_;rw [HX.out,qeU]
     go_wp2_with fail
     refine (qen av cv xs _ (by rw [hxl.out,Hn.out];unfold maxLen;omega) hlies).mono ?_
     rintro e w3 ⟨rfl,k3⟩
     have hown3:=hown.keeps k3
     have kw3:=hk.trans k3
     have hX:=HX.out
     subst hX
     cases hq:qao (ins t ts)
     ·have Hb:Hid (putB ts t=false):=by show _=_;simp [putB,hq]
      have Hp:Hid (putL ts t=ts):=by show _=_;simp [putL,hq,Hts.out]
      clear hown hown3 hlies
      have hts3:=hs1.keeps kw3
      go_wp2_with (at_builtin;(refine qfr rfl _ _ 32 rfl w3 47 (tk Tsk.zero) 14 112 tc Tryz.underlying32 (by kernel_rfl) rfl (by decide) qaw qb6 _ [] rfl (Own.new 47 14 tc w3 (Nat.le_refl _)) ((Keeps.refl _).alloc _) ba off cap ts (by rw [Hn.out];rfl) (hts3.keeps ((Keeps.refl _).alloc _)) ?c1 ?c2 ?_))
      case c1=>rw [Hn.out];unfold maxLen;simp;omega
      case c2=>rw [Hn.out];simp;omega
      intro v' w5 hown5 k5 _
      have HO:Hid (OwnT w5 w3.heap.size v' ([]++ts)):=hown5
      clear hown5
      go_wp2
      go_ret2
      exact ⟨_,by rw [Hb.out];rfl,by rw [Hp.out];exact Own.base HO.out (kw1.trans kw3).size,(kw1.trans kw3).trans k5⟩
     ·have Hb:Hid (putB ts t=true):=by show _=_;simp [putB,hq,Hts.out]
      have Hp:Hid (putL ts t=ins t ts):=by show _=_;simp [putL,hq,Hts.out]
      go_wp2
      go_ret2
      exact ⟨_,by rw [Hb.out];rfl,by rw [Hp.out];exact Own.base hown3 kw1.size,kw1.trans kw3⟩
    ·have HX:Hid (xs=ins t ts):=by
      show _=_
      simpa using hI
     clear hI hxl
     obtain ⟨av,cv,rfl,hlies,hcv,hmv⟩:=hown.slice qaw
     have hxl:Hid (xs.length=ts.length+1):=by show _=_;rw [HX.out,qeU]
     go_wp2_with fail
     refine (qen av cv xs _ (by rw [hxl.out,Hn.out];unfold maxLen;omega) hlies).mono ?_
     rintro e w3 ⟨rfl,k3⟩
     have hown3:=hown.keeps k3
     have kw3:=hk.trans k3
     have hX:=HX.out
     subst hX
     cases hq:qao (ins t ts)
     ·have Hb:Hid (putB ts t=false):=by show _=_;simp [putB,hq]
      have Hp:Hid (putL ts t=ts):=by show _=_;simp [putL,hq,Hts.out]
      clear hown hown3 hlies
      have hts3:=hs1.keeps kw3
      go_wp2_with (at_builtin;(refine qfr rfl _ _ 32 rfl w3 47 (tk Tsk.zero) 14 112 tc Tryz.underlying32 (by kernel_rfl) rfl (by decide) qaw qb6 _ [] rfl (Own.new 47 14 tc w3 (Nat.le_refl _)) ((Keeps.refl _).alloc _) ba off cap ts (by rw [Hn.out];rfl) (hts3.keeps ((Keeps.refl _).alloc _)) ?c1 ?c2 ?_))
      case c1=>rw [Hn.out];unfold maxLen;simp;omega
      case c2=>rw [Hn.out];simp;omega
      intro v' w5 hown5 k5 _
      have HO:Hid (OwnT w5 w3.heap.size v' ([]++ts)):=hown5
      clear hown5
      go_wp2
      go_ret2
      exact ⟨_,by rw [Hb.out];rfl,by rw [Hp.out];exact Own.base HO.out (kw1.trans kw3).size,(kw1.trans kw3).trans k5⟩
     ·have Hb:Hid (putB ts t=true):=by show _=_;simp [putB,hq,Hts.out]
      have Hp:Hid (putL ts t=ins t ts):=by show _=_;simp [putL,hq,Hts.out]
      go_wp2
      go_ret2
      exact ⟨_,by rw [Hb.out];rfl,by rw [Hp.out];exact Own.base hown3 kw1.size,kw1.trans kw3⟩
end Go.Proofs.YthpdlbcdbncnhaaGreatDoor
namespace Go.Proofs.YthpdlbcdbncnhaaGreatDoor
set_option maxRecDepth 100000
open Go.RowKit
theorem qgt {ts:List Tsk} (h:ascB ts=true):∀ (j i:Nat) (a b:Tsk),i < j->ts[i]?=some a->ts[j]?=some b->a.no < b.no:=by
 have H:=(qgs ts).1 h
 intro j
 induction j with
 | zero=>intro i a b hi;omega
 | succ j ih =>
  intro i a b hi ha hb
  rcases Nat.lt_or_ge i j with h1 | h1
  ·have hj:j < ts.length:=by
    rcases Nat.lt_or_ge (j+1) ts.length with h | h
    ·omega
    ·simp [List.getElem?_eq_none h] at hb
   have h2:=ih i a ts[j] h1 ha (List.getElem?_eq_getElem hj)
   have h3:=H j ts[j] b (List.getElem?_eq_getElem hj) hb
   omega
  ·obtain rfl:i=j:=by omega
   exact H i a b ha hb
theorem qob {ts:List Tsk} (h:qao ts=true):ascB ts=true:=by
 simp only [qao,Bool.and_eq_true] at h;exact h.1.2
theorem qfn {ts:List Tsk} (h:qao ts=true) {i:Nat} {x:Tsk} (hx:ts[i]?=some x):qar ts x.no=i:=by
 have A:=qgt (qob h)
 have hi:i < ts.length:=by
  rcases Nat.lt_or_ge i ts.length with h | h
  ·exact h
  ·simp [List.getElem?_eq_none h] at hx
 have:ts.findIdx? (fun t=>t.no==x.no)=some i:=by
  rw [List.findIdx?_eq_some_iff_getElem]
  have e1:ts[i]=x:=by rw [List.getElem?_eq_getElem hi] at hx;simpa using hx
  refine ⟨hi,by rw [e1];simp,fun j hj => ?_⟩
  have:=A i j ts[j] x hj (List.getElem?_eq_getElem _) hx
  simp;omega
 simp [qar,this]
theorem qct {ts:List Tsk} (h:qao ts=true) {i:Nat} {t:Tsk} (ht:ts[i]?=some t):qae t=true:=by
 simp only [qao,Bool.and_eq_true] at h
 exact List.all_eq_true.1 h.1.1 t (List.mem_of_getElem? ht)
theorem qoc {t:Tsk} (h:qae t=true):1 <= t.no /\ t.no <= 1000:=by
 unfold qae at h
 simp only [Bool.and_eq_true] at h
 exact qap.1 h.1.1.1.1.1
theorem qod {ts:List Tsk} (h:qao ts=true):qar ts 0 = -1:=by
 unfold qar
 split
 ·rename_i i hi
  obtain ⟨hi',h1,-⟩:=List.findIdx?_eq_some_iff_getElem.1 hi
  have:=qoc (qct h (List.getElem?_eq_getElem hi'))
  have e:ts[i].no=0:=by simpa using h1
  omega
 ·rfl
theorem qoe (d:Nat) (w:World) (a b:Tsk):(Op.equalIn (d+2) 47 (tk a) (tk b)).run Tryz.prog w = .ok (eqT a b) w:=by
 obtain ⟨a0,a1,a2,a3,a4,a5,a6,a7,a8,a9,a10,a11,a12,a13⟩:=a
 obtain ⟨b0,b1,b2,b3,b4,b5,b6,b7,b8,b9,b10,b11,b12,b13⟩:=b
 simp only [eqT]
 rw [run_equalIn_agg _ _ _ _ _ (by kernel_rfl) (by kernel_rfl)]
 go_simp
 by_cases h0:a0=b0
 case neg=>simp only [if_neg h0,beq_eq_false_iff_ne.2 h0,Bool.false_and]
 simp only [if_pos h0,beq_iff_eq.2 h0,Bool.true_and]
 by_cases h1:a1=b1
 case neg=>simp only [if_neg h1,beq_eq_false_iff_ne.2 h1,Bool.false_and]
 simp only [if_pos h1,beq_iff_eq.2 h1,Bool.true_and]
 by_cases h2:a2=b2
 case neg=>simp only [if_neg h2,beq_eq_false_iff_ne.2 h2,Bool.false_and]
 simp only [if_pos h2,beq_iff_eq.2 h2,Bool.true_and]
 by_cases h3:a3=b3
 case neg=>simp only [if_neg h3,beq_eq_false_iff_ne.2 h3,Bool.false_and]
 simp only [if_pos h3,beq_iff_eq.2 h3,Bool.true_and]
 by_cases h4:a4=b4
 case neg=>simp only [if_neg h4,beq_eq_false_iff_ne.2 h4,Bool.false_and]
 simp only [if_pos h4,beq_iff_eq.2 h4,Bool.true_and]
 by_cases h5:a5=b5
 case neg=>simp only [if_neg h5,beq_eq_false_iff_ne.2 h5,Bool.false_and]
 simp only [if_pos h5,beq_iff_eq.2 h5,Bool.true_and]
 by_cases h6:a6=b6
 case neg=>simp only [if_neg h6,beq_eq_false_iff_ne.2 h6,Bool.false_and]
 simp only [if_pos h6,beq_iff_eq.2 h6,Bool.true_and]
 by_cases h7:a7=b7
 case neg=>simp only [if_neg h7,beq_eq_false_iff_ne.2 h7,Bool.false_and]
 simp only [if_pos h7,beq_iff_eq.2 h7,Bool.true_and]
 by_cases h8:a8=b8
 case neg=>simp only [if_neg h8,beq_eq_false_iff_ne.2 h8,Bool.false_and]
 simp only [if_pos h8,beq_iff_eq.2 h8,Bool.true_and]
 by_cases h9:a9=b9
 case neg=>simp only [if_neg h9,beq_eq_false_iff_ne.2 h9,Bool.false_and]
 simp only [if_pos h9,beq_iff_eq.2 h9,Bool.true_and]
 by_cases h10:a10=b10
 case neg=>simp only [if_neg h10,beq_eq_false_iff_ne.2 h10,Bool.false_and]
 simp only [if_pos h10,beq_iff_eq.2 h10,Bool.true_and]
 by_cases h11:a11=b11
 case neg=>simp only [if_neg h11,beq_eq_false_iff_ne.2 h11,Bool.false_and]
 simp only [if_pos h11,beq_iff_eq.2 h11,Bool.true_and]
 by_cases h12:a12=b12
 case neg=>simp only [if_neg h12,beq_eq_false_iff_ne.2 h12,Bool.false_and]
 simp only [if_pos h12,beq_iff_eq.2 h12,Bool.true_and]
 by_cases h13:a13=b13
 case neg=>simp only [if_neg h13,beq_eq_false_iff_ne.2 h13]
 simp only [if_pos h13,beq_iff_eq.2 h13]
theorem qof (w:World) (a b:Tsk):(binOp .eql 47 (tk a) (tk b)).run Tryz.prog w = .ok (.bool (eqT a b)) w:=by
 rw [run_eql_struct,qoe 9998];rfl
end Go.Proofs.YthpdlbcdbncnhaaGreatDoor
namespace Go.Proofs.YthpdlbcdbncnhaaGreatDoor
set_option maxRecDepth 100000
open Go.RowKit
attribute [local go_sem] Keeps.refl Keeps.alloc Keeps.drew Keeps.drewN
def qog:Prop:=∀ (a:Option Addr) (cap:Nat) (ts:List Tsk) (no:Int) (w:World),ts.length <= maxLen->Ts w a ts->Calls Tryz.prog 17 #[.slice a ts.length cap,.int .i64 no] w fun e w'=>e = .returned (.int .i64 (qar ts no)) /\ Keeps w w'
def qoh:Prop:=∀ (a:Option Addr) (cap:Nat) (ts:List Tsk) (w:World),ts.length <= maxLen->Ts w a ts->Calls Tryz.prog 173 #[.slice a ts.length cap] w fun e w'=>e = .returned (.bool (qao ts)) /\ Keeps w w'
end Go.Proofs.YthpdlbcdbncnhaaGreatDoor
