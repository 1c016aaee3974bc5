/-
  A heap of tasks that share fairly, as a list: who had least
-/
import Derived.Test.YthpdlbcdbncnhaaGreatDoorGPure1
import Derived.Test.YthpdlbcdbncnhaaGreatDoorGItask1
import Derived.Test.YthpdlbcdbncnhaaGreatDoorGBase2
import Derived.Test.YthpdlbcdbncnhaaGreatDoorGDff2
import Derived.Test.YthpdlbcdbncnhaaGreatDoorGItask2
namespace Go.Proofs.YthpdlbcdbncnhaaGreatDoor
set_option maxRecDepth 100000
open Go.RowKit
def befV (a b:Tsk):Bool:=decide (a.v < b.v)||a.v==b.v&&decide (a.no < b.no)
theorem qfF (a b:Tsk):befV a b=true↔a.v < b.v∨a.v=b.v /\ a.no < b.no:=by simp [befV]
theorem qcw (a b:Tsk):befV a b=false↔b.v < a.v∨b.v=a.v /\ b.no <= a.no:=by
 rw [Bool.eq_false_iff,ne_eq,qfF]
 omega
theorem qkT (a:Tsk):befV a a=false:=by rw [qcw];omega
def HeapL (xs:List Tsk):Prop:=∀ (i:Nat) (c p:Tsk),0 < i->xs[i]?=some c->xs[(i - 1) / 2]?=some p->befV c p=false
def HeapBut (xs:List Tsk) (k:Nat):Prop :=
 (∀ (i:Nat) (c p:Tsk),0 < i->i≠k->xs[i]?=some c->xs[(i - 1) / 2]?=some p->befV c p=false) /\
 (0 < k->∀ (i:Nat) (c p:Tsk),0 < i->(i - 1) / 2=k->xs[i]?=some c->xs[(k - 1) / 2]?=some p->befV c p=false)
theorem HeapL.nil:HeapL []:=by intro i c p _ h;simp at h
theorem HeapL.snoc {xs:List Tsk} (h:HeapL xs) (x:Tsk):HeapBut (xs++[x]) xs.length:=by
 refine ⟨fun i c p h0 hne hc hp => ?_,fun h0 i c p hi hk hc hp => ?_⟩
 ·rcases Nat.lt_or_ge i xs.length with hl | hl
  ·rw [List.getElem?_append_left hl] at hc
   rw [List.getElem?_append_left (by omega)] at hp
   exact h i c p h0 hc hp
  ·rw [List.getElem?_eq_none (by simp;omega)] at hc
   cases hc
 ·rw [List.getElem?_eq_none (by simp;omega)] at hc
  cases hc
theorem HeapBut.top {xs:List Tsk} (h:HeapBut xs 0):HeapL xs:=fun i c p h0 hc hp=>h.1 i c p h0 (by omega) hc hp
theorem HeapBut.stay {xs:List Tsk} {k:Nat} (h:HeapBut xs k) {x y:Tsk} (hx:xs[k]?=some x) (hy:xs[(k - 1) / 2]?=some y) (hb:befV x y=false):HeapL xs:=by
 intro i c p h0 hc hp
 by_cases e:i=k
 ·subst e
  rw [hx] at hc;rw [hy] at hp
  cases hc;cases hp
  exact hb
 ·exact h.1 i c p h0 e hc hp
theorem qfG {xs:List Tsk} {k m:Nat} {x y:Tsk} (hx:xs[k]?=some x) (hy:xs[m]?=some y) (hne:m < k) (i:Nat) :
  ((xs.set k y).set m x)[i]?=if i=m then some x else if i=k then some y else xs[i]?:=by
 have hk:k < xs.length:=by
  rcases Nat.lt_or_ge k xs.length with h | h
  ·exact h
  ·rw [List.getElem?_eq_none h] at hx;cases hx
 by_cases e1:i=m
 ·subst e1
  rw [if_pos rfl,List.getElem?_set_self (by simp;omega)]
 ·rw [if_neg e1,List.getElem?_set_ne (by omega)]
  by_cases e2:i=k
  ·subst e2
   rw [if_pos rfl,List.getElem?_set_self hk]
  ·rw [if_neg e2,List.getElem?_set_ne (by omega)]
theorem HeapBut.up {xs:List Tsk} {k:Nat} (h:HeapBut xs k) (h0:0 < k) {x y:Tsk} (hx:xs[k]?=some x) (hy:xs[(k - 1) / 2]?=some y) (hb:befV x y=true):HeapBut ((xs.set k y).set ((k - 1) / 2) x) ((k - 1) / 2):=by
 have hm:(k - 1) / 2 < k:=by omega
 have at':=qfG hx hy hm
 rw [qfF] at hb
 refine ⟨fun i c p hi hne hc hp => ?_,fun h1 i c p hi hk hc hp => ?_⟩
 ·rw [at'] at hc hp
  rw [if_neg hne] at hc
  by_cases ek:i=k
  ·subst ek
   rw [if_pos rfl] at hc hp
   cases hc;cases hp
   rw [qcw];omega
  ·rw [if_neg ek] at hc
   by_cases e1:(i - 1) / 2=(k - 1) / 2
   ·rw [if_pos e1] at hp
    cases hp
    rw [<- e1] at hy
    have:=(qcw _ _).1 (h.1 i c y hi ek hc hy)
    rw [qcw];omega
   ·rw [if_neg e1] at hp
    by_cases e2:(i - 1) / 2=k
    ·rw [if_pos e2] at hp
     cases hp
     exact h.2 h0 i c _ hi e2 hc hy
    ·rw [if_neg e2] at hp
     exact h.1 i c p hi ek hc hp
 ·rw [at'] at hc hp
  rw [if_neg (by omega),if_neg (by omega)] at hp
  have h3:=(qcw _ _).1 (h.1 ((k - 1) / 2) y p h1 (by omega) hy hp)
  rw [if_neg (by omega)] at hc
  by_cases ek:i=k
  ·rw [if_pos ek] at hc
   cases hc
   rw [qcw];omega
  ·rw [if_neg ek] at hc
   rw [<- hk] at hy
   have h4:=(qcw _ _).1 (h.1 i c y hi ek hc hy)
   rw [qcw];omega
theorem qkU {xs:List Tsk} {k m:Nat} {x y:Tsk} (hx:xs[k]?=some x) (hy:xs[m]?=some y) (hne:m < k) (z:Tsk):z∈(xs.set k y).set m x↔z∈xs:=by
 have at':=qfG hx hy hne
 simp only [List.mem_iff_getElem?]
 constructor
 ·rintro ⟨i,hi⟩
  rw [at'] at hi
  split at hi
  ·cases hi;exact ⟨k,hx⟩
  ·split at hi
   ·cases hi;exact ⟨m,hy⟩
   ·exact ⟨i,hi⟩
 ·rintro ⟨i,hi⟩
  by_cases e1:i=m
  ·subst e1
   rw [hy] at hi;cases hi
   exact ⟨k,by rw [at',if_neg (by omega),if_pos rfl]⟩
  ·by_cases e2:i=k
   ·subst e2
    rw [hx] at hi;cases hi
    exact ⟨m,by rw [at',if_pos rfl]⟩
   ·exact ⟨i,by rw [at',if_neg e1,if_neg e2];exact hi⟩
theorem HeapL.first {xs:List Tsk} (h:HeapL xs) {f:Tsk} (hf:xs[0]?=some f):∀ (i:Nat) (z:Tsk),xs[i]?=some z->befV z f=false:=by
 intro i
 induction i using Nat.strongRecOn with
 | _ i ih =>
  intro z hz
  by_cases h0:i=0
  ·subst h0
   rw [hf] at hz;cases hz
   exact qkT _
  ·have hl:i < xs.length:=by
    rcases Nat.lt_or_ge i xs.length with h | h
    ·exact h
    ·rw [List.getElem?_eq_none h] at hz;cases hz
   obtain ⟨p,hp⟩:∃ p,xs[(i - 1) / 2]?=some p:=⟨_,List.getElem?_eq_getElem (by omega)⟩
   have h1:=(qcw _ _).1 (h i z p (by omega) hz hp)
   have h2:=(qcw _ _).1 (ih _ (by omega) p hp)
   rw [qcw];omega
def upL (o:Option Tsk) (x:Tsk):Option Tsk:=match o with
 | .none=>some x
 | .some f=>if befV x f then some x else some f
structure Sift (xs:List Tsk) (x:Tsk) (k:Nat) (ys:List Tsk):Prop where
 len:ys.length=xs.length+1
 lt:k < ys.length
 but:HeapBut ys k
 mem:∀ z,z∈ys↔z∈xs∨z=x
 me:ys[k]?=some x
 fst:k≠0->ys[0]?=xs[0]?
 top:k=0->∀ f,xs[0]?=some f->befV x f=true
structure Sifted (xs:List Tsk) (x:Tsk) (ys:List Tsk):Prop where
 len:ys.length=xs.length+1
 heap:HeapL ys
 mem:∀ z,z∈ys↔z∈xs∨z=x
 fst:ys[0]?=upL xs[0]? x
theorem Sift.start {xs:List Tsk} (h:HeapL xs) (x:Tsk):Sift xs x xs.length (xs++[x]):=by
 refine ⟨by simp,by simp,h.snoc x,by simp,by simp,fun h0 => ?_,fun h0 f hf => ?_⟩
 ·rw [List.getElem?_append_left (by omega)]
 ·rw [List.getElem?_eq_none (by omega)] at hf;cases hf
theorem Sift.up {xs ys:List Tsk} {x y:Tsk} {k:Nat} (h:Sift xs x k ys) (h0:0 < k) (hy:ys[(k - 1) / 2]?=some y) (hb:befV x y=true):Sift xs x ((k - 1) / 2) ((ys.set k y).set ((k - 1) / 2) x):=by
 have hm:(k - 1) / 2 < k:=by omega
 have hl:=h.lt
 have at':=qfG h.me hy hm
 refine ⟨by simpa using h.len,by simp;omega,h.but.up h0 h.me hy hb,fun z=>(qkU h.me hy hm z).trans (h.mem z),by rw [at',if_pos rfl],fun h1 => ?_,fun h1 f hf => ?_⟩
 ·rw [at',if_neg (Ne.symm h1),if_neg (by omega)]
  exact h.fst (by omega)
 ·have e:=h.fst (by omega)
  rw [h1,e,hf] at hy
  cases hy
  exact hb
theorem Sift.atTop {xs ys:List Tsk} {x:Tsk} (h:Sift xs x 0 ys):Sifted xs x ys:=by
 refine ⟨h.len,h.but.top,h.mem,?_⟩
 rw [h.me]
 cases e:xs[0]? with
 | none=>rfl
 | some f=>simp [upL,h.top rfl f e]
theorem Sift.stay {xs ys:List Tsk} {x y:Tsk} {k:Nat} (h:Sift xs x k ys) (h0:0 < k) (hy:ys[(k - 1) / 2]?=some y) (hb:befV x y=false):Sifted xs x ys:=by
 have hh:=h.but.stay h.me hy hb
 refine ⟨h.len,hh,h.mem,?_⟩
 have e:=h.fst (by omega)
 have hl:=h.len
 have hlt:=h.lt
 obtain ⟨f,hf⟩:∃ f,xs[0]?=some f:=⟨_,List.getElem?_eq_getElem (by omega)⟩
 have:=hh.first (e.trans hf) k x h.me
 rw [e,hf]
 simp [upL,this]
structure HeapOf (ts xs:List Tsk):Prop where
 heap:HeapL xs
 mem:∀ z,z∈xs↔z∈ts /\ qaC z=true
 len:xs.length <= ts.length
 fst:xs[0]?=(ts.filter qaC).foldl upL none
theorem HeapOf.start:HeapOf [] []:=⟨HeapL.nil,by simp,by simp,rfl⟩
theorem HeapOf.skip {ts xs:List Tsk} (h:HeapOf ts xs) {t:Tsk} (ht:qaC t=false):HeapOf (ts++[t]) xs:=by
 refine ⟨h.heap,fun z => ?_,by have:=h.len;simp;omega,?_⟩
 ·rw [h.mem z,List.mem_append,List.mem_singleton]
  constructor
  ·rintro ⟨h1,h2⟩;exact ⟨.inl h1,h2⟩
  ·rintro ⟨h1 | rfl,h2⟩
   ·exact ⟨h1,h2⟩
   ·rw [ht] at h2;cases h2
 ·rw [List.filter_append,h.fst]
  simp [ht]
theorem HeapOf.snoc {ts xs ys:List Tsk} (h:HeapOf ts xs) {t:Tsk} (ht:qaC t=true) (s:Sifted xs t ys):HeapOf (ts++[t]) ys:=by
 refine ⟨s.heap,fun z => ?_,by have:=h.len;have:=s.len;simp;omega,?_⟩
 ·rw [s.mem z,h.mem z,List.mem_append,List.mem_singleton]
  constructor
  ·rintro (⟨h1,h2⟩ | rfl)
   ·exact ⟨.inl h1,h2⟩
   ·exact ⟨.inr rfl,ht⟩
  ·rintro ⟨h1 | rfl,h2⟩
   ·exact .inl ⟨h1,h2⟩
   ·exact .inr rfl
 ·rw [s.fst,h.fst,List.filter_append]
  simp [ht]
theorem HeapOf.two {a b:Tsk} {xs:List Tsk} (h:HeapOf [b,a] xs) (ha:qaC a=true) (hb:qaC b=true):xs[0]?=some (if befV a b then a else b):=by
 rw [h.fst]
 simp only [List.filter_cons,ha,hb,List.filter_nil,if_true,List.foldl_cons,List.foldl_nil,upL]
 split <;> rfl
end Go.Proofs.YthpdlbcdbncnhaaGreatDoor
namespace Go.Proofs.YthpdlbcdbncnhaaGreatDoor
set_option maxRecDepth 100000
open Go.RowKit
attribute [local go_sem] Keeps.refl Keeps.alloc Keeps.drew Keeps.drewN
theorem qc5 (t:Tsk):(rtc t).size=7:=rfl
theorem qkV (t:Tsk):∀ u∈(rtc t).toList,u.oneCell'=true:=by
 intro u hu
 simp at hu
 rcases hu with rfl | rfl | rfl | rfl | rfl | rfl | rfl <;> rfl
set_option maxHeartbeats 1000000 in
theorem qg7 (a b:Tsk) (w:World) :
  Calls Tryz.prog 283 #[.agg (rtc a),.agg (rtc b)] w fun e w'=>e = .returned (.bool (befV a b)) /\ Keeps w w':=by
 cases h1:decide (a.v < b.v)
 ·cases h2:(a.v==b.v)
  ·have Hr:Hid (befV a b=false):=by show _=_;simp only [befV,h1,h2,Bool.false_and,Bool.or_false]
   go_enter Tryz.func283,Tryz.ntmps283
   go_wp2
   go_ret
   exact ⟨by rw [Hr.out];rfl,((Keeps.refl _).alloc _).alloc _⟩
  ·have Hr:Hid (befV a b=decide (a.no < b.no)):=by show _=_;simp only [befV,h1,h2,Bool.true_and,Bool.false_or]
   go_enter Tryz.func283,Tryz.ntmps283
   go_wp2
   go_ret
   exact ⟨by rw [Hr.out];rfl,((Keeps.refl _).alloc _).alloc _⟩
 ·have Hr:Hid (befV a b=true):=by show _=_;simp only [befV,h1,Bool.true_or]
  go_enter Tryz.func283,Tryz.ntmps283
  go_wp2
  go_ret
  exact ⟨by rw [Hr.out];rfl,((Keeps.refl _).alloc _).alloc _⟩
theorem qkW (x:Tsk):∀ (n:Nat) (w:World),0 < n->(method n 129 (.agg (rtc x)) "loop.example/g00185/impl.isBefore").run Tryz.prog w = .ok (283,.agg (rtc x)) w
 | 0,_,h=>absurd h (Nat.lt_irrefl 0)
 | _+1,_,_=>by kernel_rfl
abbrev qdq (w:World) (base:Nat) (v:Value) (xs:List Tsk):Prop:=Own 129 7 rtc w base v xs
structure Line (W0:World) (L base:Nat) (v:Value) (xs:List Tsk) (w:World):Prop where
 line:Blk w L #[v]
 own:qdq w base v xs
 keeps:Keeps W0 w
theorem Line.go {W0 w w':World} {L base:Nat} {v:Value} {xs:List Tsk} (h:Line W0 L base v xs w) (k:Keeps w w'):Line W0 L base v xs w':=⟨h.line.keeps k,h.own.keeps k,h.keeps.trans k⟩
theorem Line.at {W0 w:World} {L base b n cap:Nat} {xs:List Tsk} (h:Line W0 L base (.slice (some ⟨b,0,none⟩) n cap) xs w) {i:Nat} {x:Tsk} (hx:xs[i]?=some x):(w.cell? ⟨b,i*7,none⟩=(rtc x)[0]?) /\ ∀ j,j < 7->w.cell? ⟨b,i*7+j,none⟩=(rtc x)[j]?:=by
 obtain ⟨a,cp,e,l,-,-⟩:=h.own.slice qc5
 simp only [Value.slice.injEq] at e
 obtain ⟨rfl,-,-⟩:=e
 rcases l with rfl | ⟨b',off,e',-,l⟩
 ·simp at hx
 ·simp only [Option.some.injEq,Addr.mk.injEq] at e'
  obtain ⟨rfl,rfl,-⟩:=e'
  exact ⟨by simpa using l i x hx 0 (by omega),fun j hj=>by simpa using l i x hx j hj⟩
theorem Line.swap {W0 w:World} {L base b n cap:Nat} {ys:List Tsk} (h:Line W0 L base (.slice (some ⟨b,0,none⟩) n cap) ys w) {k m:Nat} (hk:k < ys.length) (hm:m < ys.length) (hn:ys.length=n) (hL:L < base) (h0:W0.heap.size <= L) (x y:Tsk) :
  Line W0 L base (.slice (some ⟨b,0,none⟩) n cap) ((ys.set k y).set m x) (putC (putC w b (k*7) (rtc y).toList) b (m*7) (rtc x).toList).drew:=by
 subst hn
 obtain ⟨f1,f2,-⟩:=h.own.free
 have o1:=h.own.put qc5 hk y
 rw [List.length_set] at o1
 have o2:qdq (putC (putC w b (k*7) (rtc y).toList) b (m*7) (rtc x).toList) base (.slice (some ⟨b,0,none⟩) ys.length cap) ((ys.set k y).set m x):=by
  have:=Own.put (xs:=ys.set k y) (i:=m) qc5 (by rw [List.length_set];exact o1) (by simpa using hm) x
  rw [List.length_set,List.length_set] at this
  exact this
 exact ⟨(Blk.farC (by omega) _ _ (Blk.farC (by omega) _ _ h.line)).keeps (Keeps.refl _).drew,o2.keeps (Keeps.refl _).drew,(Keeps.putC (b:=b) (by omega) _ _ (Keeps.putC (b:=b) (by omega) _ _ h.keeps)).drew⟩
def PutR (W0:World) (L base:Nat) (xs:List Tsk) (x:Tsk) (w':World):Prop:=∃ v' ys,Line W0 L base v' ys w' /\ Sifted xs x ys
set_option maxHeartbeats 8000000 in
theorem qkX (x:Tsk) (L:Nat) (v:Value) (xs:List Tsk) (base:Nat) (W0 w:World) (hi:Line W0 L base v xs w) (hh:HeapL xs) (h0:W0.heap.size <= L) (h1:L < base) (h2:base <= w.heap.size) (hlen:xs.length < 1048576) :
  Calls Tryz.prog 142 #[.pointer (some ⟨L,0,none⟩),.agg (rtc x)] w fun e w'=>e = .returned (.tuple #[]) /\ PutR W0 L base xs x w':=by
 obtain ⟨B,hown,hk⟩:=hi
 obtain ⟨a0,cap0,rfl,-,-,-⟩:=hown.slice qc5
 have hob:∀ k,(Value.slice a0 xs.length cap0).ownBlock=some k->base <= k:=fun k hk=>(World.ownsRow.lt hown k hk).1
 generalize hn0:xs.length=n0 at *
 have Hn0:Hid (xs.length=n0):=hn0
 clear hn0
 have B1:Hid (Blk (w.alloc (.cells (rtc x) 129)) L #[.slice a0 n0 cap0]):=B.alloc _
 have O1:Hid (qdq (w.alloc (.cells (rtc x) 129)) base (.slice a0 n0 cap0) xs):=hown.alloc _
 have KW:Hid (Keeps W0 (w.alloc (.cells (rtc x) 129))):=hk.alloc _
 have X1:=Blk.new w (rtc x) 129
 have hsz:Hid ((w.alloc (.cells (rtc x) 129)).heap.size=w.heap.size+1):=by show _=_;simp
 go_enter Tryz.func142,Tryz.ntmps142
 go_wp2_with fail
 obtain ⟨_,z1,z2⟩:=X1
 have b1:(w.alloc (.cells (rtc x) 129)).cell? ⟨L,0,none⟩=some (.slice a0 n0 cap0):=B1.out.cells 0
 have b2:=B1.out.frozens 0
 have lw0:=B1.out.lt
 clear B hown hk
 generalize w.alloc (.cells (rtc x) 129)=W at *
 go_cut [14] (fun c wx=>c = .pointer (some ⟨L,0,none⟩) /\ ∃ b cap,Line W0 L base (.slice (some ⟨b,0,none⟩) (n0+1) cap) (xs++[x]) wx)
 case first =>
  go_region_law (refine qet rfl (.tmp 10) (.tmp 12) 182 rfl base 129 (.agg (rtc Tsk.zero)) 7 56 rtc Tryz.underlying182 (by kernel_rfl) rfl (by decide) qc5 qkV (.slice a0 n0 cap0) xs (by simp [Act.eval]) ((O1.out.alloc _).keeps (Keeps.refl _).drew) (by have:=hsz.out;simp;omega) x _ 1 ((Blk.new _ _ _).keeps (Keeps.refl _).drew) (by simp [Act.eval]) (by have:=Hn0.out;unfold maxLen;omega) (by have:=Hn0.out;omega) ?_;intro v' w' hown hgrow;obtain ⟨bb,cap,rfl,li,-,-⟩:=hown.some qc5 (by simp);have G:Hid (Blk w' L #[.slice a0 n0 cap0]):=((B1.out.alloc _).keeps (Keeps.refl _).drew).grown hgrow (by intro k hk;have:=hob k hk;omega);have g1:w'.cell? ⟨L,0,none⟩=some (.slice a0 n0 cap0):=G.out.cells 0;have g2:=G.out.frozens 0;have g0:=G.out.lt)
  all_goals
   go_wp2
   go_meet
   have e1:(xs++[x]).length=n0+1:=by have:=Hn0.out;simp;omega
   rw [e1] at hown
   refine ⟨rfl,bb,cap,⟨?_,?_,?_⟩⟩
   ·have:=G.out.set 0 (by simp) (.slice (some ⟨bb,0,none⟩) (n0+1) cap)
    simpa [e1,Hn0.out] using this
   ·have:=hown.butG ((KeepsBut.refl L w').setCell 0 (.slice (some ⟨bb,0,none⟩) (n0+1) cap)) h1
    simpa [e1,Hn0.out] using this
   ·exact ((KW.out.alloc _).drew.grown hgrow (by intro k hk;have:=hob k hk;omega)).setCell h0 _
 case rest =>
  obtain ⟨rfl,b,cap,T⟩:=hcut
  generalize wc=X at *
  have TH:Hid (Line W0 L base (.slice (some ⟨b,0,none⟩) (n0+1) cap) (xs++[x]) X):=T
  have l1:X.cell? ⟨L,0,none⟩=some (.slice (some ⟨b,0,none⟩) (n0+1) cap):=T.line.cells 0
  clear T z1 z2 b1 b2
  go_wp2_with fail
  go_loopw [4] (fun a wr=>∃ k:Nat,a = .int .i64 k /\ ∃ ys,Sift xs x k ys /\ Line W0 L base (.slice (some ⟨b,0,none⟩) (n0+1) cap) ys wr) (fun a _=>(intOf a).toNat)
  case atStart=>exact ⟨n0,by go_num,xs++[x],by have:=Sift.start hh x;rw [Hn0.out] at this;exact this,TH.out⟩
  case round =>
   obtain ⟨k,rfl,ys,hS,hL⟩:=hrel
   have SH:Hid (Sift xs x k ys):=hS
   have LH:Hid (Line W0 L base (.slice (some ⟨b,0,none⟩) (n0+1) cap) ys wr):=hL
   have Hl:Hid (ys.length=n0+1):=by show _=_;rw [hS.len,Hn0.out]
   have hkn:k < n0+1:=by have:=hS.lt;rw [Hl.out] at this;exact this
   clear l1 TH hS hL
   by_cases hk0:k=0
   ·have hg:decide (0 < k)=false:=by simp;omega
    have S0:Sift xs x 0 ys:=by have:=SH.out;rw [hk0] at this;exact this
    have SE:Hid (Sifted xs x ys):=S0.atTop
    clear S0 hk0
    go_wp2
    go_end0
    exact ⟨rfl,_,ys,LH.out,SE.out⟩
   ·have hg:decide (0 < k)=true:=by simp;omega
    obtain ⟨m,hm⟩:∃ m,m=k - 1:=⟨_,rfl⟩
    obtain ⟨p,hp⟩:∃ p,p=(k - 1) / 2:=⟨_,rfl⟩
    have hp7:p < k:=by omega
    obtain ⟨y,hy⟩:∃ y,ys[(k - 1) / 2]?=some y:=⟨_,List.getElem?_eq_getElem (by have:=Hl.out;omega)⟩
    have HY:Hid (ys[(k - 1) / 2]?=some y):=hy
    have HP:Hid (p=(k - 1) / 2):=hp
    have hpn:p < n0+1:=by omega
    have hki:(k:Int) < (n0:Int)+1:=by omega
    have hpi:(p:Int) < (n0:Int)+1:=by omega
    have e1:(k:Int) - 1=(m:Int):=by omega
    have e2:IntKind.i64.wrap (m:Int)=(m:Int):=Go.IntWalk.i64_in _ (by omega)
    have e3:Int.tdiv (m:Int) 2=(p:Int):=by
     have:(m:Int).tdiv 2=((m / 2:Nat):Int):=rfl
     rw [this,hp,hm]
    have e4:IntKind.i64.wrap (p:Int)=(p:Int):=Go.IntWalk.i64_in _ (by omega)
    obtain ⟨x00,x01⟩:=LH.out.at SH.out.me
    obtain ⟨y00,y01⟩:=LH.out.at hy
    rw [<- hp] at y00 y01
    clear hm hp hy
    generalize wr=X at *
    have l1:∀ w',Keeps X w'->w'.cell? ⟨L,0,none⟩=some (.slice (some ⟨b,0,none⟩) (n0+1) cap):=Keeps.has (LH.out.line.cells 0)
    have x0:∀ w',Keeps X w'->w'.cell? ⟨b,k*7,none⟩=some (.int .i64 x.no):=Keeps.has x00
    have x1:∀ w',Keeps X w'->w'.cell? ⟨b,k*7+1,none⟩=some (.int .i64 x.cls):=Keeps.has (x01 1 (by omega))
    have x2:∀ w',Keeps X w'->w'.cell? ⟨b,k*7+2,none⟩=some (.int .i64 x.cpu):=Keeps.has (x01 2 (by omega))
    have x3:∀ w',Keeps X w'->w'.cell? ⟨b,k*7+3,none⟩=some (.int .i64 x.st):=Keeps.has (x01 3 (by omega))
    have x4:∀ w',Keeps X w'->w'.cell? ⟨b,k*7+4,none⟩=some (.bool x.idle):=Keeps.has (x01 4 (by omega))
    have x5:∀ w',Keeps X w'->w'.cell? ⟨b,k*7+5,none⟩=some (.int .i64 x.nice):=Keeps.has (x01 5 (by omega))
    have x6:∀ w',Keeps X w'->w'.cell? ⟨b,k*7+6,none⟩=some (.int .i64 x.v):=Keeps.has (x01 6 (by omega))
    have y0:∀ w',Keeps X w'->w'.cell? ⟨b,p*7,none⟩=some (.int .i64 y.no):=Keeps.has y00
    have y1:∀ w',Keeps X w'->w'.cell? ⟨b,p*7+1,none⟩=some (.int .i64 y.cls):=Keeps.has (y01 1 (by omega))
    have y2:∀ w',Keeps X w'->w'.cell? ⟨b,p*7+2,none⟩=some (.int .i64 y.cpu):=Keeps.has (y01 2 (by omega))
    have y3:∀ w',Keeps X w'->w'.cell? ⟨b,p*7+3,none⟩=some (.int .i64 y.st):=Keeps.has (y01 3 (by omega))
    have y4:∀ w',Keeps X w'->w'.cell? ⟨b,p*7+4,none⟩=some (.bool y.idle):=Keeps.has (y01 4 (by omega))
    have y5:∀ w',Keeps X w'->w'.cell? ⟨b,p*7+5,none⟩=some (.int .i64 y.nice):=Keeps.has (y01 5 (by omega))
    have y6:∀ w',Keeps X w'->w'.cell? ⟨b,p*7+6,none⟩=some (.int .i64 y.v):=Keeps.has (y01 6 (by omega))
    clear x00 x01 y00 y01
    have hm:=qkW x
    go_wp2_with fail
    cases hbf:befV x y
    ·have SE:Hid (Sifted xs x ys):=SH.out.stay (by omega) HY.out hbf
     refine wp_region_held_drew (S:=(fun w'=>Keeps X w')) (by kernel_rfl) ?_ (fun hHeld => ?_)
     ·exact (Keeps.refl X).drew
     refine Plan.go [0,1,2,3,4,5,6,7,8,9,10,11,12,13,14] ?_
     iterate 15 (refine qac (by simp only [qab];rfl) (by kernel_rfl) (by exact fun _ _ _ h=>h) (by rfl) (by assumption) (fun w _=>by go_simp;try (with_reducible rfl)) ?_;try simp only [qaa])
     refine Plan.nil ?_
     refine qad 15 (by kernel_rfl) (by simp only [qab];rfl) (fun K hK => ?_)
     go_simp
     first
      | (go_at_call 283;refine (qg7 x y _).mono ?_;rintro e w5 ⟨rfl,k5⟩;rw [hbf])
     try go_wp2_with fail
     refine hK.out _ _ ?_ (fun hHeld => ?_)
     ·exact Keeps.trans (by assumption) (by assumption)
     clear hK K
     try simp only [qaa]
     refine qan 16 (v := ?_) (by simp only [qab];rfl) (by kernel_rfl) (by exact fun _ _ _ h=>h) (by rfl) (by assumption) ?_ ?_
     rotate_left
     ·(intro w _;go_simp;try (with_reducible rfl))
     try simp only [qaa]
     refine wpAnyH_done (by kernel_rfl) ?_ _
     have K5:Keeps X w5:=by assumption
     go_wp2
     exact bodyPost_ret (v := .tuple #[]) (results_none rfl _ _ _) rfl ⟨rfl,_,ys,LH.out.go K5,SE.out⟩
    ·have SU:Hid (Sift xs x p ((ys.set k y).set p x)):=by have:=SH.out.up (by omega) HY.out hbf;rw [<- HP.out] at this;exact this
     refine wp_region_held_drew (S:=(fun w'=>Keeps X w')) (by kernel_rfl) ?_ (fun hHeld => ?_)
     ·exact (Keeps.refl X).drew
     refine Plan.go [0,1,2,3,4,5,6,7,8,9,10,11,12,13,14] ?_
     iterate 15 (refine qac (by simp only [qab];rfl) (by kernel_rfl) (by exact fun _ _ _ h=>h) (by rfl) (by assumption) (fun w _=>by go_simp;try (with_reducible rfl)) ?_;try simp only [qaa])
     refine Plan.nil ?_
     refine qad 15 (by kernel_rfl) (by simp only [qab];rfl) (fun K hK => ?_)
     go_simp
     first
      | (go_at_call 283;refine (qg7 x y _).mono ?_;rintro e w5 ⟨rfl,k5⟩;rw [hbf])
     try go_wp2_with fail
     refine hK.out _ _ ?_ (fun hHeld => ?_)
     ·exact Keeps.trans (by assumption) (by assumption)
     clear hK K
     try simp only [qaa]
     refine qan 16 (v := ?_) (by simp only [qab];rfl) (by kernel_rfl) (by exact fun _ _ _ h=>h) (by rfl) (by assumption) ?_ ?_
     rotate_left
     ·(intro w _;go_simp;try (with_reducible rfl))
     try simp only [qaa]
     refine wpAnyH_done (by kernel_rfl) ?_ _
     have K5:Keeps X w5:=by assumption
     have ll:w5.cell? ⟨L,0,none⟩=some (.slice (some ⟨b,0,none⟩) (n0+1) cap):=l1 _ K5
     obtain ⟨-,-,fr⟩:=(LH.out.go K5).own.free
     have v0:w5.cell? ⟨b,k*7,none⟩=some (.int .i64 x.no):=x0 _ K5
     have v1:w5.cell? ⟨b,k*7+1,none⟩=some (.int .i64 x.cls):=x1 _ K5
     have v2:w5.cell? ⟨b,k*7+2,none⟩=some (.int .i64 x.cpu):=x2 _ K5
     have v3:w5.cell? ⟨b,k*7+3,none⟩=some (.int .i64 x.st):=x3 _ K5
     have v4:w5.cell? ⟨b,k*7+4,none⟩=some (.bool x.idle):=x4 _ K5
     have v5:w5.cell? ⟨b,k*7+5,none⟩=some (.int .i64 x.nice):=x5 _ K5
     have v6:w5.cell? ⟨b,k*7+6,none⟩=some (.int .i64 x.v):=x6 _ K5
     have u0:w5.cell? ⟨b,p*7,none⟩=some (.int .i64 y.no):=y0 _ K5
     have u1:w5.cell? ⟨b,p*7+1,none⟩=some (.int .i64 y.cls):=y1 _ K5
     have u2:w5.cell? ⟨b,p*7+2,none⟩=some (.int .i64 y.cpu):=y2 _ K5
     have u3:w5.cell? ⟨b,p*7+3,none⟩=some (.int .i64 y.st):=y3 _ K5
     have u4:w5.cell? ⟨b,p*7+4,none⟩=some (.bool y.idle):=y4 _ K5
     have u5:w5.cell? ⟨b,p*7+5,none⟩=some (.int .i64 y.nice):=y5 _ K5
     have u6:w5.cell? ⟨b,p*7+6,none⟩=some (.int .i64 y.v):=y6 _ K5
     clear l1 x0 x1 x2 x3 x4 x5 x6 y0 y1 y2 y3 y4 y5 y6 k5 hHeld
     go_wp2_with fail
     go_region
     have D:=(LH.out.go K5).swap (k:=k) (m:=p) (by have:=Hl.out;omega) (by have:=Hl.out;omega) Hl.out h1 h0 x y
     change Exit.then _ _ _ _ (putC (putC w5 b (k*7) (rtc y).toList) b (p*7) (rtc x).toList).drew
     clear u0 u1 u2 u3 u4 u5 u6 v0 v1 v2 v3 v4 v5 v6 fr ll
     generalize (putC (putC w5 b (k*7) (rtc y).toList) b (p*7) (rtc x).toList).drew=Y at D ⊢
     have DH:Hid (Line W0 L base (.slice (some ⟨b,0,none⟩) (n0+1) cap) ((ys.set k y).set p x) Y):=D
     clear D
     go_wp2
     go_roundw
     case rel=>exact ⟨p,rfl,_,SU.out,DH.out⟩
     case measure=>simp only [intOf];omega
theorem qe1 (t:Tsk) (w:World) :
  Calls Tryz.prog 103 #[tk t] w fun e w'=>e = .returned (.bool (qaC t)) /\ Keeps w w':=by
 cases c1:(t.cls==3)
 ·have Hr:Hid (qaC t=false):=by show _=_;simp [qaC,c1]
  go_enter Tryz.func103,Tryz.ntmps103
  go_wp2
  go_ret
  exact ⟨by rw [Hr.out];rfl,(Keeps.refl _).alloc _⟩
 ·have Hr:Hid (qaC t=qae t):=by show _=_;simp [qaC,c1]
  go_enter Tryz.func103,Tryz.ntmps103
  go_wp2_with (go_at_call 83;refine (qc7 t _).mono ?_;rintro e w1 ⟨rfl,k1⟩)
  go_ret
  exact ⟨by rw [Hr.out];rfl,((Keeps.refl w).alloc _).trans k1⟩
end Go.Proofs.YthpdlbcdbncnhaaGreatDoor
