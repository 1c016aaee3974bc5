/-
  Fixed priorities, the program's side: who is before whom.
-/
import Derived.Test.YthpdlbcdbncnhaaGreatDoorGIfix1
import Derived.Laws.StructEq
import Derived.Deep.RegionHeld3
namespace Go.Proofs.YthpdlbcdbncnhaaGreatDoor
set_option maxRecDepth 100000
open Go.RowKit
attribute [local go_sem] Keeps.refl Keeps.alloc Keeps.drew Keeps.drewN
def eqF (a b:Tsk):Bool:=a.no==b.no&&(a.cls==b.cls&&(a.cpu==b.cpu&&(a.st==b.st&&(a.idle==b.idle&&(a.prio==b.prio&&(a.round==b.round&&(a.left==b.left&&(a.seq==b.seq))))))))
theorem qoj (d:Nat) (w:World) (a b:Tsk):(Op.equalIn (d+4) 177 (.agg (ftc a)) (.agg (ftc b))).run Tryz.prog w = .ok (eqF a b) w:=by
 rw [run_equalIn_agg _ _ _ _ _ (by kernel_rfl) (by kernel_rfl)]
 go_simp
 unfold eqF
 by_cases h0:a.no=b.no
 case neg=>simp only [if_neg h0,beq_eq_false_iff_ne.2 h0,Bool.false_and]
 simp only [if_pos h0,beq_iff_eq.2 h0,Bool.true_and]
 by_cases h1:a.cls=b.cls
 case neg=>simp only [if_neg h1,beq_eq_false_iff_ne.2 h1,Bool.false_and]
 simp only [if_pos h1,beq_iff_eq.2 h1,Bool.true_and]
 by_cases h2:a.cpu=b.cpu
 case neg=>simp only [if_neg h2,beq_eq_false_iff_ne.2 h2,Bool.false_and]
 simp only [if_pos h2,beq_iff_eq.2 h2,Bool.true_and]
 by_cases h3:a.st=b.st
 case neg=>simp only [if_neg h3,beq_eq_false_iff_ne.2 h3,Bool.false_and]
 simp only [if_pos h3,beq_iff_eq.2 h3,Bool.true_and]
 by_cases h4:a.idle=b.idle
 case neg=>simp only [if_neg h4,beq_eq_false_iff_ne.2 h4,Bool.false_and]
 simp only [if_pos h4,beq_iff_eq.2 h4,Bool.true_and]
 by_cases h5:a.prio=b.prio
 case neg=>simp only [if_neg h5,beq_eq_false_iff_ne.2 h5,Bool.false_and]
 simp only [if_pos h5,beq_iff_eq.2 h5,Bool.true_and]
 by_cases h6:a.round=b.round
 case neg=>simp only [if_neg h6,beq_eq_false_iff_ne.2 h6,Bool.false_and]
 simp only [if_pos h6,beq_iff_eq.2 h6,Bool.true_and]
 by_cases h7:a.left=b.left
 case neg=>simp only [if_neg h7,beq_eq_false_iff_ne.2 h7,Bool.false_and]
 simp only [if_pos h7,beq_iff_eq.2 h7,Bool.true_and]
 by_cases h8:a.seq=b.seq
 ·simp only [if_pos h8,beq_iff_eq.2 h8]
 ·simp only [if_neg h8,beq_eq_false_iff_ne.2 h8]
theorem qok (w:World) (a b:Tsk):(binOp .neq 177 (.agg (ftc a)) (.agg (ftc b))).run Tryz.prog w = .ok (.bool (!eqF a b)) w:=by
 rw [run_neq_struct,qoj 9996];rfl
theorem qol (x y:Tsk):(!eqF (befX x y) y)=befF x y:=by
 cases h:befF x y
 ·simp [befX,h,eqF]
 ·simp only [befX,h,if_true]
  rw [Bool.not_eq_true',Bool.eq_false_iff]
  intro e
  simp only [eqF,Bool.and_eq_true,beq_iff_eq] at e
  simp only [befF,Bool.or_eq_true,Bool.and_eq_true,decide_eq_true_eq,beq_iff_eq] at h
  omega
theorem qom {x y:Tsk} (h:x.prio≠y.prio):(!eqF x y)=true:=by
 rw [Bool.not_eq_true',Bool.eq_false_iff]
 intro e
 simp only [eqF,Bool.and_eq_true,beq_iff_eq] at e
 exact h e.2.2.2.2.2.1
theorem qon (x:Tsk):(!eqF x x)=false:=by simp [eqF]
attribute [local go_sem high] qok
abbrev qcu:Array Value:=#[.slice none 0 0,.slice none 0 0,.slice none 0 0,.slice none 0 0,.slice none 0 0,.slice none 0 0,.slice none 0 0,.slice none 0 0,.slice none 0 0,.slice none 0 0,.slice none 0 0,.slice none 0 0,.slice none 0 0,.slice none 0 0,.slice none 0 0,.slice none 0 0,.slice none 0 0,.slice none 0 0,.slice none 0 0,.slice none 0 0]
theorem qi2 {k:Nat} (h:k < 20):qcu[k]?=some (.slice none 0 0):=by
 have:qcu=Array.replicate 20 (.slice none 0 0):=rfl
 rw [this,Array.getElem?_replicate,if_pos h]
theorem qfo {o k:Nat} (v:Value) (h:k < 20) (hk:k≠o):(qcu.setIfInBounds o v)[k]?=some (.slice none 0 0):=by
 rw [Array.getElem?_setIfInBounds_ne (Ne.symm hk)];exact qi2 h
theorem qi3 {o:Nat} (v:Value) (h:o < 20):(qcu.setIfInBounds o v)[o]?=some v:=Array.getElem?_setIfInBounds_self_of_lt (by simpa using h)
theorem qi4 {w:World} {base:Nat} {v:Value} {x:Tsk} (h:Own 177 9 ftc w base v [x]):∃ c cap,v = .slice (some ⟨c,0,none⟩) 1 cap /\ ∀ k,k < 9->w.cell? ⟨c,k,none⟩=(ftc x)[k]?:=by
 obtain ⟨c,cap,rfl,-,-,-⟩:=h.some qdr (by simp)
 obtain ⟨a,cp,e,l,-,-⟩:=h.slice qdr
 simp only [Value.slice.injEq] at e
 obtain ⟨rfl,-,rfl⟩:=e
 rcases l with l | ⟨b',off,e',hb',l⟩
 ·simp at l
 ·simp only [Option.some.injEq,Addr.mk.injEq] at e'
  obtain ⟨rfl,rfl,-⟩:=e'
  exact ⟨c,cap,rfl,fun k hk=>by simpa using l 0 x rfl k hk⟩
structure Topped (W:World) (L:Nat) (z:Tsk) (w:World):Prop where
 keeps:Keeps W w
 rows:∃ o c n cap,o < 20 /\ 0 < n /\ w.cell? ⟨L,o,none⟩=some (.slice (some ⟨c,0,none⟩) n cap) /\ (∀ k,o < k->k < 20->w.cell? ⟨L,k,none⟩=some (.slice none 0 0)) /\ ∀ k,k < 9->w.cell? ⟨c,k,none⟩=(ftc z)[k]?
def One (W:World) (L o:Nat) (y:Tsk) (w:World):Prop:=∃ v s,Blk w L (qcu.setIfInBounds o v) /\ Own 177 9 ftc w s v [y] /\ Keeps W w /\ L < s /\ s <= w.heap.size
theorem One.go {W:World} {L o:Nat} {y:Tsk} {w w':World} (h:One W L o y w) (k:Keeps w w'):One W L o y w':=by
 obtain ⟨v,s,B,O,K,h1,h2⟩:=h
 exact ⟨v,s,B.keeps k,O.keeps k,K.trans k,h1,Nat.le_trans h2 k.size⟩
theorem qoo (b:Tsk) (L ob:Nat) (W w:World) (hb:b.prio=(ob:Int)+1) (hb20:ob < 20) (B:Blk w L qcu) (K:Keeps W w) (hL:W.heap.size <= L) :
  Calls Tryz.prog 294 #[.pointer (some ⟨L,0,none⟩),.agg (ftc b)] w fun e w'=>e = .returned (.tuple #[]) /\ One W L ob b w':=by
 refine qhc b L ob w hb hb20 fun w1 h=>(qhb b L ob qcu w1 (B.keeps h) (qi2 hb20)).mono ?_
 rintro e w' ⟨rfl,v,B1,O,k⟩
 exact ⟨rfl,v,w1.heap.size,B1,O,k.keeps (K.trans h) hL,(B.keeps h).lt,k.size⟩
def topX (a b:Tsk):Tsk:=if a.prio != b.prio then (if b.prio < a.prio then a else b) else befX a b
theorem qop (a b:Tsk) (L oa ob:Nat) (W w:World) (ha:a.prio=(oa:Int)+1) (ha20:oa < 20) (hb:b.prio=(ob:Int)+1) (hb20:ob < 20) (H:One W L ob b w) (hL:W.heap.size <= L) :
  Calls Tryz.prog 294 #[.pointer (some ⟨L,0,none⟩),.agg (ftc a)] w fun e w'=>e = .returned (.tuple #[]) /\ Topped W L (topX a b) w':=by
 refine qhc a L oa w ha ha20 fun w1 h => ?_
 obtain ⟨v,s,B,O,K,h1,h2⟩:=H.go h
 by_cases e:oa=ob
 ·subst e
  refine (qla a b L oa _ v s W w1 B (qi3 v hb20) O K hL h1 h2).mono ?_
  rintro e w' ⟨rfl,c,cap,q1,q2,q3,k⟩
  have ht:topX a b=befX a b:=by unfold topX;rw [if_neg (by simp;omega)]
  rw [ht]
  exact ⟨rfl,k,oa,c,2,cap,ha20,by omega,q1,fun j j1 j2=>(q2 j (by omega)).trans (qfo v j2 (by omega)),q3⟩
 ·refine (qhb a L oa _ w1 B (qfo v ha20 e)).mono ?_
  rintro e' w' ⟨rfl,u,B1,O1,k⟩
  have O2:=O.butG k h1
  obtain ⟨c1,cap1,rfl,z1⟩:=qi4 O1
  obtain ⟨c2,cap2,rfl,z2⟩:=qi4 O2
  have hsz:oa < (qcu.setIfInBounds ob (.slice (some ⟨c2,0,none⟩) 1 cap2)).size:=by simpa using ha20
  have qa:w'.cell? ⟨L,oa,none⟩=some (.slice (some ⟨c1,0,none⟩) 1 cap1):=(B1.cells oa).trans (Array.getElem?_setIfInBounds_self_of_lt hsz)
  have qo:∀ j,j≠oa->w'.cell? ⟨L,j,none⟩=(qcu.setIfInBounds ob (.slice (some ⟨c2,0,none⟩) 1 cap2))[j]?:=fun j hj=>(B1.cells j).trans (Array.getElem?_setIfInBounds_ne (Ne.symm hj))
  refine ⟨rfl,k.keeps K hL,?_⟩
  by_cases hlt:ob < oa
  ·have ht:topX a b=a:=by unfold topX;rw [if_pos (by simp;omega),if_pos (by omega)]
   rw [ht]
   exact ⟨oa,c1,1,cap1,ha20,by omega,qa,fun j j1 j2=>(qo j (by omega)).trans (qfo _ j2 (by omega)),z1⟩
  ·have ht:topX a b=b:=by unfold topX;rw [if_pos (by simp;omega),if_neg (by omega)]
   rw [ht]
   exact ⟨ob,c2,1,cap2,hb20,by omega,(qo ob (Ne.symm e)).trans (qi3 _ hb20),fun j j1 j2=>(qo j (by omega)).trans (qfo _ j2 (by omega)),z2⟩
theorem qoq (a b:Tsk):(!eqF (topX a b) b)=(if a.prio != b.prio then decide (b.prio < a.prio) else befF a b):=by
 unfold topX
 by_cases h:a.prio=b.prio
 ·rw [if_neg (by simpa using h),if_neg (by simpa using h)]
  exact qol a b
 ·have hne:(a.prio != b.prio)=true:=by simpa using h
  simp only [hne,if_true]
  by_cases h2:b.prio < a.prio
  ·rw [if_pos h2,qom h];simp [h2]
  ·rw [if_neg h2,qon];simp [h2]
theorem qor {W W6 w:World} {L:Nat} {z:Tsk} (T:Topped W L z W6) (K:Keeps W6 w) :
  Calls Tryz.prog 295 #[.pointer (some ⟨L,0,none⟩)] w fun e w'=>e = .returned (.agg (ftc z)) /\ Keeps w w':=by
 obtain ⟨o,c,n,cap,h1,h2,h3,h4,h5⟩:=T.rows
 have lL:=World.block_lt_of_cell? W6 _ h3
 have lc:=World.block_lt_of_cell? W6 _ (h5 0 (by omega))
 exact qlb L o c n cap z w h1 h2 ((K.cells _ _ lL).trans h3) (fun k k1 k2=>(K.cells _ _ lL).trans (h4 k k1 k2)) (fun k hk=>(K.cells _ _ lc).trans (h5 k hk))
set_option maxHeartbeats 4000000 in
theorem qgv:qkF:=by
 intro a b w
 go_enter Tryz.func292,Tryz.ntmps292
 go_wp2_with fail
 have kW:Keeps w ((w.alloc (.cells (tc a) 47)).alloc (.cells (tc b) 47)):=((Keeps.refl w).alloc _).alloc _
 have r1:∀ w',Keeps ((w.alloc (.cells (tc a) 47)).alloc (.cells (tc b) 47)) w'->∀ k,w'.cell? ⟨w.heap.size,k,none⟩=(tc a)[k]?:=fun w' h=>(((Blk.new w (tc a) 47).alloc _).keeps h).cells
 have r2:∀ w',Keeps ((w.alloc (.cells (tc a) 47)).alloc (.cells (tc b) 47)) w'->∀ k,w'.cell? ⟨w.heap.size+1,k,none⟩=(tc b)[k]?:=fun w' h=>by
  have:=(Blk.new (w.alloc (.cells (tc a) 47)) (tc b) 47).keeps h
  simp only [World.size_alloc] at this
  exact this.cells
 generalize (w.alloc (.cells (tc a) 47)).alloc (.cells (tc b) 47)=W at *
 refine (qg8 a _).mono ?_
 rintro e w1 ⟨rfl,k1⟩
 cases ha:fixB a
 ·have Hr:Hid (qaS a b=false):=by show _=_;simp [qaS,ha]
  go_wp2
  go_ret
  exact ⟨by rw [Hr.out];rfl,kW.trans k1⟩
 ·go_wp2_with fail
  refine (qg8 b _).mono ?_
  rintro e w2 ⟨rfl,k2⟩
  have K2:=k1.trans k2
  cases hb:fixB b
  ·have Hr:Hid (qaS a b=false):=by show _=_;simp [qaS,hb]
   go_wp2
   go_ret
   exact ⟨by rw [Hr.out];rfl,kW.trans K2⟩
  ·obtain ⟨oa,Ha,ha20⟩:∃ oa:Nat,Hid (a.prio=(oa:Int)+1) /\ Hid (oa < 20):=by
    have:=((qgg a).1 ha).prio
    exact ⟨(a.prio - 1).toNat,by show _=_;omega,by show _ < _;omega⟩
   obtain ⟨ob,Hb,hb20⟩:∃ ob:Nat,Hid (b.prio=(ob:Int)+1) /\ Hid (ob < 20):=by
    have:=((qgg b).1 hb).prio
    exact ⟨(b.prio - 1).toNat,by show _=_;omega,by show _ < _;omega⟩
   have Hr:Hid (qaS a b=(if a.prio != b.prio then decide (b.prio < a.prio) else befF a b)):=by
    show _=_
    simp only [qaS,befF,ha,hb,Bool.true_and]
    congr 1
    cases h:(a.seq != b.seq)
    ·have:a.seq=b.seq:=by simpa using h
     simp [this]
    ·have h2:(a.seq==b.seq)=false:=by simpa [bne] using h
     simp [h2]
   clear k1 k2
   go_wp2_with fail
   have BL:=Blk.new w2 qcu 312
   have K3:Keeps W (w2.alloc (.cells qcu 312)):=K2.alloc _
   have hL:=K2.size
   refine (qey b _).mono ?_
   rintro e w3 ⟨rfl,k3⟩
   have k3':Hid (Keeps W w3):=K3.trans k3
   have B3:Hid (Blk w3 w2.heap.size qcu):=BL.keeps k3
   clear BL K3 k3 K2
   generalize w2.heap.size=L at *
   go_wp2_with fail
   refine (qoo b L ob W w3 Hb.out hb20.out B3.out k3'.out hL).mono ?_
   rintro e w4 ⟨rfl,O4⟩
   have O4H:Hid (One W L ob b w4):=O4
   have k4:Keeps W w4:=by obtain ⟨_,_,_,_,k,_,_⟩:=O4;exact k
   clear O4 B3 k3'
   go_wp2_with fail
   refine (qey a _).mono ?_
   rintro e w5 ⟨rfl,k5⟩
   go_wp2_with fail
   refine (qop a b L oa ob W w5 Ha.out ha20.out Hb.out hb20.out (O4H.out.go k5) hL).mono ?_
   rintro e w6 ⟨rfl,T6⟩
   obtain ⟨z,Hz⟩:∃ z,Hid (topX a b=z):=⟨_,rfl⟩
   have He:Hid ((!eqF z b)=qaS a b):=by show _=_;rw [<- Hz.out,Hr.out];exact qoq a b
   rw [Hz.out] at T6
   have k6:=T6.keeps
   have T6H:Hid (Topped W L z w6):=T6
   have r3:∀ w',Keeps w6 w'->∀ k,w'.cell? ⟨w.heap.size+1,k,none⟩=(tc b)[k]?:=fun w' h=>r2 w' (k6.trans h)
   clear r1 r2 T6 k4 k5 O4H
   have K0:=Keeps.refl w6
   go_wp2_with fail
   go_region_held3 (fun w'=>Keeps w6 w') (first | exact Keeps.drew (by assumption) | exact Keeps.trans (by assumption) (by assumption))
    (first
    | (go_at_call 134;refine (qey b _).mono ?_;rintro e w7 ⟨rfl,k7⟩)
    | (go_at_call 295;refine (qor (K:=by assumption) T6H.out).mono ?_;rintro e w8 ⟨rfl,k8⟩))
   go_wp2
   go_ret
   exact ⟨by rw [<- He.out];rfl,kW.trans (k6.trans (by assumption))⟩
end Go.Proofs.YthpdlbcdbncnhaaGreatDoor
