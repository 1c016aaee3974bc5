/-
  Deadlines, the program's side: who is before whom.
-/
import Derived.Test.YthpdlbcdbncnhaaGreatDoorGIdue1
import Derived.Laws.StructEq
import Derived.Deep.RegionHeld3
namespace Go.Proofs.YthpdlbcdbncnhaaGreatDoor
set_option maxRecDepth 100000
open Go.RowKit
attribute [local go_sem] Keeps.refl Keeps.alloc Keeps.drew Keeps.drewN
def eqD (a b:Tsk):Bool:=a.no==b.no&&(a.cls==b.cls&&(a.cpu==b.cpu&&(a.st==b.st&&(a.idle==b.idle&&(a.q==b.q&&(a.p==b.p&&(a.left==b.left&&(a.due==b.due))))))))
theorem qkP (d:Nat) (w:World) (a b:Tsk):(Op.equalIn (d+4) 69 (.agg (dtc a)) (.agg (dtc b))).run Tryz.prog w = .ok (eqD a b) w:=by
 rw [run_equalIn_agg _ _ _ _ _ (by kernel_rfl) (by kernel_rfl)]
 go_simp
 unfold eqD
 by_cases h0:a.no=b.no
 case neg=>simp only [if_neg h0,beq_eq_false_iff_ne.2 h0,Bool.false_and]
 simp only [if_pos h0,beq_iff_eq.2 h0,Bool.true_and]
 by_cases h1:a.cls=b.cls
 case neg=>simp only [if_neg h1,beq_eq_false_iff_ne.2 h1,Bool.false_and]
 simp only [if_pos h1,beq_iff_eq.2 h1,Bool.true_and]
 by_cases h2:a.cpu=b.cpu
 case neg=>simp only [if_neg h2,beq_eq_false_iff_ne.2 h2,Bool.false_and]
 simp only [if_pos h2,beq_iff_eq.2 h2,Bool.true_and]
 by_cases h3:a.st=b.st
 case neg=>simp only [if_neg h3,beq_eq_false_iff_ne.2 h3,Bool.false_and]
 simp only [if_pos h3,beq_iff_eq.2 h3,Bool.true_and]
 by_cases h4:a.idle=b.idle
 case neg=>simp only [if_neg h4,beq_eq_false_iff_ne.2 h4,Bool.false_and]
 simp only [if_pos h4,beq_iff_eq.2 h4,Bool.true_and]
 by_cases h5:a.q=b.q
 case neg=>simp only [if_neg h5,beq_eq_false_iff_ne.2 h5,Bool.false_and]
 simp only [if_pos h5,beq_iff_eq.2 h5,Bool.true_and]
 by_cases h6:a.p=b.p
 case neg=>simp only [if_neg h6,beq_eq_false_iff_ne.2 h6,Bool.false_and]
 simp only [if_pos h6,beq_iff_eq.2 h6,Bool.true_and]
 by_cases h7:a.left=b.left
 case neg=>simp only [if_neg h7,beq_eq_false_iff_ne.2 h7,Bool.false_and]
 simp only [if_pos h7,beq_iff_eq.2 h7,Bool.true_and]
 by_cases h8:a.due=b.due
 ·simp only [if_pos h8,beq_iff_eq.2 h8]
 ·simp only [if_neg h8,beq_eq_false_iff_ne.2 h8]
theorem qkQ (w:World) (a b:Tsk):(binOp .neq 69 (.agg (dtc a)) (.agg (dtc b))).run Tryz.prog w = .ok (.bool (!eqD a b)) w:=by
 rw [run_neq_struct,qkP 9996];rfl
theorem qkR (x y:Tsk):(!eqD (befT x y) y)=befD x y:=by
 cases h:befD x y
 ·simp [befT,h,eqD]
 ·simp only [befT,h,if_true]
  rw [Bool.not_eq_true',Bool.eq_false_iff]
  intro e
  simp only [eqD,Bool.and_eq_true,beq_iff_eq] at e
  simp only [befD,Bool.or_eq_true,Bool.and_eq_true,decide_eq_true_eq,beq_iff_eq] at h
  omega
theorem qkS {W w:World} {L b cap:Nat} {z:Tsk} (K:Keeps W w) (hL:W.cell? ⟨L,0,none⟩=some (.slice (some ⟨b,0,none⟩) 2 cap)) (hz:∀ k,k < 9->W.cell? ⟨b,k,none⟩=(dtc z)[k]?) :
  Calls Tryz.prog 281 #[.pointer (some ⟨L,0,none⟩)] w fun e w'=>e = .returned (.agg (dtc z)) /\ Keeps w w' :=
 qkK L b cap z w (Keeps.has hL w K) (fun k hk=>(K.cells _ _ (World.block_lt_of_cell? W ⟨b,0,none⟩ (hz 0 (by omega)))).trans (hz k hk))
attribute [local go_sem high] qkQ
set_option maxHeartbeats 4000000 in
theorem qfE:qkC:=by
 intro a b w
 go_enter Tryz.func279,Tryz.ntmps279
 go_wp2_with fail
 have kW:Keeps w ((w.alloc (.cells (tc a) 47)).alloc (.cells (tc b) 47)):=((Keeps.refl w).alloc _).alloc _
 have r1:∀ w',Keeps ((w.alloc (.cells (tc a) 47)).alloc (.cells (tc b) 47)) w'->∀ k,w'.cell? ⟨w.heap.size,k,none⟩=(tc a)[k]?:=fun w' h=>(((Blk.new w (tc a) 47).alloc _).keeps h).cells
 have r2:∀ w',Keeps ((w.alloc (.cells (tc a) 47)).alloc (.cells (tc b) 47)) w'->∀ k,w'.cell? ⟨w.heap.size+1,k,none⟩=(tc b)[k]?:=fun w' h=>by
  have:=(Blk.new (w.alloc (.cells (tc a) 47)) (tc b) 47).keeps h
  simp only [World.size_alloc] at this
  exact this.cells
 generalize (w.alloc (.cells (tc a) 47)).alloc (.cells (tc b) 47)=W at *
 refine (qg4 a _).mono ?_
 rintro e w1 ⟨rfl,k1⟩
 cases ha:dueB a
 ·have Hr:Hid (qaT a b=false):=by show _=_;simp [qaT,ha]
  go_wp2
  go_ret
  exact ⟨by rw [Hr.out];rfl,kW.trans k1⟩
 ·go_wp2_with fail
  refine (qg4 b _).mono ?_
  rintro e w2 ⟨rfl,k2⟩
  have K2:=k1.trans k2
  cases hb:dueB b
  ·have Hr:Hid (qaT a b=false):=by show _=_;simp [qaT,hb]
   go_wp2
   go_ret
   exact ⟨by rw [Hr.out];rfl,kW.trans K2⟩
  ·have Hr:Hid (qaT a b=befD a b):=by show _=_;simp only [qaT,befD,ha,hb,Bool.true_and]
   clear k1 k2
   go_wp2_with fail
   have BL:=Blk.new w2 #[.slice none 0 0] 300
   have K3:Keeps W (w2.alloc (.cells #[.slice none 0 0] 300)):=K2.alloc _
   have hL:=K2.size
   refine (qd0 b _).mono ?_
   rintro e w3 ⟨rfl,k3⟩
   have k3':=K3.trans k3
   go_wp2_with fail
   refine (qkL b w2.heap.size w3 (BL.keeps k3)).mono ?_
   rintro e w4 ⟨rfl,v,B4,O4,K4⟩
   have k4:Keeps W w4:=K4.keeps k3' hL
   have hs3:w2.heap.size < w3.heap.size:=(BL.keeps k3).lt
   clear BL K3 k3 k3' K2
   generalize w2.heap.size=L at *
   generalize w3.heap.size=base at *
   have s4:Hid (base <= w4.heap.size):=by
    obtain ⟨_,_,rfl,_⟩:=O4.some qdL (by simp)
    have:=O4.free
    show _ <= _
    omega
   go_wp2_with fail
   refine (qd0 a _).mono ?_
   rintro e w5 ⟨rfl,k5⟩
   go_wp2_with fail
   refine (qkO a b L v base W w5 (B4.keeps k5) (O4.keeps k5) (k4.trans k5) hL hs3 (Nat.le_trans s4.out k5.size)).mono ?_
   rintro e w6 ⟨rfl,c,cap,q1,q2,k6⟩
   have l1:=Keeps.has q1
   clear B4 O4 k4 k5 K4
   have r3:∀ w',Keeps w6 w'->∀ k,w'.cell? ⟨w.heap.size+1,k,none⟩=(tc b)[k]?:=fun w' h=>r2 w' (k6.trans h)
   obtain ⟨z,Hz⟩:∃ z,Hid (befT a b=z):=⟨_,rfl⟩
   have He:Hid ((!eqD z b)=befD a b):=by show _=_;rw [<- Hz.out];exact qkR a b
   rw [Hz.out] at q2
   have Q1:Hid (w6.cell? ⟨L,0,none⟩=some (.slice (some ⟨c,0,none⟩) 2 cap)):=q1
   have Q2:Hid (∀ k,k < 9->w6.cell? ⟨c,k,none⟩=(dtc z)[k]?):=q2
   have hc:Hid (c < w6.heap.size):=World.block_lt_of_cell? w6 _ (q2 0 (by omega))
   have hl6:Hid (L < w6.heap.size):=World.block_lt_of_cell? w6 _ q1
   clear r1 r2 q1 q2 hL hs3 s4
   have K0:=Keeps.refl w6
   go_wp2_with fail
   go_region_held3 (fun w'=>Keeps w6 w') (first | exact Keeps.drew (by assumption) | exact Keeps.trans (by assumption) (by assumption))
    (first
    | (go_at_call 44;refine (qd0 b _).mono ?_;rintro e w7 ⟨rfl,k7⟩)
    | (go_at_call 281;refine (qkS (K:=by assumption) Q1.out Q2.out).mono ?_;rintro e w8 ⟨rfl,k8⟩))
   go_wp2
   go_ret
   exact ⟨by rw [Hr.out,<- He.out];rfl,kW.trans (k6.trans (by assumption))⟩
end Go.Proofs.YthpdlbcdbncnhaaGreatDoor
