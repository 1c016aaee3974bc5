/-
  The program's task of each class: taken out of a task, and
  Two tasks are held against each other as a whole.
  Drawn tasks: the contracts of the model's l3DrawList and Dr
  What three laws want of calls as plain functions: a part of
  A task is put among none: the model's TaskPut of no row at
-/
import Derived.Test.YteagpjlgjfaclaaGreatDoorImplHead
import Derived.Test.YteagpjlgjfaclaaGreatDoorFrame
import Derived.BigRegion
import Derived.Test.YteagpjlgjfaclaaGreatDoorTaskBase
import Derived.Laws.StructEq
import Derived.Test.YteagpjlgjfaclaaGreatDoorDrawTask2
import Derived.Test.YteagpjlgjfaclaaGreatDoorTaskPut
import Derived.Test.YteagpjlgjfaclaaGreatDoorSysLaws
import Derived.Test.YteagpjlgjfaclaaGreatDoorDraw1
import Derived.Test.YteagpjlgjfaclaaGreatDoorSysAwake
import Derived.Test.YteagpjlgjfaclaaGreatDoorStepCopy
namespace Go.Proofs.YteagpjlgjfaclaaGreatDoor
set_option maxRecDepth 100000
open Go.RowKit
abbrev dtc (t:Tsk):Array Value:=#[.int .i64 t.no,.int .i64 t.cls,.int .i64 t.cpu,.int .i64 t.st,.bool t.idle,.int .i64 t.q,.int .i64 t.p,.int .i64 t.left,.int .i64 t.due]
abbrev ftc (t:Tsk):Array Value:=#[.int .i64 t.no,.int .i64 t.cls,.int .i64 t.cpu,.int .i64 t.st,.bool t.idle,.int .i64 t.prio,.int .i64 t.round,.int .i64 t.left,.int .i64 t.seq]
abbrev rtc (t:Tsk):Array Value:=#[.int .i64 t.no,.int .i64 t.cls,.int .i64 t.cpu,.int .i64 t.st,.bool t.idle,.int .i64 t.nice,.int .i64 t.v]
def Tsk.asDue (t:Tsk):Tsk:=⟨t.no,t.cls,t.cpu,t.st,t.idle,t.q,t.p,t.left,t.due,0,0,0,0,0⟩
def Tsk.asFix (t:Tsk):Tsk:=⟨t.no,t.cls,t.cpu,t.st,t.idle,0,0,t.left,0,t.prio,t.round,t.seq,0,0⟩
def Tsk.asFair (t:Tsk):Tsk:=⟨t.no,t.cls,t.cpu,t.st,t.idle,0,0,0,0,0,0,0,t.nice,t.v⟩
theorem qgD (t:Tsk) (w:World) :
  Calls Tryz.prog 43 #[tk t] w fun e w'=>e = .returned (.agg (dtc t)) /\ Keeps w w':=by
 go_enter Tryz.func43,Tryz.ntmps43
 go_wp2_with fail
 have H0:Has w w.heap.size (tc t) ((w.alloc (.cells (tc t) 43)).alloc (.cells (dtc Tsk.zero) 84)):=⟨((Keeps.refl _).alloc _).alloc _,(Blk.new w _ _).alloc _⟩
 have r1:∀ w',Has w w.heap.size (tc t) w'->∀ k,w'.cell? ⟨w.heap.size,k,none⟩=(tc t)[k]?:=fun w' h=>h.box.cells
 refine wp_region_held_drew (S:=(fun w'=>Has w w.heap.size (tc t) w')) (by kernel_rfl) ?_ (fun hHeld => ?_)
 ·exact H0.go (Keeps.refl _).drew
 refine Plan.go [0,2,3,4,5,6,7,8,9,10,11] ?_
 iterate 11 (refine qac (by simp only [qab];rfl) (by kernel_rfl) (by exact fun _ _ _ h=>h) (by rfl) (by assumption) (fun w _=>by go_simp;try (with_reducible rfl)) ?_;try simp only [qaa])
 refine Plan.nil ?_
 refine qad 1 (by kernel_rfl) (by simp only [qab];rfl) (fun K hK => ?_)
 go_simp
 first
    | (go_at_call 93;refine (qe4 t _).mono ?_;rintro e w1 ⟨rfl,k1⟩)
 try go_wp2_with fail
 refine hK.out _ _ ?_ (fun hHeld => ?_)
 ·exact hHeld.go k1
 clear hK K
 try simp only [qaa]
 refine qar 12 (v := ?_) (by simp only [qab];rfl) (by kernel_rfl) (by exact fun _ _ _ h=>h) (by rfl) (by assumption) ?_ ?_
 rotate_left
 ·(intro w _;go_simp;try (with_reducible rfl))
 try simp only [qaa]
 refine qad 13 (by kernel_rfl) (by simp only [qab];rfl) (fun K hK => ?_)
 have HB:=(Blk.new (w.alloc (.cells (tc t) 43)) (dtc Tsk.zero) 84).keeps ((Keeps.refl _).drew.trans k1);simp only [World.size_alloc] at HB;have HD:Hid (Blk w1 (w.heap.size+1) (dtc Tsk.zero)):=HB;obtain ⟨_,q1,q2⟩:=HB
 go_simp
 try go_wp2_with fail
 refine hK.out _ _ ?_ (fun hHeld => ?_)
 ·exact hHeld.put (r:=w.heap.size+1) (by omega) (by omega) 0 (dtc t).toList
 clear hK K
 try simp only [qaa]
 refine wpAnyH_done (by kernel_rfl) ?_ _
 go_wp2
 have D:=HD.out.putC (dtc t).toList rfl
 have K:=hHeld.keeps
 change bodyPost _ _ _ _ _ (putC w1 (w.heap.size+1) 0 (dtc t).toList)
 change Keeps w (putC w1 (w.heap.size+1) 0 (dtc t).toList) at K
 generalize putC w1 (w.heap.size+1) 0 (dtc t).toList=X at D K ⊢
 exact bodyPost_ret (v := .agg (dtc t)) (by simp [results,Tryz.results43,go_sem,D.cells]) rfl ⟨rfl,K⟩
theorem qkq (t:Tsk) (w:World) :
  Calls Tryz.prog 116 #[tk t] w fun e w'=>e = .returned (.agg (ftc t)) /\ Keeps w w':=by
 go_enter Tryz.func116,Tryz.ntmps116
 go_wp2_with fail
 have H0:Has w w.heap.size (tc t) ((w.alloc (.cells (tc t) 43)).alloc (.cells (ftc Tsk.zero) 171)):=⟨((Keeps.refl _).alloc _).alloc _,(Blk.new w _ _).alloc _⟩
 have r1:∀ w',Has w w.heap.size (tc t) w'->∀ k,w'.cell? ⟨w.heap.size,k,none⟩=(tc t)[k]?:=fun w' h=>h.box.cells
 refine wp_region_held_drew (S:=(fun w'=>Has w w.heap.size (tc t) w')) (by kernel_rfl) ?_ (fun hHeld => ?_)
 ·exact H0.go (Keeps.refl _).drew
 refine Plan.go [0,2,3,4,5,6,7,8,9,10] ?_
 iterate 10 (refine qac (by simp only [qab];rfl) (by kernel_rfl) (by exact fun _ _ _ h=>h) (by rfl) (by assumption) (fun w _=>by go_simp;try (with_reducible rfl)) ?_;try simp only [qaa])
 refine Plan.nil ?_
 refine qad 1 (by kernel_rfl) (by simp only [qab];rfl) (fun K hK => ?_)
 go_simp
 first
    | (go_at_call 93;refine (qe4 t _).mono ?_;rintro e w1 ⟨rfl,k1⟩)
 try go_wp2_with fail
 refine hK.out _ _ ?_ (fun hHeld => ?_)
 ·exact hHeld.go k1
 clear hK K
 try simp only [qaa]
 refine qar 11 (v := ?_) (by simp only [qab];rfl) (by kernel_rfl) (by exact fun _ _ _ h=>h) (by rfl) (by assumption) ?_ ?_
 rotate_left
 ·(intro w _;go_simp;try (with_reducible rfl))
 try simp only [qaa]
 refine qad 12 (by kernel_rfl) (by simp only [qab];rfl) (fun K hK => ?_)
 have HB:=(Blk.new (w.alloc (.cells (tc t) 43)) (ftc Tsk.zero) 171).keeps ((Keeps.refl _).drew.trans k1);simp only [World.size_alloc] at HB;have HD:Hid (Blk w1 (w.heap.size+1) (ftc Tsk.zero)):=HB;obtain ⟨_,q1,q2⟩:=HB
 go_simp
 try go_wp2_with fail
 refine hK.out _ _ ?_ (fun hHeld => ?_)
 ·exact hHeld.put (r:=w.heap.size+1) (by omega) (by omega) 0 (ftc t).toList
 clear hK K
 try simp only [qaa]
 refine wpAnyH_done (by kernel_rfl) ?_ _
 go_wp2
 have D:=HD.out.putC (ftc t).toList rfl
 have K:=hHeld.keeps
 change bodyPost _ _ _ _ _ (putC w1 (w.heap.size+1) 0 (ftc t).toList)
 change Keeps w (putC w1 (w.heap.size+1) 0 (ftc t).toList) at K
 generalize putC w1 (w.heap.size+1) 0 (ftc t).toList=X at D K ⊢
 exact bodyPost_ret (v := .agg (ftc t)) (by simp [results,Tryz.results116,go_sem,D.cells]) rfl ⟨rfl,K⟩
theorem qkr (t:Tsk) (w:World) :
  Calls Tryz.prog 119 #[tk t] w fun e w'=>e = .returned (.agg (rtc t)) /\ Keeps w w':=by
 go_enter Tryz.func119,Tryz.ntmps119
 go_wp2_with fail
 have H0:Has w w.heap.size (tc t) ((w.alloc (.cells (tc t) 43)).alloc (.cells (rtc Tsk.zero) 176)):=⟨((Keeps.refl _).alloc _).alloc _,(Blk.new w _ _).alloc _⟩
 have r1:∀ w',Has w w.heap.size (tc t) w'->∀ k,w'.cell? ⟨w.heap.size,k,none⟩=(tc t)[k]?:=fun w' h=>h.box.cells
 refine wp_region_held_drew (S:=(fun w'=>Has w w.heap.size (tc t) w')) (by kernel_rfl) ?_ (fun hHeld => ?_)
 ·exact H0.go (Keeps.refl _).drew
 refine Plan.go [0,2,3,4,5,6] ?_
 iterate 6 (refine qac (by simp only [qab];rfl) (by kernel_rfl) (by exact fun _ _ _ h=>h) (by rfl) (by assumption) (fun w _=>by go_simp;try (with_reducible rfl)) ?_;try simp only [qaa])
 refine Plan.nil ?_
 refine qad 1 (by kernel_rfl) (by simp only [qab];rfl) (fun K hK => ?_)
 go_simp
 first
    | (go_at_call 93;refine (qe4 t _).mono ?_;rintro e w1 ⟨rfl,k1⟩)
 try go_wp2_with fail
 refine hK.out _ _ ?_ (fun hHeld => ?_)
 ·exact hHeld.go k1
 clear hK K
 try simp only [qaa]
 refine qar 7 (v := ?_) (by simp only [qab];rfl) (by kernel_rfl) (by exact fun _ _ _ h=>h) (by rfl) (by assumption) ?_ ?_
 rotate_left
 ·(intro w _;go_simp;try (with_reducible rfl))
 try simp only [qaa]
 refine qad 8 (by kernel_rfl) (by simp only [qab];rfl) (fun K hK => ?_)
 have HB:=(Blk.new (w.alloc (.cells (tc t) 43)) (rtc Tsk.zero) 176).keeps ((Keeps.refl _).drew.trans k1);simp only [World.size_alloc] at HB;have HD:Hid (Blk w1 (w.heap.size+1) (rtc Tsk.zero)):=HB;obtain ⟨_,q1,q2⟩:=HB
 go_simp
 try go_wp2_with fail
 refine hK.out _ _ ?_ (fun hHeld => ?_)
 ·exact hHeld.put (r:=w.heap.size+1) (by omega) (by omega) 0 (rtc t).toList
 clear hK K
 try simp only [qaa]
 refine wpAnyH_done (by kernel_rfl) ?_ _
 go_wp2
 have D:=HD.out.putC (rtc t).toList rfl
 have K:=hHeld.keeps
 change bodyPost _ _ _ _ _ (putC w1 (w.heap.size+1) 0 (rtc t).toList)
 change Keeps w (putC w1 (w.heap.size+1) 0 (rtc t).toList) at K
 generalize putC w1 (w.heap.size+1) 0 (rtc t).toList=X at D K ⊢
 exact bodyPost_ret (v := .agg (rtc t)) (by simp [results,Tryz.results119,go_sem,D.cells]) rfl ⟨rfl,K⟩
end Go.Proofs.YteagpjlgjfaclaaGreatDoor
namespace Go.Proofs.YteagpjlgjfaclaaGreatDoor
set_option maxRecDepth 100000
open Go.RowKit
theorem qhL (d:Nat) (w:World) (a b:Tsk):(Op.equalIn (d+2) 43 (tk a) (tk b)).run Tryz.prog w = .ok (eqT a b) w:=by
 obtain ⟨a0,a1,a2,a3,a4,a5,a6,a7,a8,a9,a10,a11,a12,a13⟩:=a
 obtain ⟨b0,b1,b2,b3,b4,b5,b6,b7,b8,b9,b10,b11,b12,b13⟩:=b
 simp only [eqT]
 rw [run_equalIn_agg _ _ _ _ _ (by kernel_rfl) (by kernel_rfl)]
 go_simp
 by_cases h0:a0=b0
 case neg=>simp only [if_neg h0,beq_eq_false_iff_ne.2 h0,Bool.false_and]
 simp only [if_pos h0,beq_iff_eq.2 h0,Bool.true_and]
 by_cases h1:a1=b1
 case neg=>simp only [if_neg h1,beq_eq_false_iff_ne.2 h1,Bool.false_and]
 simp only [if_pos h1,beq_iff_eq.2 h1,Bool.true_and]
 by_cases h2:a2=b2
 case neg=>simp only [if_neg h2,beq_eq_false_iff_ne.2 h2,Bool.false_and]
 simp only [if_pos h2,beq_iff_eq.2 h2,Bool.true_and]
 by_cases h3:a3=b3
 case neg=>simp only [if_neg h3,beq_eq_false_iff_ne.2 h3,Bool.false_and]
 simp only [if_pos h3,beq_iff_eq.2 h3,Bool.true_and]
 by_cases h4:a4=b4
 case neg=>simp only [if_neg h4,beq_eq_false_iff_ne.2 h4,Bool.false_and]
 simp only [if_pos h4,beq_iff_eq.2 h4,Bool.true_and]
 by_cases h5:a5=b5
 case neg=>simp only [if_neg h5,beq_eq_false_iff_ne.2 h5,Bool.false_and]
 simp only [if_pos h5,beq_iff_eq.2 h5,Bool.true_and]
 by_cases h6:a6=b6
 case neg=>simp only [if_neg h6,beq_eq_false_iff_ne.2 h6,Bool.false_and]
 simp only [if_pos h6,beq_iff_eq.2 h6,Bool.true_and]
 by_cases h7:a7=b7
 case neg=>simp only [if_neg h7,beq_eq_false_iff_ne.2 h7,Bool.false_and]
 simp only [if_pos h7,beq_iff_eq.2 h7,Bool.true_and]
 by_cases h8:a8=b8
 case neg=>simp only [if_neg h8,beq_eq_false_iff_ne.2 h8,Bool.false_and]
 simp only [if_pos h8,beq_iff_eq.2 h8,Bool.true_and]
 by_cases h9:a9=b9
 case neg=>simp only [if_neg h9,beq_eq_false_iff_ne.2 h9,Bool.false_and]
 simp only [if_pos h9,beq_iff_eq.2 h9,Bool.true_and]
 by_cases h10:a10=b10
 case neg=>simp only [if_neg h10,beq_eq_false_iff_ne.2 h10,Bool.false_and]
 simp only [if_pos h10,beq_iff_eq.2 h10,Bool.true_and]
 by_cases h11:a11=b11
 case neg=>simp only [if_neg h11,beq_eq_false_iff_ne.2 h11,Bool.false_and]
 simp only [if_pos h11,beq_iff_eq.2 h11,Bool.true_and]
 by_cases h12:a12=b12
 case neg=>simp only [if_neg h12,beq_eq_false_iff_ne.2 h12,Bool.false_and]
 simp only [if_pos h12,beq_iff_eq.2 h12,Bool.true_and]
 by_cases h13:a13=b13
 case neg=>simp only [if_neg h13,beq_eq_false_iff_ne.2 h13]
 simp only [if_pos h13,beq_iff_eq.2 h13]
theorem qms (w:World) (a b:Tsk):(binOp .eql 43 (tk a) (tk b)).run Tryz.prog w = .ok (.bool (eqT a b)) w:=by
 rw [run_eql_struct,qhL 9998];rfl
theorem qmt (w:World) (a b:Tsk):(binOp .neq 43 (tk a) (tk b)).run Tryz.prog w = .ok (.bool (!eqT a b)) w:=by
 rw [run_neq_struct,qhL 9998];rfl
end Go.Proofs.YteagpjlgjfaclaaGreatDoor
namespace Go.Proofs.YteagpjlgjfaclaaGreatDoor
set_option maxRecDepth 100000
open Go.RowKit
theorem Own.setFar {α:Type} {e:TypeId} {sz:Nat} {c:α->Array Value} {w:World} {base:Nat} {v:Value} {xs:List α} (h:Own e sz c w base v xs) {b:Nat} (hb:b < base) (o:Nat) (u:Value):Own e sz c (w.setCell ⟨b,o,none⟩ u) base v xs :=
 h.butG ((KeepsBut.refl b w).setCell o u) hb
theorem Own.putFar {α:Type} {e:TypeId} {sz:Nat} {c:α->Array Value} {base:Nat} {v:Value} {xs:List α} {b:Nat} (hb:b < base):∀ (L:List Value) {w:World} (k:Nat),Own e sz c w base v xs->Own e sz c (putC w b k L) base v xs
 | [],_,_,h=>h
 | u::r,_,k,h=>Own.putFar hb r (k+1) (h.setFar hb k u)
theorem qiH (t:Tsk) (ts:List Tsk):0 < (ins t ts).length:=by rw [qcU];omega
structure DL (w wr:World) (g:Nat) (v:Value) (xs:List Tsk):Prop where
 own:OwnT wr w.heap.size v xs
 adr:∃ b cp,v = .slice (some ⟨b,0,none⟩) xs.length cp
 cur:Cur wr g
 kb:KeepsBut g w wr
theorem DL.but {w wr wr':World} {g:Nat} {v:Value} {xs:List Tsk} (h:DL w wr g v xs) (hg:g < w.heap.size) (k:KeepsBut g wr wr') (hc:Cur wr' g):DL w wr' g v xs :=
 ⟨h.own.butG k hg,h.adr,hc,h.kb.trans k⟩
theorem DL.keeps {w wr wr':World} {g:Nat} {v:Value} {xs:List Tsk} (h:DL w wr g v xs) (hg:g < w.heap.size) (k:Keeps wr wr'):DL w wr' g v xs:=h.but hg (.of k) (h.cur.keeps k)
set_option maxHeartbeats 8000000 in
theorem qiI (g:Nat) (w:World) (hc:Cur w g) :
  Calls Tryz.prog 51 #[.pointer (some ⟨g,0,none⟩)] w fun e w'=>∃ (v:Value) (xs:List Tsk),e = .returned v /\ DL w w' g v xs /\ xs.length <= 13:=by
 have hgl:=hc.lt
 go_enter Tryz.func51,Tryz.ntmps51
 go_wp2_with fail
 have D0:DL w (w.alloc (.cells #[] 43)) g (.slice (some ⟨w.heap.size,0,none⟩) 0 0) [] :=
  ⟨Own.new 43 14 tc w (Nat.le_refl _),⟨_,_,rfl⟩,hc.keeps ((Keeps.refl w).alloc _),(KeepsBut.refl g w).alloc _⟩
 clear hc
 generalize w.alloc (.cells #[] 43)=W at *
 generalize hv0:Value.slice (some ⟨w.heap.size,0,none⟩) 0 0=v0 at *
 clear hv0
 refine (qam g _ _ D0.cur (by omega) (by omega)).mono ?_
 rintro e w1 ⟨m,rfl,hm0,hm1,hc1,k1⟩
 have D:=D0.but hgl k1 hc1
 clear D0 k1 hc1
 go_wp2_with fail
 refine (qcY g _ _ D.cur (by omega) (by omega)).mono ?_
 rintro e w2 ⟨b,rfl,hc2,k2⟩
 have D:=D.but hgl k2 hc2
 clear k2 hc2
 go_upto_if 12 with fail
 go_cut [4] (fun c wx=>∃ n:Nat,n <= 30 /\ c = .int .i64 n /\ wx=w2)
 case first =>
  cases b
  ·go_wp2_with fail
   go_meet
   exact ⟨m.toNat,by omega,by rw [Int.toNat_of_nonneg hm0],rfl⟩
  ·go_wp2_with fail
   go_meet
   exact ⟨30,by omega,rfl,rfl⟩
 case rest =>
 obtain ⟨n,hn,rfl,rfl⟩:=hcut
 go_wp2
 go_loopw [3,5] (fun v i wr=>∃ (k:Nat) (xs:List Tsk),k <= n /\ i = .int .i64 k /\ DL w wr g v xs /\ xs.length <= 12) (fun _ i _=>n - (intOf i).toNat)
 case atStart=>exact ⟨0,[],Nat.zero_le _,rfl,D,by simp⟩
 case round =>
  obtain ⟨k,xs,hk,rfl,D,hx12⟩:=hrel
  by_cases hlt:k < n
  ·have hlt':(k:Int) < (n:Int):=by omega
   obtain ⟨bv,cp,rfl⟩:=D.adr
   go_wp2_with fail
   refine (qfW g _ D.cur).mono ?_
   rintro e w3 ⟨t,rfl,hc3,k3⟩
   have D:=D.but hgl k3 hc3
   clear k3 hc3
   have hl:Lies 14 tc w3 (some ⟨bv,0,none⟩) xs:=by
    obtain ⟨a,c,e,l,-,-⟩:=D.own.slice qao
    simp only [Value.slice.injEq] at e
    obtain ⟨rfl,-,-⟩:=e
    exact l
   go_wp2_with fail
   refine (qhR bv 0 cp xs t w3 (by unfold maxLen;omega) hl).mono ?_
   rintro e w4 ⟨v4,rfl,own4,k4⟩
   have D4:=D.keeps hgl k4
   have hsz:=D.kb.size
   cases hb:putB xs t
   ·have HD:Hid (DL w w4 g (.slice (some ⟨bv,0,none⟩) xs.length cp) xs):=D4
    clear D D4 own4 k4 hl
    go_wp2
    exact ⟨⟨k+1,xs,by omega,by go_num,HD.out,hx12⟩,by simp only [intOf];omega⟩
   ·have e:putL xs t=ins t xs:=by
     simp only [putB,Bool.and_eq_true] at hb
     simp [putL,hb.1,hb.2]
    rw [e] at own4
    have hl12:(ins t xs).length <= 12:=by
     simp only [putB,Bool.and_eq_true] at hb
     exact qeQ hb.2
    obtain ⟨b5,c5,rfl,-,-,-⟩:=own4.some qao (qiH t xs)
    have HD:Hid (DL w w4 g (.slice (some ⟨b5,0,none⟩) (ins t xs).length c5) (ins t xs)):=⟨own4.base hsz,⟨_,_,rfl⟩,D4.cur,D4.kb⟩
    clear D D4 own4 k4 hl e
    go_wp2
    exact ⟨⟨k+1,_,by omega,by go_num,HD.out,hl12⟩,by simp only [intOf];omega⟩
  ·go_wp2_with fail
   refine (qcY g _ _ D.cur (by omega) (by omega)).mono ?_
   rintro e w5 ⟨b,rfl,hc5,k5⟩
   have D:=D.but hgl k5 hc5
   clear k5 hc5
   cases b
   ·have HD:Hid (DL w w5 g _ xs):=D
    clear D
    go_wp2
    go_ret
    exact ⟨_,xs,rfl,HD.out,by omega⟩
   ·go_wp2_with fail
    refine (qeY g _ D.cur).mono ?_
    rintro e w6 ⟨t,rfl,hc6,k6⟩
    have D:=D.but hgl k6 hc6
    clear k6 hc6
    have hsz:=D.kb.size
    have D7:=D.keeps hgl ((Keeps.refl w6).alloc (.cells (tc t) 43))
    have own7:=D7.own
    have HD:Hid (DL w (w6.alloc (.cells (tc t) 43)) g _ xs):=D7
    clear D D7
    go_wp2_with (at_builtin;(refine qjt rfl _ _ 24 rfl w.heap.size 43 (tk Tsk.zero) 14 112 tc Tryz.underlying24 (by kernel_rfl) rfl (by decide) qao qbs _ xs rfl own7 ?c0 t _ 1 (Blk.new _ _ _) rfl ?c1 ?c2 ?_))
    case c0=>simp;omega
    case c1=>unfold maxLen;omega
    case c2=>omega
    intro v8 w8 own8 gr8 hr8
    obtain ⟨b8,c8,e8,-,-,-⟩:=own8.some qao (by simp)
    have HD8:Hid (DL w w8 g v8 (xs++[t])):=⟨own8,⟨_,_,e8⟩,HD.out.cur.grown gr8 (fun k hk=>by have:=hr8 k hk;omega),HD.out.kb.grown gr8 hr8⟩
    clear own7 own8 gr8 hr8 HD e8
    go_wp2
    go_ret
    exact ⟨_,_,rfl,HD8.out,by simp;omega⟩
end Go.Proofs.YteagpjlgjfaclaaGreatDoor
namespace Go.Proofs.YteagpjlgjfaclaaGreatDoor
set_option maxRecDepth 100000
open Go.RowKit
theorem qg9 (t:Tsk):∀ ts:List Tsk,ascB ts=true->(∀ x∈ts,x.no≠t.no)->ascB (ins t ts)=true
 | [],_,_=>rfl
 | [x],_,h=>by
  have hx:=h x (by simp)
  unfold ins
  split
  ·next h1 =>
   have h2:t.no <= x.no:=of_decide_eq_true h1
   have h3:decide (t.no < x.no)=true:=decide_eq_true (by omega)
   simp [ascB,h3]
  ·next h1 =>
   have h2:¬ t.no <= x.no:=fun h=>h1 (decide_eq_true h)
   have h3:decide (x.no < t.no)=true:=decide_eq_true (by omega)
   simp [ascB,ins,h3]
 | x::y::r,ha,h=>by
  have hx:=h x (by simp)
  have hy:=h y (by simp)
  have ha2:=ha
  simp only [ascB,Bool.and_eq_true,decide_eq_true_eq] at ha
  have ih:=qg9 t (y::r) ha.2 fun z hz=>h z (by simp [hz])
  unfold ins
  split
  ·next h1 =>
   have h2:t.no <= x.no:=of_decide_eq_true h1
   have h3:decide (t.no < x.no)=true:=decide_eq_true (by omega)
   show (decide (t.no < x.no)&&ascB (x::y::r))=true
   rw [h3,ha2]
   rfl
  ·next h1 =>
   have h2:¬ t.no <= x.no:=fun h=>h1 (decide_eq_true h)
   unfold ins at ih ⊢
   split
   ·next h4 =>
    rw [if_pos h4] at ih
    have h5:decide (x.no < t.no)=true:=decide_eq_true (by omega)
    show (decide (x.no < t.no)&&ascB (t::y::r))=true
    rw [h5,ih]
    rfl
   ·next h4 =>
    rw [if_neg h4] at ih
    show (decide (x.no < y.no)&&ascB (y::ins t r))=true
    rw [decide_eq_true ha.1,ih]
    rfl
theorem qha (p:Tsk->Bool) (t:Tsk) (h:p t=true):∀ ts:List Tsk,ts.all p=true->(ins t ts).all p=true
 | [],_=>by simp [ins,h]
 | x::r,ha=>by
  rw [List.all_cons,Bool.and_eq_true] at ha
  unfold ins
  split
  ·simp [h,ha.1,ha.2]
  ·rw [List.all_cons,ha.1,qha p t h r ha.2]
   rfl
theorem qlL {ts:List Tsk} {t:Tsk} (hT:qav ts=true) (ht:qah t=true) (hn:qak ts t.no=false) (hl:ts.length < 12):qav (ins t ts)=true:=by
 have hne:∀ x∈ts,x.no≠t.no:=fun x hx e=>by
  obtain ⟨i,hi⟩:=List.mem_iff_getElem?.1 hx
  have:=qhP hT hi
  rw [e] at this
  unfold qak at hn
  rw [this] at hn
  simp at hn
  omega
 have h0:=hT
 unfold qav at h0 ⊢
 simp only [Bool.and_eq_true,decide_eq_true_eq] at h0 ⊢
 refine ⟨⟨qha _ t ht ts h0.1.1,qg9 t ts h0.1.2 hne⟩,?_⟩
 rw [qcU]
 omega
theorem qhb (t:Tsk):∀ ts:List Tsk,t∈ins t ts
 | []=>by simp [ins]
 | x::r=>by
  unfold ins
  split
  ·simp
  ·exact List.mem_cons_of_mem _ (qhb t r)
theorem qlM {s:Sy} (hs:sysB s=true) (hl:s.tasks.length < 12) {no q p:Int} (hno:1 <= no /\ no <= 1000) (hn:qak s.tasks no=false) (hp:1 <= p /\ p <= 40) (hq:1 <= q /\ q <= p) :
  (qaL (qan s 0++[(q,p)])=true->qaS s ⟨1,no,0,q,p⟩=0 /\ 0 <= qau (qaO s ⟨1,no,0,q,p⟩).tasks no) /\ (qaL (qan s 0++[(q,p)])=false->qaS s ⟨1,no,0,q,p⟩=4 /\ qaO s ⟨1,no,0,q,p⟩=s):=by
 have hcb:qaC ⟨1,no,0,q,p⟩=true:=by simp [qaC,qaB,eqC,inB]
 have R:=qcP.1 hs
 have hnow:=R.now
 have hcp:=R.cpus
 have htb:qah (dueT no 0 q p s.now)=true:=by
  unfold qah dueT qbf qa1
  simp [qas,qbL,fixZ,qby]
  omega
 have hdb:qaY no 0 q p s.now=true:=by
  unfold qaY
  rw [htb]
  simp only [Bool.and_eq_true,qas,qbL,and_true]
  omega
 have hmT:qbY s ⟨1,no,0,q,p⟩=dueT no 0 q p s.now:=by
  show qaV no 0 q p s.now=_
  unfold qaV
  rw [if_pos hdb]
 have hmB:qdv s ⟨1,no,0,q,p⟩=true:=hdb
 have hins:qav (ins (dueT no 0 q p s.now) s.tasks)=true:=qlL R.tasks htb hn hl
 have hput:putB s.tasks (qbY s ⟨1,no,0,q,p⟩)=true:=by
  unfold putB
  rw [hmT,hins,R.tasks]
  rfl
 have hroom:qeh s ⟨1,no,0,q,p⟩=qaL (qan s 0++[(q,p)]):=by
  unfold qeh
  rw [hput]
  show (true&&(!true||qaL (qan s 0++[(q,p)])))=_
  simp
 have hN:qaS s ⟨1,no,0,q,p⟩=if qaL (qan s 0++[(q,p)]) then 0 else 4:=by
  unfold qaS
  rw [hs,hcb]
  show newN s ⟨1,no,0,q,p⟩=_
  unfold newN
  have h1:decide (s.cpus <= (0:Int))=false:=decide_eq_false (by omega)
  rw [hmB,hroom]
  show (if (decide (s.cpus <= (0:Int)) || !true)=true then (1:Int) else if qak s.tasks no=true then 3 else if (!qaL (qan s 0++[(q,p)])||(false&&decide (900000 < s.seq)))=true then 4 else 0)=_
  rw [h1,hn]
  cases qaL (qan s 0++[(q,p)]) <;> rfl
 refine ⟨fun hf => ?_,fun hf => ?_⟩
 ·rw [hf] at hN
  refine ⟨hN,?_⟩
  have hdo:doN s ⟨1,no,0,q,p⟩=0:=by
   unfold qaS at hN
   rw [hs,hcb] at hN
   exact hN
  have hS:qaO s ⟨1,no,0,q,p⟩=newC s ⟨1,no,0,q,p⟩:=by
   unfold qaO
   rw [hs,hcb,hdo]
   rfl
  rw [hS]
  show 0 <= qau (putL s.tasks (qbY s ⟨1,no,0,q,p⟩)) no
  rw [hmT]
  unfold putL
  rw [R.tasks,hins]
  show 0 <= qau (ins (dueT no 0 q p s.now) s.tasks) no
  obtain ⟨j,hj⟩:=List.mem_iff_getElem?.1 (qhb (dueT no 0 q p s.now) s.tasks)
  have h2:=qhP hins hj
  have h3:qau (ins (dueT no 0 q p s.now) s.tasks) no=j:=h2
  omega
 ·rw [hf] at hN
  refine ⟨hN,?_⟩
  have hdo:doN s ⟨1,no,0,q,p⟩=4:=by
   unfold qaS at hN
   rw [hs,hcb] at hN
   exact hN
  unfold qaO
  rw [hs,hcb,hdo]
  rfl
end Go.Proofs.YteagpjlgjfaclaaGreatDoor
namespace Go.Proofs.YteagpjlgjfaclaaGreatDoor
set_option maxRecDepth 100000
open Go.RowKit
attribute [local go_sem] Keeps.refl Keeps.alloc Keeps.drew Keeps.drewN
set_option maxHeartbeats 4000000 in
theorem qmC (t:Tsk) (w:World) :
  Calls Tryz.prog 99 #[.slice none 0 0,tk t] w fun e w'=>∃ v,e = .returned (.tuple #[v,.bool (putB [] t)]) /\ OwnT w' w.heap.size v (putL [] t) /\ Keeps w w':=by
 go_enter Tryz.func99,Tryz.ntmps99
 go_wp2_with fail
 have kW:Keeps w (w.alloc (.cells (tc t) 43)):=(Keeps.refl _).alloc _
 have B0:=Blk.new w (tc t) 43
 refine (qdW none 0 [] _ (by unfold maxLen;simp) (.inl rfl)).mono ?_
 rintro e w1 ⟨rfl,k1⟩
 have B1:=B0.keeps k1
 have kw1:=kW.trans k1
 clear kW B0 k1
 have hb:qav []=true:=by rfl
 rw [hb]
 go_wp2_with fail
 have kz:Keeps w1 (w1.alloc (.cells #[] 43)):=(Keeps.refl _).alloc _
 have own0:OwnT (w1.alloc (.cells #[] 43)) w1.heap.size (.slice (some ⟨w1.heap.size,0,none⟩) 0 0) []:=Own.new 43 14 tc w1 (Nat.le_refl _)
 generalize w1.alloc (.cells #[] 43)=W at *
 have b0:∀ w',Keeps w1 w'->∀ k,w'.cell? ⟨w.heap.size,k,none⟩=(tc t)[k]?:=fun w' h=>(B1.keeps h).cells
 clear B1
 go_loopw [6,7,8] (fun v p i wr=>v = .slice (some ⟨w1.heap.size,0,none⟩) 0 0 /\ i = .int .i64 0 /\ p = .bool false /\ wr=W) (fun _ _ _ _=>0)
 case atStart=>exact ⟨rfl,rfl,rfl,rfl⟩
 case round =>
  obtain ⟨rfl,rfl,rfl,rfl⟩:=hrel
  go_wp2_with (at_builtin;(refine qbA rfl _ _ 24 rfl w1 43 (tk Tsk.zero) 14 112 tc Tryz.underlying24 (by kernel_rfl) rfl (by decide) qao qbs _ [] rfl wr own0 kz ((Keeps.refl _).alloc _) t _ 1 (Blk.new _ _ _) rfl ?c1 ?c2 ?_))
  case c1=>unfold maxLen;simp
  case c2=>simp
  intro v2 w2 hown2 hk2 _
  have hown:OwnT w2 w1.heap.size v2 [t]:=hown2
  clear hown2
  obtain ⟨av,cv,rfl,hlies,hcv,hmv⟩:=hown.slice qao
  go_wp2_with fail
  refine (qdW av cv [t] _ (by unfold maxLen;simp) hlies).mono ?_
  rintro e w3 ⟨rfl,k3⟩
  have hown3:=hown.keeps k3
  have kw3:=hk2.trans k3
  cases hq:qav [t]
  ·have Hb:Hid (putB [] t=false):=by show _=_;simp [putB,ins,hq]
   have Hp:Hid (putL [] t=[]):=by show _=_;simp [putL,ins,hq]
   clear hown hown3 hlies
   go_wp2_with (at_builtin;(refine qed rfl _ _ 24 rfl w3.heap.size 43 (tk Tsk.zero) 14 112 tc Tryz.underlying24 (by kernel_rfl) rfl (by decide) qao qbs (.slice (some ⟨w3.heap.size,0,none⟩) 0 0) rfl (Own.new 43 14 tc w3 (Nat.le_refl _)) (by simp) [] ⟨none,0,0⟩ (.inl ⟨rfl,rfl,rfl⟩) (.inl rfl) rfl rfl (by simp) (by decide) ?_))
   intro v5 w5 o5 g5 f5
   have HO:Hid (OwnT w5 w3.heap.size v5 []):=o5
   have K5:Keeps w3 w5:=((Keeps.refl w3).alloc _).grown g5 (by intro q hq;simp [Value.ownBlock] at hq;omega)
   clear o5 g5 f5
   go_wp2
   go_ret2
   exact ⟨_,by rw [Hb.out];rfl,by rw [Hp.out];exact Own.base HO.out (kw1.trans kw3).size,(kw1.trans kw3).trans K5⟩
  ·have Hb:Hid (putB [] t=true):=by show _=_;simp [putB,ins,hq,hb]
   have Hp:Hid (putL [] t=[t]):=by show _=_;simp [putL,ins,hq,hb]
   go_wp2
   go_ret2
   exact ⟨_,by rw [Hb.out];rfl,by rw [Hp.out];exact Own.base hown3 kw1.size,kw1.trans kw3⟩
end Go.Proofs.YteagpjlgjfaclaaGreatDoor
