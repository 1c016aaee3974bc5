/-
  The program's own test whether a number lies between two. T
-/
import Derived.Test.YthpdlbcdbncnhaaGreatDoorGBase1
import Derived.Test.YthpdlbcdbncnhaaGreatDoorGTask2
import Derived.Test.YthpdlbcdbncnhaaGreatDoorGTask4
import Derived.BigRegion
namespace Go.Proofs.YthpdlbcdbncnhaaGreatDoor
set_option maxRecDepth 100000
open Go.RowKit
theorem qaI (x lo hi:Int) (w:World) :
  Calls Tryz.prog 104 #[.int .i64 x,.int .i64 lo,.int .i64 hi] w fun e w'=>e = .returned (.bool (inB x lo hi)) /\ w'=w:=by
 by_cases h1:lo <= x
 ·by_cases h2:x <= hi
  ·have Hr:Hid (inB x lo hi=true):=qfq h1 h2
   go_enter Tryz.func104,Tryz.ntmps104
   go_wp2
   go_ret
   exact ⟨by rw [Hr.out];rfl,rfl⟩
  ·have Hr:Hid (inB x lo hi=false):=qdG (.inr (by omega))
   have hd:decide (x <= hi)=false:=by simpa using h2
   go_enter Tryz.func104,Tryz.ntmps104
   go_wp2
   go_ret
   exact ⟨by rw [Hr.out];rfl,rfl⟩
 ·have Hr:Hid (inB x lo hi=false):=qdG (.inl (by omega))
  have hd:decide (lo <= x)=false:=by simpa using h1
  go_enter Tryz.func104,Tryz.ntmps104
  go_wp2
  go_ret
  exact ⟨by rw [Hr.out];rfl,rfl⟩
abbrev hc (t:Tsk):Array Value:=#[.int .i64 t.no,.int .i64 t.cls,.int .i64 t.cpu,.int .i64 t.st,.bool t.idle]
abbrev dnc (t:Tsk):Array Value:=#[.int .i64 t.q,.int .i64 t.p,.int .i64 t.left,.int .i64 t.due]
abbrev fnc (t:Tsk):Array Value:=#[.int .i64 t.prio,.int .i64 t.round,.int .i64 t.left,.int .i64 t.seq]
abbrev rnc (t:Tsk):Array Value:=#[.int .i64 t.nice,.int .i64 t.v]
def Tsk.bare (t:Tsk):Tsk:=⟨t.no,t.cls,t.cpu,t.st,t.idle,0,0,0,0,0,0,0,0,0⟩
def qaO (t:Tsk):Bool:=inB t.no 1 1000&&inB t.cpu 0 3&&(t.st==1||t.st==2)
def qbZ (t:Tsk):Bool:=okB t.q t.p&&inB t.left 0 t.q&&inB t.due 0 100040
def qc6 (t:Tsk):Bool:=if t.round==0 then t.left==0 else inB t.left 1 t.round
def qbC (t:Tsk):Bool:=inB t.prio 1 20&&inB t.round 0 10&&qc6 t&&inB t.seq 0 1000000
def qck (t:Tsk):Bool:=inB t.nice (-4) 4&&inB t.v 0 100000000
theorem qfS (t:Tsk) (w:World) :
  Calls Tryz.prog 84 #[tk t] w fun e w'=>e = .returned (.agg (hc t)) /\ Keeps w w':=by
 go_enter Tryz.func84,Tryz.ntmps84
 go_wp2
 exact bodyPost_ret (v := .agg (hc t)) (by simp [results,Tryz.results84,go_sem]) rfl ⟨rfl,by repeat (first | exact Keeps.refl _ | refine Keeps.alloc ?_ _ | refine Keeps.drewN ?_ _ | refine Keeps.setCell ?_ (by simp [go_sem]) _)⟩
theorem qfT (t:Tsk) (w:World) :
  Calls Tryz.prog 179 #[.agg (hc t)] w fun e w'=>e = .returned (tk t.bare) /\ Keeps w w':=by
 go_enter Tryz.func179,Tryz.ntmps179
 go_wp2
 exact bodyPost_ret (v:=tk t.bare) (by simp [results,Tryz.results179,go_sem,Tsk.bare]) rfl ⟨rfl,by repeat (first | exact Keeps.refl _ | refine Keeps.alloc ?_ _ | refine Keeps.drewN ?_ _ | refine Keeps.setCell ?_ (by simp [go_sem]) _)⟩
theorem qbx (t:Tsk) (w:World) :
  Calls Tryz.prog 131 #[.agg (hc t)] w fun e w'=>e = .returned (.bool (qaO t)) /\ Keeps w w':=by
 cases b1:inB t.no 1 1000
 ·have Hr:Hid (qaO t=false):=by show _=_;simp [qaO,b1]
  go_enter Tryz.func131,Tryz.ntmps131
  go_wp2_with (go_at_call 104;refine (qaI _ _ _ _).mono ?_;rintro e w' ⟨rfl,rfl⟩)
  go_ret
  exact ⟨by rw [Hr.out];rfl,by repeat (first | exact Keeps.refl _ | refine Keeps.alloc ?_ _ | refine Keeps.drewN ?_ _)⟩
 ·cases b2:inB t.cpu 0 3
  ·have Hr:Hid (qaO t=false):=by show _=_;simp [qaO,b2]
   go_enter Tryz.func131,Tryz.ntmps131
   go_wp2_with (go_at_call 104;refine (qaI _ _ _ _).mono ?_;rintro e w' ⟨rfl,rfl⟩)
   go_ret
   exact ⟨by rw [Hr.out];rfl,by repeat (first | exact Keeps.refl _ | refine Keeps.alloc ?_ _ | refine Keeps.drewN ?_ _)⟩
  ·cases b3:(t.st==1)
   ·have Hr:Hid (qaO t=(t.st==2)):=by show _=_;simp only [qaO,b1,b2,b3,Bool.true_and,Bool.false_or]
    go_enter Tryz.func131,Tryz.ntmps131
    go_wp2_with (go_at_call 104;refine (qaI _ _ _ _).mono ?_;rintro e w' ⟨rfl,rfl⟩)
    go_ret
    exact ⟨by rw [Hr.out];rfl,by repeat (first | exact Keeps.refl _ | refine Keeps.alloc ?_ _ | refine Keeps.drewN ?_ _)⟩
   ·have Hr:Hid (qaO t=true):=by show _=_;simp only [qaO,b1,b2,b3,Bool.true_and,Bool.true_or]
    go_enter Tryz.func131,Tryz.ntmps131
    go_wp2_with (go_at_call 104;refine (qaI _ _ _ _).mono ?_;rintro e w' ⟨rfl,rfl⟩)
    go_ret
    exact ⟨by rw [Hr.out];rfl,by repeat (first | exact Keeps.refl _ | refine Keeps.alloc ?_ _ | refine Keeps.drewN ?_ _)⟩
theorem qhC (t:Tsk) (w:World) :
  Calls Tryz.prog 180 #[.agg (fnc t)] w fun e w'=>e = .returned (.bool (qc6 t)) /\ Keeps w w':=by
 cases b1:(t.round==0)
 ·have Hr:Hid (qc6 t=inB t.left 1 t.round):=by show _=_;simp [qc6,b1]
  go_enter Tryz.func180,Tryz.ntmps180
  go_wp2_with (go_at_call 104;refine (qaI _ _ _ _).mono ?_;rintro e w' ⟨rfl,rfl⟩)
  go_ret
  exact ⟨by rw [Hr.out];rfl,by repeat (first | exact Keeps.refl _ | refine Keeps.alloc ?_ _ | refine Keeps.drewN ?_ _)⟩
 ·have Hr:Hid (qc6 t=(t.left==0)):=by show _=_;simp only [qc6,b1,if_true]
  go_enter Tryz.func180,Tryz.ntmps180
  go_wp2
  go_ret
  exact ⟨by rw [Hr.out];rfl,by repeat (first | exact Keeps.refl _ | refine Keeps.alloc ?_ _ | refine Keeps.drewN ?_ _)⟩
set_option maxHeartbeats 1000000 in
theorem qdX (t:Tsk) (w:World) :
  Calls Tryz.prog 132 #[.agg (dnc t)] w fun e w'=>e = .returned (.bool (qbZ t)) /\ Keeps w w':=by
 cases b1:okB t.q t.p
 ·have Hr:Hid (qbZ t=false):=by show _=_;simp [qbZ,b1]
  go_enter Tryz.func132,Tryz.ntmps132
  go_wp2_with (first
   | (go_at_call 104;refine (qaI _ _ _ _).mono ?_;rintro e w' ⟨rfl,rfl⟩)
   | (go_at_call 176;refine (qem _ _ _).mono ?_;rintro e w' ⟨rfl,rfl⟩))
  go_ret
  exact ⟨by rw [Hr.out];rfl,by repeat (first | exact Keeps.refl _ | refine Keeps.alloc ?_ _ | refine Keeps.drewN ?_ _)⟩
 ·cases b2:inB t.left 0 t.q
  ·have Hr:Hid (qbZ t=false):=by show _=_;simp [qbZ,b2]
   go_enter Tryz.func132,Tryz.ntmps132
   go_wp2_with (first
    | (go_at_call 104;refine (qaI _ _ _ _).mono ?_;rintro e w' ⟨rfl,rfl⟩)
    | (go_at_call 176;refine (qem _ _ _).mono ?_;rintro e w' ⟨rfl,rfl⟩))
   go_ret
   exact ⟨by rw [Hr.out];rfl,by repeat (first | exact Keeps.refl _ | refine Keeps.alloc ?_ _ | refine Keeps.drewN ?_ _)⟩
  ·have Hr:Hid (qbZ t=inB t.due 0 100040):=by show _=_;simp [qbZ,b1,b2]
   go_enter Tryz.func132,Tryz.ntmps132
   go_wp2_with (first
    | (go_at_call 104;refine (qaI _ _ _ _).mono ?_;rintro e w' ⟨rfl,rfl⟩)
    | (go_at_call 176;refine (qem _ _ _).mono ?_;rintro e w' ⟨rfl,rfl⟩))
   go_ret
   exact ⟨by rw [Hr.out];rfl,by repeat (first | exact Keeps.refl _ | refine Keeps.alloc ?_ _ | refine Keeps.drewN ?_ _)⟩
set_option maxHeartbeats 1000000 in
theorem qdY (t:Tsk) (w:World) :
  Calls Tryz.prog 135 #[.agg (fnc t)] w fun e w'=>e = .returned (.bool (qbC t)) /\ Keeps w w':=by
 have kW:Keeps w (w.alloc (.cells (fnc t) 175)):=(Keeps.refl _).alloc _
 have r1:=blkR w (fnc t) 175
 have K0:=Keeps.refl (w.alloc (.cells (fnc t) 175))
 cases b1:inB t.prio 1 20
 ·have Hr:Hid (qbC t=false):=by show _=_;simp [qbC,b1]
  go_enter Tryz.func135,Tryz.ntmps135
  go_wp2_with (go_at_call 104;refine (qaI _ _ _ _).mono ?_;rintro e w' ⟨rfl,rfl⟩)
  go_ret
  exact ⟨by rw [Hr.out];rfl,by repeat (first | exact Keeps.refl _ | refine Keeps.alloc ?_ _ | refine Keeps.drewN ?_ _)⟩
 ·cases b2:inB t.round 0 10
  ·have Hr:Hid (qbC t=false):=by show _=_;simp [qbC,b2]
   go_enter Tryz.func135,Tryz.ntmps135
   go_wp2_with (go_at_call 104;refine (qaI _ _ _ _).mono ?_;rintro e w' ⟨rfl,rfl⟩)
   go_ret
   exact ⟨by rw [Hr.out];rfl,by repeat (first | exact Keeps.refl _ | refine Keeps.alloc ?_ _ | refine Keeps.drewN ?_ _)⟩
  ·cases b3:qc6 t
   ·have Hr:Hid (qbC t=false):=by show _=_;simp [qbC,b3]
    go_enter Tryz.func135,Tryz.ntmps135
    go_wp2_with (first
     | (go_at_call 104;refine (qaI _ _ _ _).mono ?_;rintro e w' ⟨rfl,rfl⟩)
     | (go_at_call 180;refine (qhC t _).mono ?_;rintro e w1 ⟨rfl,k1⟩;rw [b3]))
    go_ret
    exact ⟨by rw [Hr.out];rfl,kW.trans k1⟩
   ·have Hr:Hid (qbC t=inB t.seq 0 1000000):=by show _=_;simp [qbC,b1,b2,b3]
    go_enter Tryz.func135,Tryz.ntmps135
    go_wp2_with (first
     | (go_at_call 104;refine (qaI _ _ _ _).mono ?_;rintro e w' ⟨rfl,rfl⟩)
     | (go_at_call 180;refine (qhC t _).mono ?_;rintro e w1 ⟨rfl,k1⟩;rw [b3]))
    go_ret
    exact ⟨by rw [Hr.out];rfl,kW.trans k1⟩
theorem qdZ (t:Tsk) (w:World) :
  Calls Tryz.prog 138 #[.agg (rnc t)] w fun e w'=>e = .returned (.bool (qck t)) /\ Keeps w w':=by
 cases b1:inB t.nice (-4) 4
 ·have Hr:Hid (qck t=false):=by show _=_;simp [qck,b1]
  go_enter Tryz.func138,Tryz.ntmps138
  go_wp2_with (go_at_call 181;refine (qi1 _ _).mono ?_;rintro e w' ⟨rfl,rfl⟩)
  go_ret
  exact ⟨by rw [Hr.out];rfl,by repeat (first | exact Keeps.refl _ | refine Keeps.alloc ?_ _ | refine Keeps.drewN ?_ _)⟩
 ·have Hr:Hid (qck t=inB t.v 0 100000000):=by show _=_;simp [qck,b1]
  go_enter Tryz.func138,Tryz.ntmps138
  go_wp2_with (first
   | (go_at_call 181;refine (qi1 _ _).mono ?_;rintro e w' ⟨rfl,rfl⟩)
   | (go_at_call 104;refine (qaI _ _ _ _).mono ?_;rintro e w' ⟨rfl,rfl⟩))
  go_ret
  exact ⟨by rw [Hr.out];rfl,by repeat (first | exact Keeps.refl _ | refine Keeps.alloc ?_ _ | refine Keeps.drewN ?_ _)⟩
abbrev dtc (t:Tsk):Array Value:=#[.int .i64 t.no,.int .i64 t.cls,.int .i64 t.cpu,.int .i64 t.st,.bool t.idle,.int .i64 t.q,.int .i64 t.p,.int .i64 t.left,.int .i64 t.due]
abbrev ftc (t:Tsk):Array Value:=#[.int .i64 t.no,.int .i64 t.cls,.int .i64 t.cpu,.int .i64 t.st,.bool t.idle,.int .i64 t.prio,.int .i64 t.round,.int .i64 t.left,.int .i64 t.seq]
abbrev rtc (t:Tsk):Array Value:=#[.int .i64 t.no,.int .i64 t.cls,.int .i64 t.cpu,.int .i64 t.st,.bool t.idle,.int .i64 t.nice,.int .i64 t.v]
def Tsk.asDue (t:Tsk):Tsk:=⟨t.no,t.cls,t.cpu,t.st,t.idle,t.q,t.p,t.left,t.due,0,0,0,0,0⟩
def Tsk.asFix (t:Tsk):Tsk:=⟨t.no,t.cls,t.cpu,t.st,t.idle,0,0,t.left,0,t.prio,t.round,t.seq,0,0⟩
def Tsk.asFair (t:Tsk):Tsk:=⟨t.no,t.cls,t.cpu,t.st,t.idle,0,0,0,0,0,0,0,t.nice,t.v⟩
theorem qd0 (t:Tsk) (w:World) :
  Calls Tryz.prog 44 #[tk t] w fun e w'=>e = .returned (.agg (dtc t)) /\ Keeps w w':=by
 go_enter Tryz.func44,Tryz.ntmps44
 go_wp2_with fail
 have H0:Has w w.heap.size (tc t) ((w.alloc (.cells (tc t) 47)).alloc (.cells (dtc Tsk.zero) 69)):=⟨((Keeps.refl _).alloc _).alloc _,(Blk.new w _ _).alloc _⟩
 have r1:∀ w',Has w w.heap.size (tc t) w'->∀ k,w'.cell? ⟨w.heap.size,k,none⟩=(tc t)[k]?:=fun w' h=>h.box.cells
 refine wp_region_held_drew (S:=(fun w'=>Has w w.heap.size (tc t) w')) (by kernel_rfl) ?_ (fun hHeld => ?_)
 ·exact H0.go (Keeps.refl _).drew
 refine Plan.go [0,2,3,4,5,6,7,8,9,10,11] ?_
 iterate 11 (refine qac (by simp only [qab];rfl) (by kernel_rfl) (by exact fun _ _ _ h=>h) (by rfl) (by assumption) (fun w _=>by go_simp;try (with_reducible rfl)) ?_;try simp only [qaa])
 refine Plan.nil ?_
 refine qad 1 (by kernel_rfl) (by simp only [qab];rfl) (fun K hK => ?_)
 go_simp
 first
    | (go_at_call 84;refine (qfS t _).mono ?_;rintro e w1 ⟨rfl,k1⟩)
 try go_wp2_with fail
 refine hK.out _ _ ?_ (fun hHeld => ?_)
 ·exact hHeld.go k1
 clear hK K
 try simp only [qaa]
 refine qan 12 (v := ?_) (by simp only [qab];rfl) (by kernel_rfl) (by exact fun _ _ _ h=>h) (by rfl) (by assumption) ?_ ?_
 rotate_left
 ·(intro w _;go_simp;try (with_reducible rfl))
 try simp only [qaa]
 refine qad 13 (by kernel_rfl) (by simp only [qab];rfl) (fun K hK => ?_)
 have HB:=(Blk.new (w.alloc (.cells (tc t) 47)) (dtc Tsk.zero) 69).keeps ((Keeps.refl _).drew.trans k1);simp only [World.size_alloc] at HB;have HD:Hid (Blk w1 (w.heap.size+1) (dtc Tsk.zero)):=HB;obtain ⟨_,q1,q2⟩:=HB
 go_simp
 try go_wp2_with fail
 refine hK.out _ _ ?_ (fun hHeld => ?_)
 ·exact hHeld.put (r:=w.heap.size+1) (by omega) (by omega) 0 (dtc t).toList
 clear hK K
 try simp only [qaa]
 refine wpAnyH_done (by kernel_rfl) ?_ _
 go_wp2
 have D:=HD.out.putC (dtc t).toList rfl
 have K:=hHeld.keeps
 change bodyPost _ _ _ _ _ (putC w1 (w.heap.size+1) 0 (dtc t).toList)
 change Keeps w (putC w1 (w.heap.size+1) 0 (dtc t).toList) at K
 generalize putC w1 (w.heap.size+1) 0 (dtc t).toList=X at D K ⊢
 exact bodyPost_ret (v := .agg (dtc t)) (by simp [results,Tryz.results44,go_sem,D.cells]) rfl ⟨rfl,K⟩
theorem qey (t:Tsk) (w:World) :
  Calls Tryz.prog 134 #[tk t] w fun e w'=>e = .returned (.agg (ftc t)) /\ Keeps w w':=by
 go_enter Tryz.func134,Tryz.ntmps134
 go_wp2_with fail
 have H0:Has w w.heap.size (tc t) ((w.alloc (.cells (tc t) 47)).alloc (.cells (ftc Tsk.zero) 177)):=⟨((Keeps.refl _).alloc _).alloc _,(Blk.new w _ _).alloc _⟩
 have r1:∀ w',Has w w.heap.size (tc t) w'->∀ k,w'.cell? ⟨w.heap.size,k,none⟩=(tc t)[k]?:=fun w' h=>h.box.cells
 refine wp_region_held_drew (S:=(fun w'=>Has w w.heap.size (tc t) w')) (by kernel_rfl) ?_ (fun hHeld => ?_)
 ·exact H0.go (Keeps.refl _).drew
 refine Plan.go [0,2,3,4,5,6,7,8,9,10] ?_
 iterate 10 (refine qac (by simp only [qab];rfl) (by kernel_rfl) (by exact fun _ _ _ h=>h) (by rfl) (by assumption) (fun w _=>by go_simp;try (with_reducible rfl)) ?_;try simp only [qaa])
 refine Plan.nil ?_
 refine qad 1 (by kernel_rfl) (by simp only [qab];rfl) (fun K hK => ?_)
 go_simp
 first
    | (go_at_call 84;refine (qfS t _).mono ?_;rintro e w1 ⟨rfl,k1⟩)
 try go_wp2_with fail
 refine hK.out _ _ ?_ (fun hHeld => ?_)
 ·exact hHeld.go k1
 clear hK K
 try simp only [qaa]
 refine qan 11 (v := ?_) (by simp only [qab];rfl) (by kernel_rfl) (by exact fun _ _ _ h=>h) (by rfl) (by assumption) ?_ ?_
 rotate_left
 ·(intro w _;go_simp;try (with_reducible rfl))
 try simp only [qaa]
 refine qad 12 (by kernel_rfl) (by simp only [qab];rfl) (fun K hK => ?_)
 have HB:=(Blk.new (w.alloc (.cells (tc t) 47)) (ftc Tsk.zero) 177).keeps ((Keeps.refl _).drew.trans k1);simp only [World.size_alloc] at HB;have HD:Hid (Blk w1 (w.heap.size+1) (ftc Tsk.zero)):=HB;obtain ⟨_,q1,q2⟩:=HB
 go_simp
 try go_wp2_with fail
 refine hK.out _ _ ?_ (fun hHeld => ?_)
 ·exact hHeld.put (r:=w.heap.size+1) (by omega) (by omega) 0 (ftc t).toList
 clear hK K
 try simp only [qaa]
 refine wpAnyH_done (by kernel_rfl) ?_ _
 go_wp2
 have D:=HD.out.putC (ftc t).toList rfl
 have K:=hHeld.keeps
 change bodyPost _ _ _ _ _ (putC w1 (w.heap.size+1) 0 (ftc t).toList)
 change Keeps w (putC w1 (w.heap.size+1) 0 (ftc t).toList) at K
 generalize putC w1 (w.heap.size+1) 0 (ftc t).toList=X at D K ⊢
 exact bodyPost_ret (v := .agg (ftc t)) (by simp [results,Tryz.results134,go_sem,D.cells]) rfl ⟨rfl,K⟩
theorem qe2 (t:Tsk) (w:World) :
  Calls Tryz.prog 137 #[tk t] w fun e w'=>e = .returned (.agg (rtc t)) /\ Keeps w w':=by
 go_enter Tryz.func137,Tryz.ntmps137
 go_wp2_with fail
 have H0:Has w w.heap.size (tc t) ((w.alloc (.cells (tc t) 47)).alloc (.cells (rtc Tsk.zero) 129)):=⟨((Keeps.refl _).alloc _).alloc _,(Blk.new w _ _).alloc _⟩
 have r1:∀ w',Has w w.heap.size (tc t) w'->∀ k,w'.cell? ⟨w.heap.size,k,none⟩=(tc t)[k]?:=fun w' h=>h.box.cells
 refine wp_region_held_drew (S:=(fun w'=>Has w w.heap.size (tc t) w')) (by kernel_rfl) ?_ (fun hHeld => ?_)
 ·exact H0.go (Keeps.refl _).drew
 refine Plan.go [0,2,3,4,5,6] ?_
 iterate 6 (refine qac (by simp only [qab];rfl) (by kernel_rfl) (by exact fun _ _ _ h=>h) (by rfl) (by assumption) (fun w _=>by go_simp;try (with_reducible rfl)) ?_;try simp only [qaa])
 refine Plan.nil ?_
 refine qad 1 (by kernel_rfl) (by simp only [qab];rfl) (fun K hK => ?_)
 go_simp
 first
    | (go_at_call 84;refine (qfS t _).mono ?_;rintro e w1 ⟨rfl,k1⟩)
 try go_wp2_with fail
 refine hK.out _ _ ?_ (fun hHeld => ?_)
 ·exact hHeld.go k1
 clear hK K
 try simp only [qaa]
 refine qan 7 (v := ?_) (by simp only [qab];rfl) (by kernel_rfl) (by exact fun _ _ _ h=>h) (by rfl) (by assumption) ?_ ?_
 rotate_left
 ·(intro w _;go_simp;try (with_reducible rfl))
 try simp only [qaa]
 refine qad 8 (by kernel_rfl) (by simp only [qab];rfl) (fun K hK => ?_)
 have HB:=(Blk.new (w.alloc (.cells (tc t) 47)) (rtc Tsk.zero) 129).keeps ((Keeps.refl _).drew.trans k1);simp only [World.size_alloc] at HB;have HD:Hid (Blk w1 (w.heap.size+1) (rtc Tsk.zero)):=HB;obtain ⟨_,q1,q2⟩:=HB
 go_simp
 try go_wp2_with fail
 refine hK.out _ _ ?_ (fun hHeld => ?_)
 ·exact hHeld.put (r:=w.heap.size+1) (by omega) (by omega) 0 (rtc t).toList
 clear hK K
 try simp only [qaa]
 refine wpAnyH_done (by kernel_rfl) ?_ _
 go_wp2
 have D:=HD.out.putC (rtc t).toList rfl
 have K:=hHeld.keeps
 change bodyPost _ _ _ _ _ (putC w1 (w.heap.size+1) 0 (rtc t).toList)
 change Keeps w (putC w1 (w.heap.size+1) 0 (rtc t).toList) at K
 generalize putC w1 (w.heap.size+1) 0 (rtc t).toList=X at D K ⊢
 exact bodyPost_ret (v := .agg (rtc t)) (by simp [results,Tryz.results137,go_sem,D.cells]) rfl ⟨rfl,K⟩
end Go.Proofs.YthpdlbcdbncnhaaGreatDoor
