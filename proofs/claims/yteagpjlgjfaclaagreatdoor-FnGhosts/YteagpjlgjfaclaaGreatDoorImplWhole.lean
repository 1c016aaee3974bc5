/-
  The program's task by its parts: the head that all classes
  The program's task of each class: taken out of a task, and
  The program's task of each class, made whole again.
  What a task is: the program's TaskOk.
-/
import Derived.Test.YteagpjlgjfaclaaGreatDoorTaskSpec
import Derived.Test.YteagpjlgjfaclaaGreatDoorPlain1
import Derived.Test.YteagpjlgjfaclaaGreatDoorFairList
import Derived.BigRegion
import Derived.Test.YteagpjlgjfaclaaGreatDoorLockCopy
namespace Go.Proofs.YteagpjlgjfaclaaGreatDoor
set_option maxRecDepth 100000
open Go.RowKit
abbrev hc (t:ar):Array Value:=#[.int .i64 t.no,.int .i64 t.cls,.int .i64 t.cpu,.int .i64 t.st,.bool t.idle]
abbrev t8 (t:ar):Array Value:=#[.int .i64 t.q,.int .i64 t.p,.int .i64 t.left,.int .i64 t.due]
abbrev p6 (t:ar):Array Value:=#[.int .i64 t.prio,.int .i64 t.round,.int .i64 t.left,.int .i64 t.seq]
abbrev GC (t:ar):Array Value:=#[.int .i64 t.nice,.int .i64 t.v]
def ar.bare (t:ar):ar:=⟨t.no,t.cls,t.cpu,t.st,t.idle,0,0,0,0,0,0,0,0,0⟩
def eN (t:ar):Bool:=aH t.no 1 1000&&aH t.cpu 0 3&&(t.st==1||t.st==2)
def i7 (t:ar):Bool:=okB t.q t.p&&aH t.left 0 t.q&&aH t.due 0 100040
def lH (t:ar):Bool:=if t.round==0 then t.left==0 else aH t.left 1 t.round
def hJ (t:ar):Bool:=aH t.prio 1 20&&aH t.round 0 10&&lH t&&aH t.seq 0 1000000
def jH (t:ar):Bool:=aH t.nice (-4) 4&&aH t.v 0 100000000
theorem t9 (t:ar) (w:World) :
  Calls Tryz.prog 93 #[tk t] w fun e w'=>e = .returned (.agg (hc t)) /\ aa w w':=by
 go_enter Tryz.func93,Tryz.ntmps93
 go_wp2
 exact bodyPost_ret (v := .agg (hc t)) (by simp [results,Tryz.results93,go_sem]) rfl ⟨rfl,by repeat (first | exact aa.refl _ | refine aa.alloc ?_ _ | refine aa.drewN ?_ _ | refine aa.setCell ?_ (by simp [go_sem]) _)⟩
theorem ua (t:ar) (w:World) :
  Calls Tryz.prog 157 #[.agg (hc t)] w fun e w'=>e = .returned (tk t.bare) /\ aa w w':=by
 go_enter Tryz.func157,Tryz.ntmps157
 go_wp2
 exact bodyPost_ret (v:=tk t.bare) (by simp [results,Tryz.results157,go_sem,ar.bare]) rfl ⟨rfl,by repeat (first | exact aa.refl _ | refine aa.alloc ?_ _ | refine aa.drewN ?_ _ | refine aa.setCell ?_ (by simp [go_sem]) _)⟩
theorem gR (t:ar) (w:World) :
  Calls Tryz.prog 113 #[.agg (hc t)] w fun e w'=>e = .returned (.bool (eN t)) /\ aa w w':=by
 cases b1:aH t.no 1 1000
 ·have Hr:Hid (eN t=false):=by show _=_;simp [eN,b1]
  go_enter Tryz.func113,Tryz.ntmps113
  go_wp2_with (go_at_call 105;refine (eW _ _ _ _).mono ?_;rintro e w' ⟨rfl,rfl⟩)
  go_ret
  exact ⟨by rw [Hr.out];rfl,by repeat (first | exact aa.refl _ | refine aa.alloc ?_ _ | refine aa.drewN ?_ _)⟩
 ·cases b2:aH t.cpu 0 3
  ·have Hr:Hid (eN t=false):=by show _=_;simp [eN,b2]
   go_enter Tryz.func113,Tryz.ntmps113
   go_wp2_with (go_at_call 105;refine (eW _ _ _ _).mono ?_;rintro e w' ⟨rfl,rfl⟩)
   go_ret
   exact ⟨by rw [Hr.out];rfl,by repeat (first | exact aa.refl _ | refine aa.alloc ?_ _ | refine aa.drewN ?_ _)⟩
  ·cases b3:(t.st==1)
   ·have Hr:Hid (eN t=(t.st==2)):=by show _=_;simp only [eN,b1,b2,b3,Bool.true_and,Bool.false_or]
    go_enter Tryz.func113,Tryz.ntmps113
    go_wp2_with (go_at_call 105;refine (eW _ _ _ _).mono ?_;rintro e w' ⟨rfl,rfl⟩)
    go_ret
    exact ⟨by rw [Hr.out];rfl,by repeat (first | exact aa.refl _ | refine aa.alloc ?_ _ | refine aa.drewN ?_ _)⟩
   ·have Hr:Hid (eN t=true):=by show _=_;simp only [eN,b1,b2,b3,Bool.true_and,Bool.true_or]
    go_enter Tryz.func113,Tryz.ntmps113
    go_wp2_with (go_at_call 105;refine (eW _ _ _ _).mono ?_;rintro e w' ⟨rfl,rfl⟩)
    go_ret
    exact ⟨by rw [Hr.out];rfl,by repeat (first | exact aa.refl _ | refine aa.alloc ?_ _ | refine aa.drewN ?_ _)⟩
theorem y8 (t:ar) (w:World) :
  Calls Tryz.prog 158 #[.agg (p6 t)] w fun e w'=>e = .returned (.bool (lH t)) /\ aa w w':=by
 cases b1:(t.round==0)
 ·have Hr:Hid (lH t=aH t.left 1 t.round):=by show _=_;simp [lH,b1]
  go_enter Tryz.func158,Tryz.ntmps158
  go_wp2_with (go_at_call 105;refine (eW _ _ _ _).mono ?_;rintro e w' ⟨rfl,rfl⟩)
  go_ret
  exact ⟨by rw [Hr.out];rfl,by repeat (first | exact aa.refl _ | refine aa.alloc ?_ _ | refine aa.drewN ?_ _)⟩
 ·have Hr:Hid (lH t=(t.left==0)):=by show _=_;simp only [lH,b1,if_true]
  go_enter Tryz.func158,Tryz.ntmps158
  go_wp2
  go_ret
  exact ⟨by rw [Hr.out];rfl,by repeat (first | exact aa.refl _ | refine aa.alloc ?_ _ | refine aa.drewN ?_ _)⟩
set_option maxHeartbeats 1000000 in
theorem oC (t:ar) (w:World) :
  Calls Tryz.prog 114 #[.agg (t8 t)] w fun e w'=>e = .returned (.bool (i7 t)) /\ aa w w':=by
 cases b1:okB t.q t.p
 ·have Hr:Hid (i7 t=false):=by show _=_;simp [i7,b1]
  go_enter Tryz.func114,Tryz.ntmps114
  go_wp2_with (first
   | (go_at_call 105;refine (eW _ _ _ _).mono ?_;rintro e w' ⟨rfl,rfl⟩)
   | (go_at_call 94;refine (oA _ _ _).mono ?_;rintro e w' ⟨rfl,rfl⟩))
  go_ret
  exact ⟨by rw [Hr.out];rfl,by repeat (first | exact aa.refl _ | refine aa.alloc ?_ _ | refine aa.drewN ?_ _)⟩
 ·cases b2:aH t.left 0 t.q
  ·have Hr:Hid (i7 t=false):=by show _=_;simp [i7,b2]
   go_enter Tryz.func114,Tryz.ntmps114
   go_wp2_with (first
    | (go_at_call 105;refine (eW _ _ _ _).mono ?_;rintro e w' ⟨rfl,rfl⟩)
    | (go_at_call 94;refine (oA _ _ _).mono ?_;rintro e w' ⟨rfl,rfl⟩))
   go_ret
   exact ⟨by rw [Hr.out];rfl,by repeat (first | exact aa.refl _ | refine aa.alloc ?_ _ | refine aa.drewN ?_ _)⟩
  ·have Hr:Hid (i7 t=aH t.due 0 100040):=by show _=_;simp [i7,b1,b2]
   go_enter Tryz.func114,Tryz.ntmps114
   go_wp2_with (first
    | (go_at_call 105;refine (eW _ _ _ _).mono ?_;rintro e w' ⟨rfl,rfl⟩)
    | (go_at_call 94;refine (oA _ _ _).mono ?_;rintro e w' ⟨rfl,rfl⟩))
   go_ret
   exact ⟨by rw [Hr.out];rfl,by repeat (first | exact aa.refl _ | refine aa.alloc ?_ _ | refine aa.drewN ?_ _)⟩
set_option maxHeartbeats 1000000 in
theorem oD (t:ar) (w:World) :
  Calls Tryz.prog 117 #[.agg (p6 t)] w fun e w'=>e = .returned (.bool (hJ t)) /\ aa w w':=by
 have kW:aa w (w.alloc (.cells (p6 t) 169)):=(aa.refl _).alloc _
 have r1:=dA w (p6 t) 169
 have K0:=aa.refl (w.alloc (.cells (p6 t) 169))
 cases b1:aH t.prio 1 20
 ·have Hr:Hid (hJ t=false):=by show _=_;simp [hJ,b1]
  go_enter Tryz.func117,Tryz.ntmps117
  go_wp2_with (go_at_call 105;refine (eW _ _ _ _).mono ?_;rintro e w' ⟨rfl,rfl⟩)
  go_ret
  exact ⟨by rw [Hr.out];rfl,by repeat (first | exact aa.refl _ | refine aa.alloc ?_ _ | refine aa.drewN ?_ _)⟩
 ·cases b2:aH t.round 0 10
  ·have Hr:Hid (hJ t=false):=by show _=_;simp [hJ,b2]
   go_enter Tryz.func117,Tryz.ntmps117
   go_wp2_with (go_at_call 105;refine (eW _ _ _ _).mono ?_;rintro e w' ⟨rfl,rfl⟩)
   go_ret
   exact ⟨by rw [Hr.out];rfl,by repeat (first | exact aa.refl _ | refine aa.alloc ?_ _ | refine aa.drewN ?_ _)⟩
  ·cases b3:lH t
   ·have Hr:Hid (hJ t=false):=by show _=_;simp [hJ,b3]
    go_enter Tryz.func117,Tryz.ntmps117
    go_wp2_with (first
     | (go_at_call 105;refine (eW _ _ _ _).mono ?_;rintro e w' ⟨rfl,rfl⟩)
     | (go_at_call 158;refine (y8 t _).mono ?_;rintro e w1 ⟨rfl,k1⟩;rw [b3]))
    go_ret
    exact ⟨by rw [Hr.out];rfl,kW.trans k1⟩
   ·have Hr:Hid (hJ t=aH t.seq 0 1000000):=by show _=_;simp [hJ,b1,b2,b3]
    go_enter Tryz.func117,Tryz.ntmps117
    go_wp2_with (first
     | (go_at_call 105;refine (eW _ _ _ _).mono ?_;rintro e w' ⟨rfl,rfl⟩)
     | (go_at_call 158;refine (y8 t _).mono ?_;rintro e w1 ⟨rfl,k1⟩;rw [b3]))
    go_ret
    exact ⟨by rw [Hr.out];rfl,kW.trans k1⟩
theorem oE (t:ar) (w:World) :
  Calls Tryz.prog 120 #[.agg (GC t)] w fun e w'=>e = .returned (.bool (jH t)) /\ aa w w':=by
 cases b1:aH t.nice (-4) 4
 ·have Hr:Hid (jH t=false):=by show _=_;simp [jH,b1]
  go_enter Tryz.func120,Tryz.ntmps120
  go_wp2_with (go_at_call 159;refine (y9 _ _).mono ?_;rintro e w' ⟨rfl,rfl⟩)
  go_ret
  exact ⟨by rw [Hr.out];rfl,by repeat (first | exact aa.refl _ | refine aa.alloc ?_ _ | refine aa.drewN ?_ _)⟩
 ·have Hr:Hid (jH t=aH t.v 0 100000000):=by show _=_;simp [jH,b1]
  go_enter Tryz.func120,Tryz.ntmps120
  go_wp2_with (first
   | (go_at_call 159;refine (y9 _ _).mono ?_;rintro e w' ⟨rfl,rfl⟩)
   | (go_at_call 105;refine (eW _ _ _ _).mono ?_;rintro e w' ⟨rfl,rfl⟩))
  go_ret
  exact ⟨by rw [Hr.out];rfl,by repeat (first | exact aa.refl _ | refine aa.alloc ?_ _ | refine aa.drewN ?_ _)⟩
abbrev fJ (t:ar):Array Value:=#[.int .i64 t.no,.int .i64 t.cls,.int .i64 t.cpu,.int .i64 t.st,.bool t.idle,.int .i64 t.q,.int .i64 t.p,.int .i64 t.left,.int .i64 t.due]
abbrev fY (t:ar):Array Value:=#[.int .i64 t.no,.int .i64 t.cls,.int .i64 t.cpu,.int .i64 t.st,.bool t.idle,.int .i64 t.prio,.int .i64 t.round,.int .i64 t.left,.int .i64 t.seq]
abbrev fZ (t:ar):Array Value:=#[.int .i64 t.no,.int .i64 t.cls,.int .i64 t.cpu,.int .i64 t.st,.bool t.idle,.int .i64 t.nice,.int .i64 t.v]
def ar.cH (t:ar):ar:=⟨t.no,t.cls,t.cpu,t.st,t.idle,t.q,t.p,t.left,t.due,0,0,0,0,0⟩
def ar.cE (t:ar):ar:=⟨t.no,t.cls,t.cpu,t.st,t.idle,0,0,t.left,0,t.prio,t.round,t.seq,0,0⟩
def ar.bZ (t:ar):ar:=⟨t.no,t.cls,t.cpu,t.st,t.idle,0,0,0,0,0,0,0,t.nice,t.v⟩
theorem tX (t:ar) (w:World) :
  Calls Tryz.prog 43 #[tk t] w fun e w'=>e = .returned (.agg (fJ t)) /\ aa w w':=by
 go_enter Tryz.func43,Tryz.ntmps43
 go_wp2_with fail
 have H0:Has w w.heap.size (tc t) ((w.alloc (.cells (tc t) 43)).alloc (.cells (fJ ar.zero) 84)):=⟨((aa.refl _).alloc _).alloc _,(aq.new w _ _).alloc _⟩
 have r1:∀ w',Has w w.heap.size (tc t) w'->∀ k,w'.cell? ⟨w.heap.size,k,none⟩=(tc t)[k]?:=fun w' h=>h.box.cells
 refine wp_region_held_drew (S:=(fun w'=>Has w w.heap.size (tc t) w')) (by kernel_rfl) ?_ (fun hHeld => ?_)
 ·exact H0.go (aa.refl _).drew
 refine ad.go [0,2,3,4,5,6,7,8,9,10,11] ?_
 iterate 11 (refine aM (h := ?_);try simp only [au])
 refine ad.nil ?_
 refine aR 1 (h:=fun K hK => ?_)
 go_simp
 first
    | (go_at_call 93;refine (t9 t _).mono ?_;rintro e w1 ⟨rfl,k1⟩)
 try go_wp2_with fail
 refine hK.out _ _ ?_ fun hHeld => ?_
 ·exact hHeld.go k1
 clear hK K
 try simp only [au]
 refine di 12 (h := ?_)
 try simp only [au]
 refine aR 13 (h:=fun K hK => ?_)
 have HB:=(aq.new (w.alloc (.cells (tc t) 43)) (fJ ar.zero) 84).keeps ((aa.refl _).drew.trans k1);simp only [World.size_alloc] at HB;have HD:Hid (aq w1 (w.heap.size+1) (fJ ar.zero)):=HB;obtain ⟨_,q1,q2⟩:=HB
 go_simp
 try go_wp2_with fail
 refine hK.out _ _ ?_ fun hHeld => ?_
 ·exact hHeld.put (r:=w.heap.size+1) (by omega) (by omega) 0 (fJ t).toList
 clear hK K
 try simp only [au]
 refine wpAnyH_done (by kernel_rfl) ?_ _
 go_wp2
 have D:=HD.out.putC (fJ t).toList rfl
 have K:=hHeld.keeps
 change bodyPost _ _ _ _ _ (putC w1 (w.heap.size+1) 0 (fJ t).toList)
 change aa w (putC w1 (w.heap.size+1) 0 (fJ t).toList) at K
 generalize putC w1 (w.heap.size+1) 0 (fJ t).toList=X at D K ⊢
 exact bodyPost_ret (v := .agg (fJ t)) (by simp [results,Tryz.results43,go_sem,D.cells]) rfl ⟨rfl,K⟩
theorem GD (t:ar) (w:World) :
  Calls Tryz.prog 116 #[tk t] w fun e w'=>e = .returned (.agg (fY t)) /\ aa w w':=by
 go_enter Tryz.func116,Tryz.ntmps116
 go_wp2_with fail
 have H0:Has w w.heap.size (tc t) ((w.alloc (.cells (tc t) 43)).alloc (.cells (fY ar.zero) 171)):=⟨((aa.refl _).alloc _).alloc _,(aq.new w _ _).alloc _⟩
 have r1:∀ w',Has w w.heap.size (tc t) w'->∀ k,w'.cell? ⟨w.heap.size,k,none⟩=(tc t)[k]?:=fun w' h=>h.box.cells
 refine wp_region_held_drew (S:=(fun w'=>Has w w.heap.size (tc t) w')) (by kernel_rfl) ?_ (fun hHeld => ?_)
 ·exact H0.go (aa.refl _).drew
 refine ad.go [0,2,3,4,5,6,7,8,9,10] ?_
 iterate 10 (refine aM (h := ?_);try simp only [au])
 refine ad.nil ?_
 refine aR 1 (h:=fun K hK => ?_)
 go_simp
 first
    | (go_at_call 93;refine (t9 t _).mono ?_;rintro e w1 ⟨rfl,k1⟩)
 try go_wp2_with fail
 refine hK.out _ _ ?_ fun hHeld => ?_
 ·exact hHeld.go k1
 clear hK K
 try simp only [au]
 refine di 11 (h := ?_)
 try simp only [au]
 refine aR 12 (h:=fun K hK => ?_)
 have HB:=(aq.new (w.alloc (.cells (tc t) 43)) (fY ar.zero) 171).keeps ((aa.refl _).drew.trans k1);simp only [World.size_alloc] at HB;have HD:Hid (aq w1 (w.heap.size+1) (fY ar.zero)):=HB;obtain ⟨_,q1,q2⟩:=HB
 go_simp
 try go_wp2_with fail
 refine hK.out _ _ ?_ fun hHeld => ?_
 ·exact hHeld.put (r:=w.heap.size+1) (by omega) (by omega) 0 (fY t).toList
 clear hK K
 try simp only [au]
 refine wpAnyH_done (by kernel_rfl) ?_ _
 go_wp2
 have D:=HD.out.putC (fY t).toList rfl
 have K:=hHeld.keeps
 change bodyPost _ _ _ _ _ (putC w1 (w.heap.size+1) 0 (fY t).toList)
 change aa w (putC w1 (w.heap.size+1) 0 (fY t).toList) at K
 generalize putC w1 (w.heap.size+1) 0 (fY t).toList=X at D K ⊢
 exact bodyPost_ret (v := .agg (fY t)) (by simp [results,Tryz.results116,go_sem,D.cells]) rfl ⟨rfl,K⟩
theorem GG (t:ar) (w:World) :
  Calls Tryz.prog 119 #[tk t] w fun e w'=>e = .returned (.agg (fZ t)) /\ aa w w':=by
 go_enter Tryz.func119,Tryz.ntmps119
 go_wp2_with fail
 have H0:Has w w.heap.size (tc t) ((w.alloc (.cells (tc t) 43)).alloc (.cells (fZ ar.zero) 176)):=⟨((aa.refl _).alloc _).alloc _,(aq.new w _ _).alloc _⟩
 have r1:∀ w',Has w w.heap.size (tc t) w'->∀ k,w'.cell? ⟨w.heap.size,k,none⟩=(tc t)[k]?:=fun w' h=>h.box.cells
 refine wp_region_held_drew (S:=(fun w'=>Has w w.heap.size (tc t) w')) (by kernel_rfl) ?_ (fun hHeld => ?_)
 ·exact H0.go (aa.refl _).drew
 refine ad.go [0,2,3,4,5,6] ?_
 iterate 6 (refine aM (h := ?_);try simp only [au])
 refine ad.nil ?_
 refine aR 1 (h:=fun K hK => ?_)
 go_simp
 first
    | (go_at_call 93;refine (t9 t _).mono ?_;rintro e w1 ⟨rfl,k1⟩)
 try go_wp2_with fail
 refine hK.out _ _ ?_ fun hHeld => ?_
 ·exact hHeld.go k1
 clear hK K
 try simp only [au]
 refine di 7 (h := ?_)
 try simp only [au]
 refine aR 8 (h:=fun K hK => ?_)
 have HB:=(aq.new (w.alloc (.cells (tc t) 43)) (fZ ar.zero) 176).keeps ((aa.refl _).drew.trans k1);simp only [World.size_alloc] at HB;have HD:Hid (aq w1 (w.heap.size+1) (fZ ar.zero)):=HB;obtain ⟨_,q1,q2⟩:=HB
 go_simp
 try go_wp2_with fail
 refine hK.out _ _ ?_ fun hHeld => ?_
 ·exact hHeld.put (r:=w.heap.size+1) (by omega) (by omega) 0 (fZ t).toList
 clear hK K
 try simp only [au]
 refine wpAnyH_done (by kernel_rfl) ?_ _
 go_wp2
 have D:=HD.out.putC (fZ t).toList rfl
 have K:=hHeld.keeps
 change bodyPost _ _ _ _ _ (putC w1 (w.heap.size+1) 0 (fZ t).toList)
 change aa w (putC w1 (w.heap.size+1) 0 (fZ t).toList) at K
 generalize putC w1 (w.heap.size+1) 0 (fZ t).toList=X at D K ⊢
 exact bodyPost_ret (v := .agg (fZ t)) (by simp [results,Tryz.results119,go_sem,D.cells]) rfl ⟨rfl,K⟩
set_option maxHeartbeats 2000000 in
theorem oF (t:ar) (w:World) :
  Calls Tryz.prog 115 #[.agg (fJ t)] w fun e w'=>e = .returned (tk t.cH) /\ aa w w':=by
 go_enter Tryz.func115,Tryz.ntmps115
 go_wp2_with fail
 refine (ua t _).mono ?_
 rintro e w1 ⟨rfl,k1⟩
 have B1:=((aq.new w (fJ t) 84).alloc (.cells (tc ar.zero) 43)).keeps k1
 have B2:=(aq.new (w.alloc (.cells (fJ t) 84)) (tc ar.zero) 43).keeps k1
 have K1:aa w w1:=(((aa.refl w).alloc _).alloc _).trans k1
 simp only [World.size_alloc] at B2
 have l1:=B1.lt
 have l2:=B2.lt
 clear k1
 go_wp2_with fail
 have H0:∀ X:Array Value,Has w w.heap.size (fJ t) (w1.alloc (.cells X 43)).drew:=fun X=>⟨(K1.alloc _).drew,(B1.alloc _).keeps (aa.refl _).drew⟩
 have r1:∀ w',Has w w.heap.size (fJ t) w'->∀ k,w'.cell? ⟨w.heap.size,k,none⟩=(fJ t)[k]?:=fun w' h=>h.box.cells
 have ub:w.heap.size+1≠w1.heap.size:=by omega
 have p7:w1.heap.size≠w.heap.size+1:=by omega
 have HR:Hid (aq w1 (w.heap.size+1) (tc ar.zero)):=B2
 have HK:Hid (aa w w1):=K1
 clear B1 B2 K1
 refine wp_region_held_drew (S:=(fun w'=>Has w w.heap.size (fJ t) w')) (by kernel_rfl) ?_ (fun hHeld => ?_)
 ·exact H0 _
 refine ad.go [0,1,2,3,4,5,6,7,8,9,10,11,12,13,14] ?_
 iterate 15 (refine aM (h := ?_);try simp only [au])
 refine ad.nil ?_
 refine aR 15 (h:=fun K hK => ?_)
 skip
 go_simp
 try go_wp2_with fail
 refine hK.out _ _ ?_ fun hHeld => ?_
 ·exact H0 _
 clear hK K
 try simp only [au]
 refine di 16 (h := ?_)
 try simp only [au]
 refine aR 17 (h:=fun K hK => ?_)
 skip
 go_simp
 try go_wp2_with fail
 refine hK.out _ _ ?_ fun hHeld => ?_
 ·exact H0 _
 clear hK K
 try simp only [au]
 refine di 18 (h := ?_)
 try simp only [au]
 refine aR 19 (h:=fun K hK => ?_)
 skip
 go_simp
 try go_wp2_with fail
 refine hK.out _ _ ?_ fun hHeld => ?_
 ·exact H0 _
 clear hK K
 try simp only [au]
 refine di 20 (h := ?_)
 try simp only [au]
 refine aR 21 (h:=fun K hK => ?_)
 skip
 go_simp
 try go_wp2_with fail
 refine hK.out _ _ ?_ fun hHeld => ?_
 ·exact H0 _
 clear hK K
 try simp only [au]
 refine wpAnyH_done (by kernel_rfl) ?_ _
 clear H0 r1 hHeld
 obtain ⟨_,q1,q2⟩:=HR.out
 go_wp2
 have D:=((HR.out.putC (tc t.cH).toList rfl).alloc (.cells (tc t.cH) 43)).keeps (aa.refl _).drew
 have K:=((aa.putC (b:=w.heap.size+1) (by omega) (tc t.cH).toList 0 HK.out).alloc (.cells (tc t.cH) 43)).drew
 change bodyPost _ _ _ _ _ ((putC w1 (w.heap.size+1) 0 (tc t.cH).toList).alloc (.cells (tc t.cH) 43)).drew
 generalize ((putC w1 (w.heap.size+1) 0 (tc t.cH).toList).alloc (.cells (tc t.cH) 43)).drew=Y at D K ⊢
 exact bodyPost_ret (v:=tk t.cH) (by simp [results,Tryz.results115,go_sem,D.cells]) rfl ⟨rfl,K⟩
set_option maxHeartbeats 2000000 in
theorem oG (t:ar) (w:World) :
  Calls Tryz.prog 118 #[.agg (fY t)] w fun e w'=>e = .returned (tk t.cE) /\ aa w w':=by
 go_enter Tryz.func118,Tryz.ntmps118
 go_wp2_with fail
 refine (ua t _).mono ?_
 rintro e w1 ⟨rfl,k1⟩
 have B1:=((aq.new w (fY t) 171).alloc (.cells (tc ar.zero) 43)).keeps k1
 have B2:=(aq.new (w.alloc (.cells (fY t) 171)) (tc ar.zero) 43).keeps k1
 have K1:aa w w1:=(((aa.refl w).alloc _).alloc _).trans k1
 simp only [World.size_alloc] at B2
 have l1:=B1.lt
 have l2:=B2.lt
 clear k1
 go_wp2_with fail
 have H0:∀ X:Array Value,Has w w.heap.size (fY t) (w1.alloc (.cells X 43)).drew:=fun X=>⟨(K1.alloc _).drew,(B1.alloc _).keeps (aa.refl _).drew⟩
 have r1:∀ w',Has w w.heap.size (fY t) w'->∀ k,w'.cell? ⟨w.heap.size,k,none⟩=(fY t)[k]?:=fun w' h=>h.box.cells
 have ub:w.heap.size+1≠w1.heap.size:=by omega
 have p7:w1.heap.size≠w.heap.size+1:=by omega
 have HR:Hid (aq w1 (w.heap.size+1) (tc ar.zero)):=B2
 have HK:Hid (aa w w1):=K1
 clear B1 B2 K1
 refine wp_region_held_drew (S:=(fun w'=>Has w w.heap.size (fY t) w')) (by kernel_rfl) ?_ (fun hHeld => ?_)
 ·exact H0 _
 refine ad.go [0,1,2,3,4,5,6,7,8,9,10,11,12] ?_
 iterate 13 (refine aM (h := ?_);try simp only [au])
 refine ad.nil ?_
 refine aR 13 (h:=fun K hK => ?_)
 skip
 go_simp
 try go_wp2_with fail
 refine hK.out _ _ ?_ fun hHeld => ?_
 ·exact H0 _
 clear hK K
 try simp only [au]
 refine di 14 (h := ?_)
 try simp only [au]
 refine aR 15 (h:=fun K hK => ?_)
 skip
 go_simp
 try go_wp2_with fail
 refine hK.out _ _ ?_ fun hHeld => ?_
 ·exact H0 _
 clear hK K
 try simp only [au]
 refine di 16 (h := ?_)
 try simp only [au]
 refine aR 17 (h:=fun K hK => ?_)
 skip
 go_simp
 try go_wp2_with fail
 refine hK.out _ _ ?_ fun hHeld => ?_
 ·exact H0 _
 clear hK K
 try simp only [au]
 refine di 18 (h := ?_)
 try simp only [au]
 refine aR 19 (h:=fun K hK => ?_)
 skip
 go_simp
 try go_wp2_with fail
 refine hK.out _ _ ?_ fun hHeld => ?_
 ·exact H0 _
 clear hK K
 try simp only [au]
 refine wpAnyH_done (by kernel_rfl) ?_ _
 clear H0 r1 hHeld
 obtain ⟨_,q1,q2⟩:=HR.out
 go_wp2
 have D:=((HR.out.putC (tc t.cE).toList rfl).alloc (.cells (tc t.cE) 43)).keeps (aa.refl _).drew
 have K:=((aa.putC (b:=w.heap.size+1) (by omega) (tc t.cE).toList 0 HK.out).alloc (.cells (tc t.cE) 43)).drew
 change bodyPost _ _ _ _ _ ((putC w1 (w.heap.size+1) 0 (tc t.cE).toList).alloc (.cells (tc t.cE) 43)).drew
 generalize ((putC w1 (w.heap.size+1) 0 (tc t.cE).toList).alloc (.cells (tc t.cE) 43)).drew=Y at D K ⊢
 exact bodyPost_ret (v:=tk t.cE) (by simp [results,Tryz.results118,go_sem,D.cells]) rfl ⟨rfl,K⟩
set_option maxHeartbeats 2000000 in
theorem oH (t:ar) (w:World) :
  Calls Tryz.prog 121 #[.agg (fZ t)] w fun e w'=>e = .returned (tk t.bZ) /\ aa w w':=by
 go_enter Tryz.func121,Tryz.ntmps121
 go_wp2_with fail
 refine (ua t _).mono ?_
 rintro e w1 ⟨rfl,k1⟩
 have B1:=((aq.new w (fZ t) 176).alloc (.cells (tc ar.zero) 43)).keeps k1
 have B2:=(aq.new (w.alloc (.cells (fZ t) 176)) (tc ar.zero) 43).keeps k1
 have K1:aa w w1:=(((aa.refl w).alloc _).alloc _).trans k1
 simp only [World.size_alloc] at B2
 have l1:=B1.lt
 have l2:=B2.lt
 clear k1
 go_wp2_with fail
 have H0:∀ X:Array Value,Has w w.heap.size (fZ t) (w1.alloc (.cells X 43)).drew:=fun X=>⟨(K1.alloc _).drew,(B1.alloc _).keeps (aa.refl _).drew⟩
 have r1:∀ w',Has w w.heap.size (fZ t) w'->∀ k,w'.cell? ⟨w.heap.size,k,none⟩=(fZ t)[k]?:=fun w' h=>h.box.cells
 have ub:w.heap.size+1≠w1.heap.size:=by omega
 have p7:w1.heap.size≠w.heap.size+1:=by omega
 have HR:Hid (aq w1 (w.heap.size+1) (tc ar.zero)):=B2
 have HK:Hid (aa w w1):=K1
 clear B1 B2 K1
 refine wp_region_held_drew (S:=(fun w'=>Has w w.heap.size (fZ t) w')) (by kernel_rfl) ?_ (fun hHeld => ?_)
 ·exact H0 _
 refine ad.go [0,1,2,3,4,5,6] ?_
 iterate 7 (refine aM (h := ?_);try simp only [au])
 refine ad.nil ?_
 refine aR 7 (h:=fun K hK => ?_)
 skip
 go_simp
 try go_wp2_with fail
 refine hK.out _ _ ?_ fun hHeld => ?_
 ·exact H0 _
 clear hK K
 try simp only [au]
 refine di 8 (h := ?_)
 try simp only [au]
 refine aR 9 (h:=fun K hK => ?_)
 skip
 go_simp
 try go_wp2_with fail
 refine hK.out _ _ ?_ fun hHeld => ?_
 ·exact H0 _
 clear hK K
 try simp only [au]
 refine wpAnyH_done (by kernel_rfl) ?_ _
 clear H0 r1 hHeld
 obtain ⟨_,q1,q2⟩:=HR.out
 go_wp2
 have D:=((HR.out.putC (tc t.bZ).toList rfl).alloc (.cells (tc t.bZ) 43)).keeps (aa.refl _).drew
 have K:=((aa.putC (b:=w.heap.size+1) (by omega) (tc t.bZ).toList 0 HK.out).alloc (.cells (tc t.bZ) 43)).drew
 change bodyPost _ _ _ _ _ ((putC w1 (w.heap.size+1) 0 (tc t.bZ).toList).alloc (.cells (tc t.bZ) 43)).drew
 generalize ((putC w1 (w.heap.size+1) 0 (tc t.bZ).toList).alloc (.cells (tc t.bZ) 43)).drew=Y at D K ⊢
 exact bodyPost_ret (v:=tk t.bZ) (by simp [results,Tryz.results121,go_sem,D.cells]) rfl ⟨rfl,K⟩
section
attribute [local go_sem high] GH
theorem uc (t:ar):eN t=true↔(1 <= t.no /\ t.no <= 1000) /\ (0 <= t.cpu /\ t.cpu <= 3) /\ (1 <= t.st /\ t.st <= 2):=by
 simp only [eN,Bool.and_eq_true,Bool.or_eq_true,beq_iff_eq,dq];omega
theorem GI (t:ar) (c1:(t.cls==1)=true):bN t=(eN t&&i7 t&&fK t.cH t):=by
 obtain ⟨no,cls,cpu,st,idle,q,p,left,due,prio,round,seq,nice,v⟩:=t
 simp only [beq_iff_eq] at c1
 subst c1
 rw [Bool.eq_iff_iff]
 simp only [Bool.and_eq_true,uc,ud]
 simp [bN,gD,fX,i7,dW,ig,ar.cH,dq,j9]
 omega
theorem GJ (t:ar) (c2:(t.cls==2)=true):bN t=(eN t&&hJ t&&fK t.cE t):=by
 obtain ⟨no,cls,cpu,st,idle,q,p,left,due,prio,round,seq,nice,v⟩:=t
 simp only [beq_iff_eq] at c2
 subst c2
 rw [Bool.eq_iff_iff]
 simp only [Bool.and_eq_true,uc,ud]
 by_cases hr:round=0
 ·subst hr
  simp [bN,gD,fX,hJ,lH,dP,ig,ar.cE,dq]
  omega
 ·simp [bN,gD,fX,hJ,lH,dP,ig,ar.cE,dq,hr]
  omega
theorem GK (t:ar) (c3:(t.cls==3)=true):bN t=(eN t&&jH t&&fK t.bZ t):=by
 obtain ⟨no,cls,cpu,st,idle,q,p,left,due,prio,round,seq,nice,v⟩:=t
 simp only [beq_iff_eq] at c3
 subst c3
 rw [Bool.eq_iff_iff]
 simp only [Bool.and_eq_true,uc,ud]
 simp [bN,gD,fX,jH,dP,dW,ar.bZ,dq]
 omega
theorem GL (t:ar) (c1:(t.cls==1)=false) (c2:(t.cls==2)=false) (c3:(t.cls==3)=false):bN t=false:=by
 have:aH t.cls 1 3=false:=mh (by simp at c1 c2 c3;omega)
 simp [bN,this]
set_option maxHeartbeats 2000000 in
theorem GM (t:ar) (w:World) (c1:(t.cls==1)=true) :
  Calls Tryz.prog 74 #[tk t] w fun e w'=>e = .returned (.bool (eN t&&i7 t&&fK t.cH t)) /\ aa w w':=by
 obtain ⟨N,HN⟩:∃ N,Hid (t.cH=N):=⟨_,rfl⟩
 go_enter Tryz.func74,Tryz.ntmps74
 go_wp2_with fail
 refine (tX t _).mono ?_
 rintro e w1 ⟨rfl,k1⟩
 have B1:=(aq.new w (tc t) 43).keeps k1
 have K1:aa w w1:=((aa.refl w).alloc _).trans k1
 clear k1
 go_wp2_with fail
 have kW:aa w (w1.alloc (.cells (fJ t) 84)):=K1.alloc _
 have r1:∀ w',aa (w1.alloc (.cells (fJ t) 84)) w'->∀ k,w'.cell? ⟨w.heap.size,k,none⟩=(tc t)[k]?:=fun w' h=>((B1.alloc _).keeps h).cells
 have r2:=dA w1 (fJ t) 84
 have K0:=aa.refl (w1.alloc (.cells (fJ t) 84))
 clear B1 K1
 generalize w1.alloc (.cells (fJ t) 84)=W at *
 generalize w1.heap.size=s at *
 cases d0:eN t
 ·skip
  have Hr:Hid ((eN t&&i7 t&&fK t.cH t)=false):=by show _=_;simp [d0]
  refine wp_region_held_drew (S:=(fun w'=>aa W w')) (by kernel_rfl) ?_ (fun hHeld => ?_)
  ·exact K0.drew
  refine ad.go [0,1] ?_
  iterate 2 (refine aM (h := ?_);try simp only [au])
  refine ad.nil ?_
  refine aR 2 (h:=fun K hK => ?_)
  go_simp
  first
     | (go_at_call 113;refine (gR t _).mono ?_;rintro e w2 ⟨rfl,k2⟩;rw [d0])
     | (go_at_call 114;refine (oC t _).mono ?_;rintro e w3 ⟨rfl,k3⟩;rw [d1])
     | (go_at_call 115;refine (oF t _).mono ?_;rintro e w4 ⟨rfl,k4⟩;rw [HN.out])
  try go_wp2_with fail
  refine hK.out _ _ ?_ fun hHeld => ?_
  ·exact aa.trans (by assumption) (by assumption)
  clear hK K
  try simp only [au]
  refine di 3 (h := ?_)
  try simp only [au]
  refine ad.go [4,5,6] ?_
  iterate 3 (refine dK (h := ?_);try simp only [au])
  refine ad.nil ?_
  refine ad.go [7,8] ?_
  iterate 2 (refine aM (h := ?_);try simp only [au])
  refine ad.nil ?_
  refine ad.go [9,10,11,12] ?_
  iterate 4 (refine dK (h := ?_);try simp only [au])
  refine ad.nil ?_
  refine ad.go [13,14] ?_
  iterate 2 (refine aM (h := ?_);try simp only [au])
  refine ad.nil ?_
  refine wpAnyH_done (by kernel_rfl) ?_ _
  go_wp2
  go_ret
  exact ⟨by rw [Hr.out];rfl,kW.trans (by assumption)⟩
 ·cases d1:i7 t
  ·skip
   have Hr:Hid ((eN t&&i7 t&&fK t.cH t)=false):=by show _=_;simp [d1]
   refine wp_region_held_drew (S:=(fun w'=>aa W w')) (by kernel_rfl) ?_ (fun hHeld => ?_)
   ·exact K0.drew
   refine ad.go [0,1] ?_
   iterate 2 (refine aM (h := ?_);try simp only [au])
   refine ad.nil ?_
   refine aR 2 (h:=fun K hK => ?_)
   go_simp
   first
      | (go_at_call 113;refine (gR t _).mono ?_;rintro e w2 ⟨rfl,k2⟩;rw [d0])
      | (go_at_call 114;refine (oC t _).mono ?_;rintro e w3 ⟨rfl,k3⟩;rw [d1])
      | (go_at_call 115;refine (oF t _).mono ?_;rintro e w4 ⟨rfl,k4⟩;rw [HN.out])
   try go_wp2_with fail
   refine hK.out _ _ ?_ fun hHeld => ?_
   ·exact aa.trans (by assumption) (by assumption)
   clear hK K
   try simp only [au]
   refine ad.go [3,4,5] ?_
   iterate 3 (refine aM (h := ?_);try simp only [au])
   refine ad.nil ?_
   refine aR 6 (h:=fun K hK => ?_)
   go_simp
   first
      | (go_at_call 113;refine (gR t _).mono ?_;rintro e w2 ⟨rfl,k2⟩;rw [d0])
      | (go_at_call 114;refine (oC t _).mono ?_;rintro e w3 ⟨rfl,k3⟩;rw [d1])
      | (go_at_call 115;refine (oF t _).mono ?_;rintro e w4 ⟨rfl,k4⟩;rw [HN.out])
   try go_wp2_with fail
   refine hK.out _ _ ?_ fun hHeld => ?_
   ·exact aa.trans (by assumption) (by assumption)
   clear hK K
   try simp only [au]
   refine ad.go [7,8] ?_
   iterate 2 (refine aM (h := ?_);try simp only [au])
   refine ad.nil ?_
   refine ad.go [9,10,11,12] ?_
   iterate 4 (refine dK (h := ?_);try simp only [au])
   refine ad.nil ?_
   refine ad.go [13,14] ?_
   iterate 2 (refine aM (h := ?_);try simp only [au])
   refine ad.nil ?_
   refine wpAnyH_done (by kernel_rfl) ?_ _
   go_wp2
   go_ret
   exact ⟨by rw [Hr.out];rfl,kW.trans (by assumption)⟩
  ·skip
   have Hr:Hid ((eN t&&i7 t&&fK t.cH t)=fK t.cH t):=by show _=_;simp [d0,d1]
   refine wp_region_held_drew (S:=(fun w'=>aa W w')) (by kernel_rfl) ?_ (fun hHeld => ?_)
   ·exact K0.drew
   refine ad.go [0,1] ?_
   iterate 2 (refine aM (h := ?_);try simp only [au])
   refine ad.nil ?_
   refine aR 2 (h:=fun K hK => ?_)
   go_simp
   first
      | (go_at_call 113;refine (gR t _).mono ?_;rintro e w2 ⟨rfl,k2⟩;rw [d0])
      | (go_at_call 114;refine (oC t _).mono ?_;rintro e w3 ⟨rfl,k3⟩;rw [d1])
      | (go_at_call 115;refine (oF t _).mono ?_;rintro e w4 ⟨rfl,k4⟩;rw [HN.out])
   try go_wp2_with fail
   refine hK.out _ _ ?_ fun hHeld => ?_
   ·exact aa.trans (by assumption) (by assumption)
   clear hK K
   try simp only [au]
   refine ad.go [3,4,5] ?_
   iterate 3 (refine aM (h := ?_);try simp only [au])
   refine ad.nil ?_
   refine aR 6 (h:=fun K hK => ?_)
   go_simp
   first
      | (go_at_call 113;refine (gR t _).mono ?_;rintro e w2 ⟨rfl,k2⟩;rw [d0])
      | (go_at_call 114;refine (oC t _).mono ?_;rintro e w3 ⟨rfl,k3⟩;rw [d1])
      | (go_at_call 115;refine (oF t _).mono ?_;rintro e w4 ⟨rfl,k4⟩;rw [HN.out])
   try go_wp2_with fail
   refine hK.out _ _ ?_ fun hHeld => ?_
   ·exact aa.trans (by assumption) (by assumption)
   clear hK K
   try simp only [au]
   refine ad.go [7,8,9,11] ?_
   iterate 4 (refine aM (h := ?_);try simp only [au])
   refine ad.nil ?_
   refine aR 10 (h:=fun K hK => ?_)
   go_simp
   first
      | (go_at_call 113;refine (gR t _).mono ?_;rintro e w2 ⟨rfl,k2⟩;rw [d0])
      | (go_at_call 114;refine (oC t _).mono ?_;rintro e w3 ⟨rfl,k3⟩;rw [d1])
      | (go_at_call 115;refine (oF t _).mono ?_;rintro e w4 ⟨rfl,k4⟩;rw [HN.out])
   try go_wp2_with fail
   refine hK.out _ _ ?_ fun hHeld => ?_
   ·exact aa.trans (by assumption) (by assumption)
   clear hK K
   try simp only [au]
   refine ad.go [12,13,14] ?_
   iterate 3 (refine aM (h := ?_);try simp only [au])
   refine ad.nil ?_
   refine wpAnyH_done (by kernel_rfl) ?_ _
   go_wp2
   go_ret
   exact ⟨by rw [Hr.out];rw [HN.out];rfl,kW.trans (by assumption)⟩
set_option maxHeartbeats 2000000 in
theorem GP (t:ar) (w:World) (c1:(t.cls==1)=false) (c2:(t.cls==2)=true) :
  Calls Tryz.prog 74 #[tk t] w fun e w'=>e = .returned (.bool (eN t&&hJ t&&fK t.cE t)) /\ aa w w':=by
 obtain ⟨N,HN⟩:∃ N,Hid (t.cE=N):=⟨_,rfl⟩
 go_enter Tryz.func74,Tryz.ntmps74
 go_wp2_with fail
 refine (GD t _).mono ?_
 rintro e w1 ⟨rfl,k1⟩
 have B1:=(aq.new w (tc t) 43).keeps k1
 have K1:aa w w1:=((aa.refl w).alloc _).trans k1
 clear k1
 go_wp2_with fail
 have kW:aa w (w1.alloc (.cells (fY t) 171)):=K1.alloc _
 have r1:∀ w',aa (w1.alloc (.cells (fY t) 171)) w'->∀ k,w'.cell? ⟨w.heap.size,k,none⟩=(tc t)[k]?:=fun w' h=>((B1.alloc _).keeps h).cells
 have r2:=dA w1 (fY t) 171
 have K0:=aa.refl (w1.alloc (.cells (fY t) 171))
 clear B1 K1
 generalize w1.alloc (.cells (fY t) 171)=W at *
 generalize w1.heap.size=s at *
 cases d0:eN t
 ·skip
  have Hr:Hid ((eN t&&hJ t&&fK t.cE t)=false):=by show _=_;simp [d0]
  refine wp_region_held_drew (S:=(fun w'=>aa W w')) (by kernel_rfl) ?_ (fun hHeld => ?_)
  ·exact K0.drew
  refine ad.go [0,1] ?_
  iterate 2 (refine aM (h := ?_);try simp only [au])
  refine ad.nil ?_
  refine aR 2 (h:=fun K hK => ?_)
  go_simp
  first
     | (go_at_call 113;refine (gR t _).mono ?_;rintro e w2 ⟨rfl,k2⟩;rw [d0])
     | (go_at_call 117;refine (oD t _).mono ?_;rintro e w3 ⟨rfl,k3⟩;rw [d1])
     | (go_at_call 118;refine (oG t _).mono ?_;rintro e w4 ⟨rfl,k4⟩;rw [HN.out])
  try go_wp2_with fail
  refine hK.out _ _ ?_ fun hHeld => ?_
  ·exact aa.trans (by assumption) (by assumption)
  clear hK K
  try simp only [au]
  refine di 3 (h := ?_)
  try simp only [au]
  refine ad.go [4,5,6] ?_
  iterate 3 (refine dK (h := ?_);try simp only [au])
  refine ad.nil ?_
  refine ad.go [7,8] ?_
  iterate 2 (refine aM (h := ?_);try simp only [au])
  refine ad.nil ?_
  refine ad.go [9,10,11,12] ?_
  iterate 4 (refine dK (h := ?_);try simp only [au])
  refine ad.nil ?_
  refine ad.go [13,14] ?_
  iterate 2 (refine aM (h := ?_);try simp only [au])
  refine ad.nil ?_
  refine wpAnyH_done (by kernel_rfl) ?_ _
  go_wp2
  go_ret
  exact ⟨by rw [Hr.out];rfl,kW.trans (by assumption)⟩
 ·cases d1:hJ t
  ·skip
   have Hr:Hid ((eN t&&hJ t&&fK t.cE t)=false):=by show _=_;simp [d1]
   refine wp_region_held_drew (S:=(fun w'=>aa W w')) (by kernel_rfl) ?_ (fun hHeld => ?_)
   ·exact K0.drew
   refine ad.go [0,1] ?_
   iterate 2 (refine aM (h := ?_);try simp only [au])
   refine ad.nil ?_
   refine aR 2 (h:=fun K hK => ?_)
   go_simp
   first
      | (go_at_call 113;refine (gR t _).mono ?_;rintro e w2 ⟨rfl,k2⟩;rw [d0])
      | (go_at_call 117;refine (oD t _).mono ?_;rintro e w3 ⟨rfl,k3⟩;rw [d1])
      | (go_at_call 118;refine (oG t _).mono ?_;rintro e w4 ⟨rfl,k4⟩;rw [HN.out])
   try go_wp2_with fail
   refine hK.out _ _ ?_ fun hHeld => ?_
   ·exact aa.trans (by assumption) (by assumption)
   clear hK K
   try simp only [au]
   refine ad.go [3,4,5] ?_
   iterate 3 (refine aM (h := ?_);try simp only [au])
   refine ad.nil ?_
   refine aR 6 (h:=fun K hK => ?_)
   go_simp
   first
      | (go_at_call 113;refine (gR t _).mono ?_;rintro e w2 ⟨rfl,k2⟩;rw [d0])
      | (go_at_call 117;refine (oD t _).mono ?_;rintro e w3 ⟨rfl,k3⟩;rw [d1])
      | (go_at_call 118;refine (oG t _).mono ?_;rintro e w4 ⟨rfl,k4⟩;rw [HN.out])
   try go_wp2_with fail
   refine hK.out _ _ ?_ fun hHeld => ?_
   ·exact aa.trans (by assumption) (by assumption)
   clear hK K
   try simp only [au]
   refine ad.go [7,8] ?_
   iterate 2 (refine aM (h := ?_);try simp only [au])
   refine ad.nil ?_
   refine ad.go [9,10,11,12] ?_
   iterate 4 (refine dK (h := ?_);try simp only [au])
   refine ad.nil ?_
   refine ad.go [13,14] ?_
   iterate 2 (refine aM (h := ?_);try simp only [au])
   refine ad.nil ?_
   refine wpAnyH_done (by kernel_rfl) ?_ _
   go_wp2
   go_ret
   exact ⟨by rw [Hr.out];rfl,kW.trans (by assumption)⟩
  ·skip
   have Hr:Hid ((eN t&&hJ t&&fK t.cE t)=fK t.cE t):=by show _=_;simp [d0,d1]
   refine wp_region_held_drew (S:=(fun w'=>aa W w')) (by kernel_rfl) ?_ (fun hHeld => ?_)
   ·exact K0.drew
   refine ad.go [0,1] ?_
   iterate 2 (refine aM (h := ?_);try simp only [au])
   refine ad.nil ?_
   refine aR 2 (h:=fun K hK => ?_)
   go_simp
   first
      | (go_at_call 113;refine (gR t _).mono ?_;rintro e w2 ⟨rfl,k2⟩;rw [d0])
      | (go_at_call 117;refine (oD t _).mono ?_;rintro e w3 ⟨rfl,k3⟩;rw [d1])
      | (go_at_call 118;refine (oG t _).mono ?_;rintro e w4 ⟨rfl,k4⟩;rw [HN.out])
   try go_wp2_with fail
   refine hK.out _ _ ?_ fun hHeld => ?_
   ·exact aa.trans (by assumption) (by assumption)
   clear hK K
   try simp only [au]
   refine ad.go [3,4,5] ?_
   iterate 3 (refine aM (h := ?_);try simp only [au])
   refine ad.nil ?_
   refine aR 6 (h:=fun K hK => ?_)
   go_simp
   first
      | (go_at_call 113;refine (gR t _).mono ?_;rintro e w2 ⟨rfl,k2⟩;rw [d0])
      | (go_at_call 117;refine (oD t _).mono ?_;rintro e w3 ⟨rfl,k3⟩;rw [d1])
      | (go_at_call 118;refine (oG t _).mono ?_;rintro e w4 ⟨rfl,k4⟩;rw [HN.out])
   try go_wp2_with fail
   refine hK.out _ _ ?_ fun hHeld => ?_
   ·exact aa.trans (by assumption) (by assumption)
   clear hK K
   try simp only [au]
   refine ad.go [7,8,9,11] ?_
   iterate 4 (refine aM (h := ?_);try simp only [au])
   refine ad.nil ?_
   refine aR 10 (h:=fun K hK => ?_)
   go_simp
   first
      | (go_at_call 113;refine (gR t _).mono ?_;rintro e w2 ⟨rfl,k2⟩;rw [d0])
      | (go_at_call 117;refine (oD t _).mono ?_;rintro e w3 ⟨rfl,k3⟩;rw [d1])
      | (go_at_call 118;refine (oG t _).mono ?_;rintro e w4 ⟨rfl,k4⟩;rw [HN.out])
   try go_wp2_with fail
   refine hK.out _ _ ?_ fun hHeld => ?_
   ·exact aa.trans (by assumption) (by assumption)
   clear hK K
   try simp only [au]
   refine ad.go [12,13,14] ?_
   iterate 3 (refine aM (h := ?_);try simp only [au])
   refine ad.nil ?_
   refine wpAnyH_done (by kernel_rfl) ?_ _
   go_wp2
   go_ret
   exact ⟨by rw [Hr.out];rw [HN.out];rfl,kW.trans (by assumption)⟩
set_option maxHeartbeats 2000000 in
theorem GQ (t:ar) (w:World) (c1:(t.cls==1)=false) (c2:(t.cls==2)=false) (c3:(t.cls==3)=true) :
  Calls Tryz.prog 74 #[tk t] w fun e w'=>e = .returned (.bool (eN t&&jH t&&fK t.bZ t)) /\ aa w w':=by
 obtain ⟨N,HN⟩:∃ N,Hid (t.bZ=N):=⟨_,rfl⟩
 go_enter Tryz.func74,Tryz.ntmps74
 go_wp2_with fail
 refine (GG t _).mono ?_
 rintro e w1 ⟨rfl,k1⟩
 have B1:=(aq.new w (tc t) 43).keeps k1
 have K1:aa w w1:=((aa.refl w).alloc _).trans k1
 clear k1
 go_wp2_with fail
 have kW:aa w (w1.alloc (.cells (fZ t) 176)):=K1.alloc _
 have r1:∀ w',aa (w1.alloc (.cells (fZ t) 176)) w'->∀ k,w'.cell? ⟨w.heap.size,k,none⟩=(tc t)[k]?:=fun w' h=>((B1.alloc _).keeps h).cells
 have r2:=dA w1 (fZ t) 176
 have K0:=aa.refl (w1.alloc (.cells (fZ t) 176))
 clear B1 K1
 generalize w1.alloc (.cells (fZ t) 176)=W at *
 generalize w1.heap.size=s at *
 cases d0:eN t
 ·skip
  have Hr:Hid ((eN t&&jH t&&fK t.bZ t)=false):=by show _=_;simp [d0]
  refine wp_region_held_drew (S:=(fun w'=>aa W w')) (by kernel_rfl) ?_ (fun hHeld => ?_)
  ·exact K0.drew
  refine ad.go [0,1] ?_
  iterate 2 (refine aM (h := ?_);try simp only [au])
  refine ad.nil ?_
  refine aR 2 (h:=fun K hK => ?_)
  go_simp
  first
     | (go_at_call 113;refine (gR t _).mono ?_;rintro e w2 ⟨rfl,k2⟩;rw [d0])
     | (go_at_call 120;refine (oE t _).mono ?_;rintro e w3 ⟨rfl,k3⟩;rw [d1])
     | (go_at_call 121;refine (oH t _).mono ?_;rintro e w4 ⟨rfl,k4⟩;rw [HN.out])
  try go_wp2_with fail
  refine hK.out _ _ ?_ fun hHeld => ?_
  ·exact aa.trans (by assumption) (by assumption)
  clear hK K
  try simp only [au]
  refine di 3 (h := ?_)
  try simp only [au]
  refine ad.go [4,5,6] ?_
  iterate 3 (refine dK (h := ?_);try simp only [au])
  refine ad.nil ?_
  refine ad.go [7,8] ?_
  iterate 2 (refine aM (h := ?_);try simp only [au])
  refine ad.nil ?_
  refine ad.go [9,10,11,12] ?_
  iterate 4 (refine dK (h := ?_);try simp only [au])
  refine ad.nil ?_
  refine ad.go [13,14] ?_
  iterate 2 (refine aM (h := ?_);try simp only [au])
  refine ad.nil ?_
  refine wpAnyH_done (by kernel_rfl) ?_ _
  go_wp2
  go_ret
  exact ⟨by rw [Hr.out];rfl,kW.trans (by assumption)⟩
 ·cases d1:jH t
  ·skip
   have Hr:Hid ((eN t&&jH t&&fK t.bZ t)=false):=by show _=_;simp [d1]
   refine wp_region_held_drew (S:=(fun w'=>aa W w')) (by kernel_rfl) ?_ (fun hHeld => ?_)
   ·exact K0.drew
   refine ad.go [0,1] ?_
   iterate 2 (refine aM (h := ?_);try simp only [au])
   refine ad.nil ?_
   refine aR 2 (h:=fun K hK => ?_)
   go_simp
   first
      | (go_at_call 113;refine (gR t _).mono ?_;rintro e w2 ⟨rfl,k2⟩;rw [d0])
      | (go_at_call 120;refine (oE t _).mono ?_;rintro e w3 ⟨rfl,k3⟩;rw [d1])
      | (go_at_call 121;refine (oH t _).mono ?_;rintro e w4 ⟨rfl,k4⟩;rw [HN.out])
   try go_wp2_with fail
   refine hK.out _ _ ?_ fun hHeld => ?_
   ·exact aa.trans (by assumption) (by assumption)
   clear hK K
   try simp only [au]
   refine ad.go [3,4,5] ?_
   iterate 3 (refine aM (h := ?_);try simp only [au])
   refine ad.nil ?_
   refine aR 6 (h:=fun K hK => ?_)
   go_simp
   first
      | (go_at_call 113;refine (gR t _).mono ?_;rintro e w2 ⟨rfl,k2⟩;rw [d0])
      | (go_at_call 120;refine (oE t _).mono ?_;rintro e w3 ⟨rfl,k3⟩;rw [d1])
      | (go_at_call 121;refine (oH t _).mono ?_;rintro e w4 ⟨rfl,k4⟩;rw [HN.out])
   try go_wp2_with fail
   refine hK.out _ _ ?_ fun hHeld => ?_
   ·exact aa.trans (by assumption) (by assumption)
   clear hK K
   try simp only [au]
   refine ad.go [7,8] ?_
   iterate 2 (refine aM (h := ?_);try simp only [au])
   refine ad.nil ?_
   refine ad.go [9,10,11,12] ?_
   iterate 4 (refine dK (h := ?_);try simp only [au])
   refine ad.nil ?_
   refine ad.go [13,14] ?_
   iterate 2 (refine aM (h := ?_);try simp only [au])
   refine ad.nil ?_
   refine wpAnyH_done (by kernel_rfl) ?_ _
   go_wp2
   go_ret
   exact ⟨by rw [Hr.out];rfl,kW.trans (by assumption)⟩
  ·skip
   have Hr:Hid ((eN t&&jH t&&fK t.bZ t)=fK t.bZ t):=by show _=_;simp [d0,d1]
   refine wp_region_held_drew (S:=(fun w'=>aa W w')) (by kernel_rfl) ?_ (fun hHeld => ?_)
   ·exact K0.drew
   refine ad.go [0,1] ?_
   iterate 2 (refine aM (h := ?_);try simp only [au])
   refine ad.nil ?_
   refine aR 2 (h:=fun K hK => ?_)
   go_simp
   first
      | (go_at_call 113;refine (gR t _).mono ?_;rintro e w2 ⟨rfl,k2⟩;rw [d0])
      | (go_at_call 120;refine (oE t _).mono ?_;rintro e w3 ⟨rfl,k3⟩;rw [d1])
      | (go_at_call 121;refine (oH t _).mono ?_;rintro e w4 ⟨rfl,k4⟩;rw [HN.out])
   try go_wp2_with fail
   refine hK.out _ _ ?_ fun hHeld => ?_
   ·exact aa.trans (by assumption) (by assumption)
   clear hK K
   try simp only [au]
   refine ad.go [3,4,5] ?_
   iterate 3 (refine aM (h := ?_);try simp only [au])
   refine ad.nil ?_
   refine aR 6 (h:=fun K hK => ?_)
   go_simp
   first
      | (go_at_call 113;refine (gR t _).mono ?_;rintro e w2 ⟨rfl,k2⟩;rw [d0])
      | (go_at_call 120;refine (oE t _).mono ?_;rintro e w3 ⟨rfl,k3⟩;rw [d1])
      | (go_at_call 121;refine (oH t _).mono ?_;rintro e w4 ⟨rfl,k4⟩;rw [HN.out])
   try go_wp2_with fail
   refine hK.out _ _ ?_ fun hHeld => ?_
   ·exact aa.trans (by assumption) (by assumption)
   clear hK K
   try simp only [au]
   refine ad.go [7,8,9,11] ?_
   iterate 4 (refine aM (h := ?_);try simp only [au])
   refine ad.nil ?_
   refine aR 10 (h:=fun K hK => ?_)
   go_simp
   first
      | (go_at_call 113;refine (gR t _).mono ?_;rintro e w2 ⟨rfl,k2⟩;rw [d0])
      | (go_at_call 120;refine (oE t _).mono ?_;rintro e w3 ⟨rfl,k3⟩;rw [d1])
      | (go_at_call 121;refine (oH t _).mono ?_;rintro e w4 ⟨rfl,k4⟩;rw [HN.out])
   try go_wp2_with fail
   refine hK.out _ _ ?_ fun hHeld => ?_
   ·exact aa.trans (by assumption) (by assumption)
   clear hK K
   try simp only [au]
   refine ad.go [12,13,14] ?_
   iterate 3 (refine aM (h := ?_);try simp only [au])
   refine ad.nil ?_
   refine wpAnyH_done (by kernel_rfl) ?_ _
   go_wp2
   go_ret
   exact ⟨by rw [Hr.out];rw [HN.out];rfl,kW.trans (by assumption)⟩
theorem p5:Eg:=by
 intro t w
 cases c1:(t.cls==1)
 ·cases c2:(t.cls==2)
  ·cases c3:(t.cls==3)
   ·have Hr:Hid (bN t=false):=GL t c1 c2 c3
    go_enter Tryz.func74,Tryz.ntmps74
    go_wp2
    go_ret
    exact ⟨by rw [Hr.out];rfl,(aa.refl _).alloc _⟩
   ·rw [GK t c3];exact GQ t w c1 c2 c3
  ·rw [GJ t c2];exact GP t w c1 c2
 ·rw [GI t c1];exact GM t w c1
end
end Go.Proofs.YteagpjlgjfaclaaGreatDoor
