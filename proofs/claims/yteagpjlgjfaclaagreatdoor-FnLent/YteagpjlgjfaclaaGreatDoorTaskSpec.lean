/-
  What a task is: contracts of the model's functions over one
  Fixed priorities, as plain functions, and what holds of the
  Locks: freeing leaves right ones; what asking comes to.
  Deadlines, as plain functions: what a task that wakes, is r
  What is a nice: the contract of the program's NiceOk.
  Weights and steps: the program's.
  A struct is written over a block, cell by cell.
  Rows of elements of one size that lie one behind the other;
  Nothing old has turned, and a block holds its cells.
  All but one block is as it was.
-/
import Derived.Test.YteagpjlgjfaclaaGreatDoorTaskBase
import Derived.Test.YteagpjlgjfaclaaGreatDoorLate
import Derived.Deep.DeepCutAuto
import Derived.Deep.OwnRows
namespace Go.Proofs.YteagpjlgjfaclaaGreatDoor
open Go.RowKit
def eg (t:ag):Bool:=t.q==0&&t.p==0&&t.due==0
def eB (t:ag):Bool:=t.prio==0&&t.round==0&&t.seq==0
def iX (t:ag):Bool:=t.nice==0&&t.v==0
def ie (t:ag):Bool:=if t.cls==1 then eB t&&iX t else if t.cls==2 then eg t&&iX t else eg t&&eB t&&t.left==0
def gN (t:ag):Bool:=if t.cls==1 then okB t.q t.p&&aF t.left 0 t.q&&aF t.due 0 100040 else if t.cls==2 then aF t.prio 1 20&&aF t.round 0 10&&aF t.left (min t.round 1) t.round&&aF t.seq 0 1000000 else aF t.nice (-4) 4&&aF t.v 0 100000000
def aY (t:ag):Bool:=aF t.no 1 1000&&aF t.cls 1 3&&aF t.cpu 0 3&&aF t.st 1 2&&ie t&&gN t
set_option maxHeartbeats 2000000 in
theorem lH (t:ag) (w:World) :
  Calls Tryz.prog 108 #[tk t] w fun e w'=>e = .returned (.bool (ie t)) /\ w'=w.alloc (.cells (tc t) 43):=by
 go_enter Tryz.func108,Tryz.ntmps108
 go_upto_region 1 with fail
 go_cut [3] (fun c wx=>c = .bool (eg t) /\ wx=w.alloc (.cells (tc t) 43))
 case first =>
  cases b0:(t.q==0)
  ·have Hr:Hid (eg t=false):=by show _=_;simp [eg,b0]
   go_wp2
   go_meet
   exact ⟨by rw [Hr.out],rfl⟩
  cases b1:(t.p==0)
  ·have Hr:Hid (eg t=false):=by show _=_;simp [eg,b0,b1]
   go_wp2
   go_meet
   exact ⟨by rw [Hr.out],rfl⟩
  have Hr:Hid (eg t=(t.due==0)):=by show _=_;simp [eg,b0,b1]
  go_wp2
  go_meet
  exact ⟨by rw [Hr.out],rfl⟩
 case rest =>
 obtain ⟨rfl,rfl⟩:=hcut
 go_upto_region 2 with fail
 go_cut [4] (fun c wx=>c = .bool (eB t) /\ wx=w.alloc (.cells (tc t) 43))
 case first =>
  cases b0:(t.prio==0)
  ·have Hr:Hid (eB t=false):=by show _=_;simp [eB,b0]
   go_wp2
   go_meet
   exact ⟨by rw [Hr.out],rfl⟩
  cases b1:(t.round==0)
  ·have Hr:Hid (eB t=false):=by show _=_;simp [eB,b0,b1]
   go_wp2
   go_meet
   exact ⟨by rw [Hr.out],rfl⟩
  have Hr:Hid (eB t=(t.seq==0)):=by show _=_;simp [eB,b0,b1]
  go_wp2
  go_meet
  exact ⟨by rw [Hr.out],rfl⟩
 case rest =>
 obtain ⟨rfl,rfl⟩:=hcut
 go_upto_region 3 with fail
 go_cut [5] (fun c wx=>c = .bool (iX t) /\ wx=w.alloc (.cells (tc t) 43))
 case first =>
  cases b0:(t.nice==0)
  ·have Hr:Hid (iX t=false):=by show _=_;simp [iX,b0]
   go_wp2
   go_meet
   exact ⟨by rw [Hr.out],rfl⟩
  have Hr:Hid (iX t=(t.v==0)):=by show _=_;simp [iX,b0]
  go_wp2
  go_meet
  exact ⟨by rw [Hr.out],rfl⟩
 case rest =>
 obtain ⟨rfl,rfl⟩:=hcut
 cases c1:(t.cls==1)
 ·cases c2:(t.cls==2)
  ·have Hr:Hid (ie t=(eg t&&eB t&&t.left==0)):=by show _=_;simp [ie,c1,c2]
   generalize eg t=d at *
   generalize eB t=f at *
   cases d
   ·go_wp2;go_ret;exact ⟨by rw [Hr.out];rfl,rfl⟩
   ·cases f <;> (go_wp2;go_ret;exact ⟨by rw [Hr.out];rfl,rfl⟩)
  ·have Hr:Hid (ie t=(eg t&&iX t)):=by show _=_;simp [ie,c1,c2]
   generalize eg t=d at *
   cases d <;> (go_wp2;go_ret;exact ⟨by rw [Hr.out];rfl,rfl⟩)
 ·have Hr:Hid (ie t=(eB t&&iX t)):=by show _=_;simp [ie,c1]
  generalize eB t=f at *
  cases f <;> (go_wp2;go_ret;exact ⟨by rw [Hr.out];rfl,rfl⟩)
theorem gG (a b:Int) (w:World) :
  Calls Tryz.prog 109 #[.int .i64 a,.int .i64 b] w fun e w'=>e = .returned (.int .i64 (min a b)) /\ w'=w:=by
 by_cases h0:a < b
 ·have Hr:Hid (min a b=a):=by show _=_;omega
  go_enter Tryz.func109,Tryz.ntmps109
  go_wp2
  go_ret
  exact ⟨by rw [Hr.out];rfl,rfl⟩
 ·have Hr:Hid (min a b=b):=by show _=_;omega
  go_enter Tryz.func109,Tryz.ntmps109
  go_wp2
  go_ret
  exact ⟨by rw [Hr.out];rfl,rfl⟩
set_option maxHeartbeats 4000000 in
theorem OP (t:ag) (w:World) (b1:aF t.no 1 1000=true) (b2:aF t.cls 1 3=true) (b3:aF t.cpu 0 3=true) (b4:aF t.st 1 2=true) (b5:ie t=true) (c1:(t.cls==1)=false) (c2:(t.cls==2)=true) :
  Calls Tryz.prog 69 #[tk t] w fun e w'=>e = .returned (.bool (aF t.prio 1 20&&aF t.round 0 10&&aF t.left (min t.round 1) t.round&&aF t.seq 0 1000000)) /\ aa w w':=by
 go_enter Tryz.func69,Tryz.ntmps69
 go_wp2_with (first
   | (go_at_call 27;refine (bn _ _ _ _).mono ?_;rintro e w' ⟨rfl,rfl⟩)
   | (go_at_call 108;refine (lH _ _).mono ?_;rintro e w' ⟨rfl,rfl⟩))
 have kW:aa w ((w.alloc (.cells (tc t) 43)).alloc (.cells (tc t) 43)):=((aa.refl _).alloc _).alloc _
 have r7:=aa.has (W:=((w.alloc (.cells (tc t) 43)).alloc (.cells (tc t) 43))) (b:=w.heap.size) (o:=7) (v := .int .i64 t.left) (by simp [go_sem])
 have r9:=aa.has (W:=((w.alloc (.cells (tc t) 43)).alloc (.cells (tc t) 43))) (b:=w.heap.size) (o:=9) (v := .int .i64 t.prio) (by simp [go_sem])
 have Qb:=aa.has (W:=((w.alloc (.cells (tc t) 43)).alloc (.cells (tc t) 43))) (b:=w.heap.size) (o:=10) (v := .int .i64 t.round) (by simp [go_sem])
 have Qc:=aa.has (W:=((w.alloc (.cells (tc t) 43)).alloc (.cells (tc t) 43))) (b:=w.heap.size) (o:=11) (v := .int .i64 t.seq) (by simp [go_sem])
 generalize ((w.alloc (.cells (tc t) 43)).alloc (.cells (tc t) 43))=W at *
 have K0:aa W W:=aa.refl _
 cases d0:aF t.prio 1 20
 ·skip
  have Hr:Hid ((aF t.prio 1 20&&aF t.round 0 10&&aF t.left (min t.round 1) t.round&&aF t.seq 0 1000000)=(false)):=by show _=_;simp [d0]
  refine wp_region_held_drew (S:=(fun w'=>aa W w')) (by kernel_rfl) ?_ (fun hHeld => ?_)
  ·exact K0.drew
  refine ad.go [0,1] ?_
  iterate 2 (refine aJ (h := ?_);try simp only [ar])
  refine ad.nil ?_
  refine aO 2 (h:=fun K hK => ?_)
  go_simp
  first
    | (go_at_call 27;refine (bn _ _ _ _).mono ?_;rintro e w' ⟨rfl,rfl⟩)
    | (go_at_call 109;refine (gG _ _ _).mono ?_;rintro e w' ⟨rfl,rfl⟩)
  try go_wp2_with fail
  refine hK.out _ _ ?_ fun hHeld => ?_
  ·assumption
  clear hK K
  try simp only [ar]
  refine cU 3 (h := ?_)
  try simp only [ar]
  refine ad.go [4,5,6] ?_
  iterate 3 (refine dB (h := ?_);try simp only [ar])
  refine ad.nil ?_
  refine ad.go [7,8] ?_
  iterate 2 (refine aJ (h := ?_);try simp only [ar])
  refine ad.nil ?_
  refine ad.go [9,10,11,12,13,14,15,16] ?_
  iterate 8 (refine dB (h := ?_);try simp only [ar])
  refine ad.nil ?_
  refine ad.go [17,18] ?_
  iterate 2 (refine aJ (h := ?_);try simp only [ar])
  refine ad.nil ?_
  refine ad.go [19,20,21] ?_
  iterate 3 (refine dB (h := ?_);try simp only [ar])
  refine ad.nil ?_
  refine ad.go [22,23] ?_
  iterate 2 (refine aJ (h := ?_);try simp only [ar])
  refine ad.nil ?_
  refine wpAnyH_done (by kernel_rfl) ?_ _
  go_wp2
  go_ret
  exact ⟨by rw [Hr.out];rfl,kW.trans (by assumption)⟩
 ·skip
  cases d1:aF t.round 0 10
  ·skip
   have Hr:Hid ((aF t.prio 1 20&&aF t.round 0 10&&aF t.left (min t.round 1) t.round&&aF t.seq 0 1000000)=(false)):=by show _=_;simp [d0,d1]
   refine wp_region_held_drew (S:=(fun w'=>aa W w')) (by kernel_rfl) ?_ (fun hHeld => ?_)
   ·exact K0.drew
   refine ad.go [0,1] ?_
   iterate 2 (refine aJ (h := ?_);try simp only [ar])
   refine ad.nil ?_
   refine aO 2 (h:=fun K hK => ?_)
   go_simp
   first
    | (go_at_call 27;refine (bn _ _ _ _).mono ?_;rintro e w' ⟨rfl,rfl⟩)
    | (go_at_call 109;refine (gG _ _ _).mono ?_;rintro e w' ⟨rfl,rfl⟩)
   try go_wp2_with fail
   refine hK.out _ _ ?_ fun hHeld => ?_
   ·assumption
   clear hK K
   try simp only [ar]
   refine ad.go [3,4,5] ?_
   iterate 3 (refine aJ (h := ?_);try simp only [ar])
   refine ad.nil ?_
   refine aO 6 (h:=fun K hK => ?_)
   go_simp
   first
    | (go_at_call 27;refine (bn _ _ _ _).mono ?_;rintro e w' ⟨rfl,rfl⟩)
    | (go_at_call 109;refine (gG _ _ _).mono ?_;rintro e w' ⟨rfl,rfl⟩)
   try go_wp2_with fail
   refine hK.out _ _ ?_ fun hHeld => ?_
   ·assumption
   clear hK K
   try simp only [ar]
   refine ad.go [7,8] ?_
   iterate 2 (refine aJ (h := ?_);try simp only [ar])
   refine ad.nil ?_
   refine ad.go [9,10,11,12,13,14,15,16] ?_
   iterate 8 (refine dB (h := ?_);try simp only [ar])
   refine ad.nil ?_
   refine ad.go [17,18] ?_
   iterate 2 (refine aJ (h := ?_);try simp only [ar])
   refine ad.nil ?_
   refine ad.go [19,20,21] ?_
   iterate 3 (refine dB (h := ?_);try simp only [ar])
   refine ad.nil ?_
   refine ad.go [22,23] ?_
   iterate 2 (refine aJ (h := ?_);try simp only [ar])
   refine ad.nil ?_
   refine wpAnyH_done (by kernel_rfl) ?_ _
   go_wp2
   go_ret
   exact ⟨by rw [Hr.out];rfl,kW.trans (by assumption)⟩
  ·skip
   cases d2:aF t.left (min t.round 1) t.round
   ·skip
    have Hr:Hid ((aF t.prio 1 20&&aF t.round 0 10&&aF t.left (min t.round 1) t.round&&aF t.seq 0 1000000)=(false)):=by show _=_;simp [d0,d1,d2]
    refine wp_region_held_drew (S:=(fun w'=>aa W w')) (by kernel_rfl) ?_ (fun hHeld => ?_)
    ·exact K0.drew
    refine ad.go [0,1] ?_
    iterate 2 (refine aJ (h := ?_);try simp only [ar])
    refine ad.nil ?_
    refine aO 2 (h:=fun K hK => ?_)
    go_simp
    first
    | (go_at_call 27;refine (bn _ _ _ _).mono ?_;rintro e w' ⟨rfl,rfl⟩)
    | (go_at_call 109;refine (gG _ _ _).mono ?_;rintro e w' ⟨rfl,rfl⟩)
    try go_wp2_with fail
    refine hK.out _ _ ?_ fun hHeld => ?_
    ·assumption
    clear hK K
    try simp only [ar]
    refine ad.go [3,4,5] ?_
    iterate 3 (refine aJ (h := ?_);try simp only [ar])
    refine ad.nil ?_
    refine aO 6 (h:=fun K hK => ?_)
    go_simp
    first
    | (go_at_call 27;refine (bn _ _ _ _).mono ?_;rintro e w' ⟨rfl,rfl⟩)
    | (go_at_call 109;refine (gG _ _ _).mono ?_;rintro e w' ⟨rfl,rfl⟩)
    try go_wp2_with fail
    refine hK.out _ _ ?_ fun hHeld => ?_
    ·assumption
    clear hK K
    try simp only [ar]
    refine ad.go [7,8,9,10,11,12,14,15] ?_
    iterate 8 (refine aJ (h := ?_);try simp only [ar])
    refine ad.nil ?_
    refine aO 13 (h:=fun K hK => ?_)
    go_simp
    first
    | (go_at_call 27;refine (bn _ _ _ _).mono ?_;rintro e w' ⟨rfl,rfl⟩)
    | (go_at_call 109;refine (gG _ _ _).mono ?_;rintro e w' ⟨rfl,rfl⟩)
    try go_wp2_with fail
    refine hK.out _ _ ?_ fun hHeld => ?_
    ·assumption
    clear hK K
    try simp only [ar]
    refine aO 16 (h:=fun K hK => ?_)
    go_simp
    first
    | (go_at_call 27;refine (bn _ _ _ _).mono ?_;rintro e w' ⟨rfl,rfl⟩)
    | (go_at_call 109;refine (gG _ _ _).mono ?_;rintro e w' ⟨rfl,rfl⟩)
    try go_wp2_with fail
    refine hK.out _ _ ?_ fun hHeld => ?_
    ·assumption
    clear hK K
    try simp only [ar]
    refine ad.go [17,18] ?_
    iterate 2 (refine aJ (h := ?_);try simp only [ar])
    refine ad.nil ?_
    refine ad.go [19,20,21] ?_
    iterate 3 (refine dB (h := ?_);try simp only [ar])
    refine ad.nil ?_
    refine ad.go [22,23] ?_
    iterate 2 (refine aJ (h := ?_);try simp only [ar])
    refine ad.nil ?_
    refine wpAnyH_done (by kernel_rfl) ?_ _
    go_wp2
    go_ret
    exact ⟨by rw [Hr.out];rfl,kW.trans (by assumption)⟩
   ·skip
    have Hr:Hid ((aF t.prio 1 20&&aF t.round 0 10&&aF t.left (min t.round 1) t.round&&aF t.seq 0 1000000)=(aF t.seq 0 1000000)):=by show _=_;simp [d0,d1,d2]
    refine wp_region_held_drew (S:=(fun w'=>aa W w')) (by kernel_rfl) ?_ (fun hHeld => ?_)
    ·exact K0.drew
    refine ad.go [0,1] ?_
    iterate 2 (refine aJ (h := ?_);try simp only [ar])
    refine ad.nil ?_
    refine aO 2 (h:=fun K hK => ?_)
    go_simp
    first
    | (go_at_call 27;refine (bn _ _ _ _).mono ?_;rintro e w' ⟨rfl,rfl⟩)
    | (go_at_call 109;refine (gG _ _ _).mono ?_;rintro e w' ⟨rfl,rfl⟩)
    try go_wp2_with fail
    refine hK.out _ _ ?_ fun hHeld => ?_
    ·assumption
    clear hK K
    try simp only [ar]
    refine ad.go [3,4,5] ?_
    iterate 3 (refine aJ (h := ?_);try simp only [ar])
    refine ad.nil ?_
    refine aO 6 (h:=fun K hK => ?_)
    go_simp
    first
    | (go_at_call 27;refine (bn _ _ _ _).mono ?_;rintro e w' ⟨rfl,rfl⟩)
    | (go_at_call 109;refine (gG _ _ _).mono ?_;rintro e w' ⟨rfl,rfl⟩)
    try go_wp2_with fail
    refine hK.out _ _ ?_ fun hHeld => ?_
    ·assumption
    clear hK K
    try simp only [ar]
    refine ad.go [7,8,9,10,11,12,14,15] ?_
    iterate 8 (refine aJ (h := ?_);try simp only [ar])
    refine ad.nil ?_
    refine aO 13 (h:=fun K hK => ?_)
    go_simp
    first
    | (go_at_call 27;refine (bn _ _ _ _).mono ?_;rintro e w' ⟨rfl,rfl⟩)
    | (go_at_call 109;refine (gG _ _ _).mono ?_;rintro e w' ⟨rfl,rfl⟩)
    try go_wp2_with fail
    refine hK.out _ _ ?_ fun hHeld => ?_
    ·assumption
    clear hK K
    try simp only [ar]
    refine aO 16 (h:=fun K hK => ?_)
    go_simp
    first
    | (go_at_call 27;refine (bn _ _ _ _).mono ?_;rintro e w' ⟨rfl,rfl⟩)
    | (go_at_call 109;refine (gG _ _ _).mono ?_;rintro e w' ⟨rfl,rfl⟩)
    try go_wp2_with fail
    refine hK.out _ _ ?_ fun hHeld => ?_
    ·assumption
    clear hK K
    try simp only [ar]
    refine ad.go [17,18,19,20] ?_
    iterate 4 (refine aJ (h := ?_);try simp only [ar])
    refine ad.nil ?_
    refine aO 21 (h:=fun K hK => ?_)
    go_simp
    first
    | (go_at_call 27;refine (bn _ _ _ _).mono ?_;rintro e w' ⟨rfl,rfl⟩)
    | (go_at_call 109;refine (gG _ _ _).mono ?_;rintro e w' ⟨rfl,rfl⟩)
    try go_wp2_with fail
    refine hK.out _ _ ?_ fun hHeld => ?_
    ·assumption
    clear hK K
    try simp only [ar]
    refine ad.go [22,23] ?_
    iterate 2 (refine aJ (h := ?_);try simp only [ar])
    refine ad.nil ?_
    refine wpAnyH_done (by kernel_rfl) ?_ _
    go_wp2
    go_ret
    exact ⟨by rw [Hr.out];rfl,kW.trans (by assumption)⟩
set_option maxHeartbeats 4000000 in
theorem lW (t:ag) (w:World) :
  Calls Tryz.prog 69 #[tk t] w fun e w'=>e = .returned (.bool (aY t)) /\ aa w w':=by
 cases b1:aF t.no 1 1000
 ·have Hr:Hid (aY t=(false)):=by show _=_;simp [aY,gN,b1]
  go_enter Tryz.func69,Tryz.ntmps69
  go_wp2_with (first
    | (go_at_call 27;refine (bn _ _ _ _).mono ?_;rintro e w' ⟨rfl,rfl⟩)
    | (go_at_call 109;refine (gG _ _ _).mono ?_;rintro e w' ⟨rfl,rfl⟩)
    | (go_at_call 88;refine (jd _ _).mono ?_;rintro e w' ⟨rfl,rfl⟩)
    | (go_at_call 72;refine (j7 _ _ _).mono ?_;rintro e w' ⟨rfl,rfl⟩)
    | (go_at_call 108;refine (lH _ _).mono ?_;rintro e w' ⟨rfl,rfl⟩))
  go_ret
  exact ⟨by rw [Hr.out];rfl,by repeat (first | exact aa.refl _ | refine aa.alloc ?_ _ | refine aa.drewN ?_ _)⟩
 ·skip
  cases b2:aF t.cls 1 3
  ·have Hr:Hid (aY t=(false)):=by show _=_;simp [aY,gN,b1,b2]
   go_enter Tryz.func69,Tryz.ntmps69
   go_wp2_with (first
     | (go_at_call 27;refine (bn _ _ _ _).mono ?_;rintro e w' ⟨rfl,rfl⟩)
     | (go_at_call 109;refine (gG _ _ _).mono ?_;rintro e w' ⟨rfl,rfl⟩)
     | (go_at_call 88;refine (jd _ _).mono ?_;rintro e w' ⟨rfl,rfl⟩)
     | (go_at_call 72;refine (j7 _ _ _).mono ?_;rintro e w' ⟨rfl,rfl⟩)
     | (go_at_call 108;refine (lH _ _).mono ?_;rintro e w' ⟨rfl,rfl⟩))
   go_ret
   exact ⟨by rw [Hr.out];rfl,by repeat (first | exact aa.refl _ | refine aa.alloc ?_ _ | refine aa.drewN ?_ _)⟩
  ·skip
   cases b3:aF t.cpu 0 3
   ·have Hr:Hid (aY t=(false)):=by show _=_;simp [aY,gN,b1,b2,b3]
    go_enter Tryz.func69,Tryz.ntmps69
    go_wp2_with (first
      | (go_at_call 27;refine (bn _ _ _ _).mono ?_;rintro e w' ⟨rfl,rfl⟩)
      | (go_at_call 109;refine (gG _ _ _).mono ?_;rintro e w' ⟨rfl,rfl⟩)
      | (go_at_call 88;refine (jd _ _).mono ?_;rintro e w' ⟨rfl,rfl⟩)
      | (go_at_call 72;refine (j7 _ _ _).mono ?_;rintro e w' ⟨rfl,rfl⟩)
      | (go_at_call 108;refine (lH _ _).mono ?_;rintro e w' ⟨rfl,rfl⟩))
    go_ret
    exact ⟨by rw [Hr.out];rfl,by repeat (first | exact aa.refl _ | refine aa.alloc ?_ _ | refine aa.drewN ?_ _)⟩
   ·skip
    cases b4:aF t.st 1 2
    ·have Hr:Hid (aY t=(false)):=by show _=_;simp [aY,gN,b1,b2,b3,b4]
     go_enter Tryz.func69,Tryz.ntmps69
     go_wp2_with (first
       | (go_at_call 27;refine (bn _ _ _ _).mono ?_;rintro e w' ⟨rfl,rfl⟩)
       | (go_at_call 109;refine (gG _ _ _).mono ?_;rintro e w' ⟨rfl,rfl⟩)
       | (go_at_call 88;refine (jd _ _).mono ?_;rintro e w' ⟨rfl,rfl⟩)
       | (go_at_call 72;refine (j7 _ _ _).mono ?_;rintro e w' ⟨rfl,rfl⟩)
       | (go_at_call 108;refine (lH _ _).mono ?_;rintro e w' ⟨rfl,rfl⟩))
     go_ret
     exact ⟨by rw [Hr.out];rfl,by repeat (first | exact aa.refl _ | refine aa.alloc ?_ _ | refine aa.drewN ?_ _)⟩
    ·skip
     cases b5:ie t
     ·have Hr:Hid (aY t=(false)):=by show _=_;simp [aY,gN,b1,b2,b3,b4,b5]
      go_enter Tryz.func69,Tryz.ntmps69
      go_wp2_with (first
        | (go_at_call 27;refine (bn _ _ _ _).mono ?_;rintro e w' ⟨rfl,rfl⟩)
        | (go_at_call 109;refine (gG _ _ _).mono ?_;rintro e w' ⟨rfl,rfl⟩)
        | (go_at_call 88;refine (jd _ _).mono ?_;rintro e w' ⟨rfl,rfl⟩)
        | (go_at_call 72;refine (j7 _ _ _).mono ?_;rintro e w' ⟨rfl,rfl⟩)
        | (go_at_call 108;refine (lH _ _).mono ?_;rintro e w' ⟨rfl,rfl⟩))
      go_ret
      exact ⟨by rw [Hr.out];rfl,by repeat (first | exact aa.refl _ | refine aa.alloc ?_ _ | refine aa.drewN ?_ _)⟩
     ·skip
      cases c1:(t.cls==1)
      ·cases c2:(t.cls==2)
       ·skip
        cases d0:(aF t.nice (-4) 4)
        ·have Hr:Hid (aY t=(false)):=by show _=_;simp [aY,gN,b1,b2,b3,b4,b5,c1,c2,d0]
         go_enter Tryz.func69,Tryz.ntmps69
         go_wp2_with (first
           | (go_at_call 27;refine (bn _ _ _ _).mono ?_;rintro e w' ⟨rfl,rfl⟩)
           | (go_at_call 109;refine (gG _ _ _).mono ?_;rintro e w' ⟨rfl,rfl⟩)
           | (go_at_call 88;refine (jd _ _).mono ?_;rintro e w' ⟨rfl,rfl⟩)
           | (go_at_call 72;refine (j7 _ _ _).mono ?_;rintro e w' ⟨rfl,rfl⟩)
           | (go_at_call 108;refine (lH _ _).mono ?_;rintro e w' ⟨rfl,rfl⟩))
         go_ret
         exact ⟨by rw [Hr.out];rfl,by repeat (first | exact aa.refl _ | refine aa.alloc ?_ _ | refine aa.drewN ?_ _)⟩
        ·skip
         have Hr:Hid (aY t=(aF t.v 0 100000000)):=by show _=_;simp [aY,gN,b1,b2,b3,b4,b5,c1,c2,d0]
         go_enter Tryz.func69,Tryz.ntmps69
         go_wp2_with (first
           | (go_at_call 27;refine (bn _ _ _ _).mono ?_;rintro e w' ⟨rfl,rfl⟩)
           | (go_at_call 109;refine (gG _ _ _).mono ?_;rintro e w' ⟨rfl,rfl⟩)
           | (go_at_call 88;refine (jd _ _).mono ?_;rintro e w' ⟨rfl,rfl⟩)
           | (go_at_call 72;refine (j7 _ _ _).mono ?_;rintro e w' ⟨rfl,rfl⟩)
           | (go_at_call 108;refine (lH _ _).mono ?_;rintro e w' ⟨rfl,rfl⟩))
         go_ret
         exact ⟨by rw [Hr.out];rfl,by repeat (first | exact aa.refl _ | refine aa.alloc ?_ _ | refine aa.drewN ?_ _)⟩
       ·skip
        exact (OP t w b1 b2 b3 b4 b5 c1 c2).mono (by rintro e w' ⟨rfl,hk⟩;exact ⟨by simp [aY,gN,b1,b2,b3,b4,b5,c1,c2],hk⟩)
      ·skip
       cases d0:(okB t.q t.p)
       ·have Hr:Hid (aY t=(false)):=by show _=_;simp [aY,gN,b1,b2,b3,b4,b5,c1,d0]
        go_enter Tryz.func69,Tryz.ntmps69
        go_wp2_with (first
          | (go_at_call 27;refine (bn _ _ _ _).mono ?_;rintro e w' ⟨rfl,rfl⟩)
          | (go_at_call 109;refine (gG _ _ _).mono ?_;rintro e w' ⟨rfl,rfl⟩)
          | (go_at_call 88;refine (jd _ _).mono ?_;rintro e w' ⟨rfl,rfl⟩)
          | (go_at_call 72;refine (j7 _ _ _).mono ?_;rintro e w' ⟨rfl,rfl⟩)
          | (go_at_call 108;refine (lH _ _).mono ?_;rintro e w' ⟨rfl,rfl⟩))
        go_ret
        exact ⟨by rw [Hr.out];rfl,by repeat (first | exact aa.refl _ | refine aa.alloc ?_ _ | refine aa.drewN ?_ _)⟩
       ·skip
        cases d1:(aF t.left 0 t.q)
        ·have Hr:Hid (aY t=(false)):=by show _=_;simp [aY,gN,b1,b2,b3,b4,b5,c1,d0,d1]
         go_enter Tryz.func69,Tryz.ntmps69
         go_wp2_with (first
           | (go_at_call 27;refine (bn _ _ _ _).mono ?_;rintro e w' ⟨rfl,rfl⟩)
           | (go_at_call 109;refine (gG _ _ _).mono ?_;rintro e w' ⟨rfl,rfl⟩)
           | (go_at_call 88;refine (jd _ _).mono ?_;rintro e w' ⟨rfl,rfl⟩)
           | (go_at_call 72;refine (j7 _ _ _).mono ?_;rintro e w' ⟨rfl,rfl⟩)
           | (go_at_call 108;refine (lH _ _).mono ?_;rintro e w' ⟨rfl,rfl⟩))
         go_ret
         exact ⟨by rw [Hr.out];rfl,by repeat (first | exact aa.refl _ | refine aa.alloc ?_ _ | refine aa.drewN ?_ _)⟩
        ·skip
         have Hr:Hid (aY t=(aF t.due 0 100040)):=by show _=_;simp [aY,gN,b1,b2,b3,b4,b5,c1,d0,d1]
         go_enter Tryz.func69,Tryz.ntmps69
         go_wp2_with (first
           | (go_at_call 27;refine (bn _ _ _ _).mono ?_;rintro e w' ⟨rfl,rfl⟩)
           | (go_at_call 109;refine (gG _ _ _).mono ?_;rintro e w' ⟨rfl,rfl⟩)
           | (go_at_call 88;refine (jd _ _).mono ?_;rintro e w' ⟨rfl,rfl⟩)
           | (go_at_call 72;refine (j7 _ _ _).mono ?_;rintro e w' ⟨rfl,rfl⟩)
           | (go_at_call 108;refine (lH _ _).mono ?_;rintro e w' ⟨rfl,rfl⟩))
         go_ret
         exact ⟨by rw [Hr.out];rfl,by repeat (first | exact aa.refl _ | refine aa.alloc ?_ _ | refine aa.drewN ?_ _)⟩
def dD (t:ag):Bool:=aY t&&t.cls==2
def fE (a b:ag):Bool:=dD a&&dD b&&(if a.prio != b.prio then decide (b.prio < a.prio) else if a.seq != b.seq then decide (a.seq < b.seq) else decide (a.no < b.no))
def j4 (t:ag) (seq:Int):Bool:=dD t && !(t.round==0) && !decide (1 < t.left)&&aF seq 0 1000000
def j3 (t:ag) (seq:Int):ag:=if dD t && !(t.round==0) then (if decide (1 < t.left) then { t with left:=t.left - 1 } else if aF seq 0 1000000 then { t with left:=t.round,seq:=seq } else t) else t
structure sF (t:ag):Prop where
 cls:t.cls=2
 no:1 <= t.no /\ t.no <= 1000
 cpu:0 <= t.cpu /\ t.cpu <= 3
 st:1 <= t.st /\ t.st <= 2
 prio:1 <= t.prio /\ t.prio <= 20
 round:0 <= t.round /\ t.round <= 10
 left:min t.round 1 <= t.left /\ t.left <= t.round
 seq:0 <= t.seq /\ t.seq <= 1000000
 none:t.q=0 /\ t.p=0 /\ t.due=0 /\ t.nice=0 /\ t.v=0
theorem vc (t:ag):dD t=true↔sF t:=by
 constructor
 ·intro h
  simp only [dD,Bool.and_eq_true,beq_iff_eq] at h
  obtain ⟨h1,h2⟩:=h
  simp [aY,ie,gN,h2,eg,iX,dq] at h1
  obtain ⟨⟨⟨⟨hno,gi⟩,hst⟩,hz⟩,⟨⟨hp,hr⟩,hl⟩,hs⟩:=h1
  exact ⟨h2,by omega,by omega,by omega,by omega,by omega,by omega,by omega,by omega,by omega,by omega,by omega,by omega⟩
 ·rintro ⟨h2,hno,gi,hst,hp,hr,hl,hs,h0,h1,h3,h4,h5⟩
  simp [dD,aY,ie,gN,h2,eg,iX,dq,h0,h1,h3,h4,h5]
  omega
def Qd (t:ag) (seq i:Int):ag:=if i < t.left then { t with left:=t.left - i } else { t with left:=t.round - (i - t.left),seq:=seq }
theorem yf {xs:List Int} {x y:Int}:hasB (eK xs y) x=(hasB xs x&&x != y):=by
 apply Bool.eq_iff_iff.2
 rw [il,Bool.and_eq_true,il]
 unfold eK
 rw [List.mem_filter]
theorem OR {xs:List Int} {x y:Int} (h:x≠y):eV (eK xs y) x=eV xs x:=by
 unfold eV eK
 rw [List.filter_filter]
 congr 1
 apply List.filter_congr
 intro z _
 by_cases e:z=x
 ·subst e;simp [h]
 ·simp [e]
section free
variable {ls:List Lk} {j:Nat} {l:Lk} {next:Int}
theorem ue (R:Right ls) (hl:ls[j]?=some l) (hx:hasB l.waits next=true):(∀ x,x≠next->dj (ls.set j ⟨next,eK l.waits next⟩) x=dj ls x) /\ dj (ls.set j ⟨next,eK l.waits next⟩) next=none:=by
 refine ⟨fun x hne=>wi (by simp) fun i m m' hm hm' => ?_,tR fun i m hm => ?_⟩
 ·rcases iZ hm' with ⟨rfl,rfl⟩ | ⟨_,h⟩
  ·rw [hl] at hm;cases hm
   simp only [yf]
   have:(x != next)=true:=by simpa using hne
   rw [this,Bool.and_true]
  ·rw [hm] at h;cases h;rfl
 ·rcases iZ hm with ⟨rfl,rfl⟩ | ⟨hij,h⟩
  ·simp only [yf];simp
  ·exact Aw (R.once j l next hl hx) hl hx h hij
theorem Ev (R:Right ls) (hl:ls[j]?=some l) (hx:hasB l.waits next=true):∀ {c:List Int} {x:Int},Ends ls x c->∃ c',Ends (ls.set j ⟨next,eK l.waits next⟩) x c'
 | [],_,h=>by rcases h.cases with ⟨_,e⟩ | ⟨_,_,_,e,_⟩ <;> cases e
 | y::r,x,h=>by
  by_cases hn:x=next
  ·rw [hn];exact ⟨_,Ends.stop (ue R hl hx).2⟩
  ·have hw:=(ue R hl hx).1 x hn
   rcases h.cases with ⟨h1,_⟩ | ⟨i,r',h1,e,hr⟩
   ·exact ⟨_,Ends.stop (hw.trans h1)⟩
   ·by_cases hij:i=j
    ·subst hij
     refine ⟨_,Ends.step (hw.trans h1) (r:=[next]) ?_⟩
     rw [BI (nF hl)]
     exact Ends.stop (ue R hl hx).2
    ·cases e
     obtain ⟨c',hc'⟩:=Ev R hl hx hr
     refine ⟨_,Ends.step (hw.trans h1) (r:=c') ?_⟩
     rw [wj hij];exact hc'
theorem Right.freed (R:Right ls) (hl:ls[j]?=some l) (hx:hasB l.waits next=true):Right (ls.set j ⟨next,eK l.waits next⟩):=by
 have hno:=R.no j l next hl hx
 have iQ:∀ x,x≠next->ez (ls.set j ⟨next,eK l.waits next⟩) x=ez ls x:=fun x hne=>by
  have:=p8 (⟨next,eK l.waits next⟩:Lk) x hl
  simp only [OR hne] at this
  omega
 have back:∀ (i:Nat) (m:Lk) (x:Int),(ls.set j ⟨next,eK l.waits next⟩)[i]?=some m->hasB m.waits x=true->x≠next /\ ∃ (k:Nat) (m0:Lk),ls[k]?=some m0 /\ hasB m0.waits x=true:=by
  intro i m x hm hxm
  have hne:x≠next:=fun e=>by
   have:=rX (ue R hl hx).2 i m hm
   rw [e,this] at hxm;cases hxm
  refine ⟨hne,?_⟩
  rcases iZ hm with ⟨rfl,rfl⟩ | ⟨_,h⟩
  ·simp only [yf,Bool.and_eq_true] at hxm
   exact ⟨i,l,hl,hxm.1⟩
  ·exact ⟨i,m,h,hxm⟩
 refine ⟨by simpa using R.len,?_,?_,?_,?_,?_⟩
 ·intro i m hm
  rcases iZ hm with ⟨rfl,rfl⟩ | ⟨_,h⟩
  ·exact ⟨by simp only;omega,hno.2⟩
  ·exact R.owner i m h
 ·intro i m hm e
  rcases iZ hm with ⟨rfl,rfl⟩ | ⟨_,h⟩
  ·simp only at e;omega
  ·exact R.free i m h e
 ·intro i m x hm hxm
  obtain ⟨_,k,m0,h1,h2⟩:=back i m x hm hxm
  exact R.no k m0 x h1 h2
 ·intro i m x hm hxm
  obtain ⟨hne,k,m0,h1,h2⟩:=back i m x hm hxm
  rw [iQ x hne];exact R.once k m0 x h1 h2
 ·intro i m x hm hxm
  obtain ⟨_,k,m0,h1,h2⟩:=back i m x hm hxm
  obtain ⟨c,hc⟩:=R.ends k m0 x h1 h2
  exact Ev R hl hx hc
end free
theorem OW {ls:List Lk} {no:Int} (h:decide (0 <= d8 ls no)=false):dj ls no=none:=by
 unfold d8 at h
 split at h
 ·simp at h
 ·assumption
def OY (ls:List Lk) (i no:Int):Prop :=
 ((cl ls i no=2∨cl ls i no=3) /\ bX ls i no=ls) ∨
 (∃ (j:Nat) (l:Lk),i=(j:Int) /\ ls[j]?=some l /\ l.owner=0 /\ (1 <= no /\ no <= 1000) /\ dj ls no=none /\ cl ls i no=0 /\ bX ls i no=ls.set j ⟨no,[]⟩) ∨
 (∃ (j:Nat) (l:Lk),i=(j:Int) /\ ls[j]?=some l /\ hasB (fG ls l.owner) no=true /\ cl ls i no=4 /\ bX ls i no=ls) ∨
 ∃ (j:Nat) (l:Lk),i=(j:Int) /\ ls[j]?=some l /\ l.owner≠0 /\ l.owner≠no /\ (1 <= no /\ no <= 1000) /\ dj ls no=none /\ hasB (fG ls l.owner) no=false /\ cl ls i no=1 /\ bX ls i no=ls.set j { l with waits:=l.waits++[no] }
theorem O9 {ls:List Lk} (R:Right ls) (i no:Int):OY ls i no:=by
 have hb:=lK.2 R
 have key:∀ n,cl ls i no=n->(n≠0 /\ n≠1->bX ls i no=ls) /\ (n=0->bX ls i no=ls.modify i.toNat (p7 no)) /\ (n=1->bX ls i no=ls.modify i.toNat (tQ no)):=by
  rintro n rfl
  refine ⟨fun h => ?_,fun h => ?_,fun h => ?_⟩
  ·unfold bX;rw [hb];simp [h.1,h.2]
  ·unfold bX;rw [hb];simp [h]
  ·unfold bX;rw [hb];simp [h]
 by_cases c:(!aF i 0 ((ls.length:Int) - 1)||(!aF no 1 1000||decide (0 <= d8 ls no)))=true
 ·have e:cl ls i no=2:=by unfold cl;rw [hb,c];rfl
  exact .inl ⟨.inl e,(key 2 e).1 (by decide)⟩
 ·rw [Bool.not_eq_true,Bool.or_eq_false_iff,Bool.or_eq_false_iff] at c
  obtain ⟨c1,c2,c3⟩:=c
  have c1':=c1
  have c2':=c2
  rw [Bool.not_eq_false'] at c1' c2'
  obtain ⟨h0,h1⟩:=dq.1 c1'
  obtain ⟨j,rfl⟩:∃ j:Nat,i=(j:Int):=⟨i.toNat,by omega⟩
  have hj:j < ls.length:=by omega
  have hl:ls[j]?=some ls[j]:=List.getElem?_eq_getElem hj
  have hno:=dq.1 c2'
  have hn:=OW c3
  have go:cl ls (j:Int) no=if ls[j].owner==no then 3 else if ls[j].owner==0 then 0 else if hasB (fG ls ls[j].owner) no then 4 else 1:=by
   unfold cl
   rw [hb,c1,c2,c3,Int.toNat_natCast,gO hl]
   rfl
  cases c4:(ls[j].owner==no)
  ·cases c5:(ls[j].owner==0)
   ·cases c6:hasB (fG ls ls[j].owner) no
    ·have e:cl ls (j:Int) no=1:=by rw [go,c4,c5,c6];rfl
     have e2:=(key 1 e).2.2 rfl
     rw [Int.toNat_natCast,BF hl] at e2
     exact .inr (.inr (.inr ⟨j,ls[j],rfl,hl,by simpa using c5,by simpa using c4,hno,hn,c6,e,e2⟩))
    ·have e:cl ls (j:Int) no=4:=by rw [go,c4,c5,c6];rfl
     exact .inr (.inr (.inl ⟨j,ls[j],rfl,hl,c6,e,(key 4 e).1 (by decide)⟩))
   ·have e:cl ls (j:Int) no=0:=by rw [go,c4,c5];rfl
    have e2:=(key 0 e).2.1 rfl
    have ho:ls[j].owner=0:=by simpa using c5
    rw [Int.toNat_natCast,BF hl] at e2
    have:p7 no ls[j]=⟨no,[]⟩:=by unfold p7;rw [R.free j _ hl ho]
    rw [this] at e2
    exact .inr (.inl ⟨j,ls[j],rfl,hl,ho,hno,hn,e,e2⟩)
  ·have e:cl ls (j:Int) no=3:=by rw [go,c4];rfl
   exact .inl ⟨.inr e,(key 3 e).1 (by decide)⟩
theorem No {ls:List Lk} (R:Right ls) (i no:Int):Right (bX ls i no) /\ (bX ls i no).length=ls.length:=by
 rcases O9 R i no with ⟨_,e⟩ | ⟨j,l,hi,hl,h0,hno,hn,_,e⟩ | ⟨_,_,_,_,_,_,e⟩ | ⟨j,l,hi,hl,h0,h1,hno,hn,hc,_,e⟩
 ·rw [e];exact ⟨R,rfl⟩
 ·rw [e];exact ⟨R.owned hl (R.free j l hl h0) ⟨by omega,hno.2⟩,by simp⟩
 ·rw [e];exact ⟨R,rfl⟩
 ·rw [e]
  obtain ⟨d,hd⟩:=R.chain l.owner
  rw [LX R hd] at hc
  exact ⟨(R.waited hl h0 hno hn hd (we.1 hc)).1,by simp⟩
theorem Nn {n:Nat} (h:n <= 5):Right (List.replicate n (⟨0,[]⟩:Lk)):=by
 have key:∀ (j:Nat) (l:Lk),(List.replicate n (⟨0,[]⟩:Lk))[j]?=some l->l=⟨0,[]⟩:=fun j l hl=>List.eq_of_mem_replicate (List.mem_of_getElem? hl)
 refine ⟨by simpa using h,?_,?_,?_,?_,?_⟩
 ·intro j l hl;rw [key j l hl];simp
 ·intro j l hl _;rw [key j l hl]
 ·intro j l x hl hx;rw [key j l hl] at hx;simp [hasB] at hx
 ·intro j l x hl hx;rw [key j l hl] at hx;simp [hasB] at hx
 ·intro j l x hl hx;rw [key j l hl] at hx;simp [hasB] at hx
def dh (t:ag):Bool:=aY t&&t.cls==1
def t7 (t:ag) (now:Int):Bool:=decide (t.due <= now)||decide ((t.due - now)*t.q < t.left*t.p)
def qb (t:ag) (now:Int):Bool:=dh t&&aF now 0 100000&&t7 t now
def jE (t:ag) (now:Int):ag:=if qb t now then { t with left:=t.q,due:=now+t.p } else t
def se (t:ag) (now:Int):Bool:=dh t&&aF now 0 100000&&decide (t.due <= now)
def j5 (t:ag) (now:Int):ag:=if se t now then { t with left:=t.q,due:=t.due+t.p } else t
def tv (t:ag):Bool:=dh t&&decide (0 < t.left)
def lX (t:ag):ag:=if tv t then { t with left:=t.left - 1 } else t
def fQ (a b:ag):Bool:=dh a&&dh b&&(decide (a.due < b.due)||a.due==b.due&&decide (a.no < b.no))
structure sG (t:ag):Prop where
 cls:t.cls=1
 no:1 <= t.no /\ t.no <= 1000
 cpu:0 <= t.cpu /\ t.cpu <= 3
 st:1 <= t.st /\ t.st <= 2
 p:1 <= t.p /\ t.p <= 40
 q:1 <= t.q /\ t.q <= t.p
 left:0 <= t.left /\ t.left <= t.q
 due:0 <= t.due /\ t.due <= 100040
 none:t.prio=0 /\ t.round=0 /\ t.seq=0 /\ t.nice=0 /\ t.v=0
theorem vx (t:ag):dh t=true↔sG t:=by
 constructor
 ·intro h
  simp only [dh,Bool.and_eq_true,beq_iff_eq] at h
  obtain ⟨h1,h2⟩:=h
  simp [aY,ie,gN,h2,eB,iX,dq,lA] at h1
  obtain ⟨⟨⟨⟨hno,gi⟩,hst⟩,hz⟩,⟨⟨hp,hq⟩,hl⟩,hd⟩:=h1
  exact ⟨h2,by omega,by omega,by omega,by omega,by omega,by omega,by omega,by omega,by omega,by omega,by omega,by omega⟩
 ·rintro ⟨h2,hno,gi,hst,hp,hq,hl,hd,h0,h1,h3,h4,h5⟩
  simp [dh,aY,ie,gN,h2,eB,iX,dq,lA,h0,h1,h3,h4,h5]
  omega
theorem CK {a b A B:Int} (a0:0 <= a) (a1:a <= A) (b0:0 <= b) (b1:b <= B):0 <= a*b /\ a*b <= A*B :=
 ⟨Int.mul_nonneg a0 b0,Int.mul_le_mul a1 b1 b0 (by omega)⟩
theorem AT (x:Int) (w:World) :
  Calls Tryz.prog 159 #[.int .i64 x] w fun e w'=>e = .returned (.bool (aF x (-4) 4)) /\ w'=w:=by
 by_cases h1 : -4 <= x
 ·by_cases h2:x <= 4
  ·have Hr:Hid (aF x (-4) 4=true):=tM h1 h2
   go_enter Tryz.func159,Tryz.ntmps159
   go_wp2
   go_ret
   exact ⟨by rw [Hr.out];rfl,rfl⟩
  ·have Hr:Hid (aF x (-4) 4=false):=oO (.inr (by omega))
   have hd:decide (x <= 4)=false:=by simpa using h2
   go_enter Tryz.func159,Tryz.ntmps159
   go_wp2
   go_ret
   exact ⟨by rw [Hr.out];rfl,rfl⟩
 ·have Hr:Hid (aF x (-4) 4=false):=oO (.inl (by omega))
  have hd:decide (-4 <= x)=false:=by simpa using h1
  go_enter Tryz.func159,Tryz.ntmps159
  go_wp2
  go_ret
  exact ⟨by rw [Hr.out];rfl,rfl⟩
def putC (w:World) (b k:Nat):List Value->World
 | []=>w
 | v::r=>putC (w.setCell ⟨b,k,none⟩ v) b (k+1) r
def cJ (C:Array Value) (k:Nat):List Value->Array Value
 | []=>C
 | v::r=>cJ (C.setIfInBounds k v) (k+1) r
theorem wK:∀ (L:List Value) (C:Array Value) (k i:Nat),k+L.length <= C.size->(cJ C k L)[i]?=if k <= i /\ i < k+L.length then L[i - k]? else C[i]?
 | [],C,k,i,_=>by rw [if_neg (by simp)];rfl
 | v::r,C,k,i,h=>by
  simp only [List.length_cons] at h
  rw [cJ,wK r _ _ _ (by simp;omega)]
  by_cases h1:k+1 <= i /\ i < k+1+r.length
  ·rw [if_pos h1,if_pos (by simp only [List.length_cons];omega)]
   obtain ⟨j,hj⟩:∃ j,i - k=j+1:=⟨i - k - 1,by omega⟩
   rw [hj,List.getElem?_cons_succ]
   congr 1
   omega
  ·rw [if_neg h1]
   by_cases e:k=i
   ·subst e
    rw [if_pos (by simp only [List.length_cons];omega),Array.getElem?_setIfInBounds_self_of_lt (by omega)]
    simp
   ·rw [if_neg (by simp only [List.length_cons];omega),Array.getElem?_setIfInBounds_ne e]
theorem rk {L:List Value} {C:Array Value} (h:L.length=C.size):cJ C 0 L=L.toArray:=by
 apply Array.ext_getElem?
 intro i
 rw [wK _ _ _ _ (by omega)]
 by_cases hi:i < L.length
 ·rw [if_pos (by omega)];simp
 ·rw [if_neg (by omega),Array.getElem?_eq_none (by omega),Array.getElem?_eq_none (by simp;omega)]
theorem ai.cg {b:Nat}:∀ (L:List Value) {C:Array Value} {w:World} (k:Nat),ai w b C->k+L.length <= C.size->ai (putC w b k L) b (cJ C k L)
 | [],_,_,_,h,_=>h
 | v::r,C,w,k,h,hk=>by
  simp only [List.length_cons] at hk
  exact ai.cg r (k+1) (h.set k (by omega) v) (by simp;omega)
theorem ai.putC {w:World} {b:Nat} {C:Array Value} (h:ai w b C) (L:List Value) (hl:L.length=C.size):ai (putC w b 0 L) b L.toArray:=by
 rw [<- rk hl]
 exact ai.cg L 0 h (by omega)
theorem ai.aU {b c:Nat} {C:Array Value} (hc:c≠b):∀ (L:List Value) {w:World} (k:Nat),ai w b C->ai (Go.Proofs.YteagpjlgjfaclaaGreatDoor.putC w c k L) b C
 | [],_,_,h=>h
 | v::r,_,k,h=>ai.aU hc r (k+1) (h.far hc v)
theorem aa.putC {a:World} {b:Nat} (hp:a.heap.size <= b):∀ (L:List Value) {w:World} (k:Nat),aa a w->aa a (Go.Proofs.YteagpjlgjfaclaaGreatDoor.putC w b k L)
 | [],_,_,h=>h
 | v::r,_,k,h=>aa.putC hp r (k+1) (h.setCell hp v)
def cH {α:Type} (sz:Nat) (c:α->Array Value) (w:World) (a:Option Addr) (xs:List α):Prop :=
 xs=[]∨∃ b off,a=some ⟨b,off,none⟩ /\ b < w.heap.size /\ ∀ i x,xs[i]?=some x->∀ k,k < sz->w.cell? ⟨b,off+i*sz+k,none⟩=(c x)[k]?
theorem cH.keeps {α:Type} {sz:Nat} {c:α->Array Value} {w w':World} {a:Option Addr} {xs:List α} (h:cH sz c w a xs) (k:aa w w'):cH sz c w' a xs:=by
 rcases h with h | ⟨b,off,rfl,hb,h⟩
 ·exact .inl h
 ·exact .inr ⟨b,off,rfl,Nat.lt_of_lt_of_le hb k.size,fun i x hx j hj=>(k.cells _ _ hb).trans (h i x hx j hj)⟩
theorem cH.at {α:Type} {sz:Nat} {c:α->Array Value} {w:World} {a:Option Addr} {xs:List α} (h:cH sz c w a xs) {i:Nat} {x:α} (hx:xs[i]?=some x) (h0:0 < sz) :
  ∃ b off,a=some ⟨b,off,none⟩ /\ (∀ w',aa w w'->w'.cell? ⟨b,off+i*sz,none⟩=(c x)[0]?) /\ ∀ w',aa w w'->∀ k,k < sz->w'.cell? ⟨b,off+i*sz+k,none⟩=(c x)[k]?:=by
 rcases h with rfl | ⟨b,off,rfl,hb,h⟩
 ·simp at hx
 ·exact ⟨b,off,rfl,fun w' k=>(k.cells _ _ hb).trans (h i x hx 0 h0),fun w' k j hj=>(k.cells _ _ hb).trans (h i x hx j hj)⟩
theorem cH.nil {α:Type} (sz:Nat) (c:α->Array Value) (w:World) (a:Option Addr):cH sz c w a [] := .inl rfl
theorem tA {P:Program} (t e:TypeId) (z:Value) (size bytes:Nat) (ht:P.underlying t=some (.slice e)) (hinfo:(P.info? e).map (fun i=>(i.zero,i.size,i.bytes))=some (some z,size,bytes))
  (n:Nat) (hbytes:bytes*n <= 281474976710656) (h63:n <= 9223372036854775807) :
  ∃ C:Array Value,C.size=n*size /\ ∀ w:World,(Instr.makeSlice t (.int .i64 (n:Int)) (.int .i64 (n:Int))).run P w = .ok (.slice (some ⟨w.heap.size,0,none⟩) n n) (w.alloc (.cells C e)):=by
 obtain ⟨i,hi,hzz⟩:=Option.map_eq_some_iff.1 hinfo
 simp only [Prod.mk.injEq] at hzz
 obtain ⟨hz,hs,hb⟩:=hzz
 refine ⟨madeCells z.cells (n*size),size_madeCells _ _,fun w => ?_⟩
 have hb':(i.bytes:Int)*(n:Int) <= 281474976710656:=by
  have h:((i.bytes*n:Nat):Int) <= 281474976710656:=by rw [hb];omega
  rwa [Int.natCast_mul] at h
 have hr:=run_make (P:=P) w t e i z ht hi hz .i64 .i64 n n (by omega) (Int.le_refl _) hb' (by omega)
 simp only [Int.toNat_natCast,hs] at hr
 exact hr
structure Has (w:World) (b:Nat) (C:Array Value) (w':World):Prop where
 keeps:aa w w'
 box:ai w' b C
theorem Has.go {w:World} {b:Nat} {C:Array Value} {w1 w2:World} (h:Has w b C w1) (k:aa w1 w2):Has w b C w2:=⟨h.keeps.trans k,h.box.keeps k⟩
theorem Has.set {w:World} {b:Nat} {C:Array Value} {w1:World} (h:Has w b C w1) {r:Nat} (hr:w.heap.size <= r) (hb:r≠b) (k:Nat) (v:Value):Has w b C (w1.setCell ⟨r,k,none⟩ v):=⟨h.keeps.setCell hr v,h.box.far hb v⟩
theorem Has.put {w:World} {b:Nat} {C:Array Value} {w1:World} (h:Has w b C w1) {r:Nat} (hr:w.heap.size <= r) (hb:r≠b) (k:Nat) (L:List Value):Has w b C (putC w1 r k L):=⟨aa.putC hr L k h.keeps,ai.aU hb L k h.box⟩
structure ab (g:Nat) (w w':World):Prop where
 os:w'.os=w.os
 tape:w'.tape=w.tape
 output:w'.output=w.output
 size:w.heap.size <= w'.heap.size
 block:∀ k,k < w.heap.size->k≠g->w'.heap[k]?=w.heap[k]?
theorem ab.of {g:Nat} {w w':World} (h:aa w w'):ab g w w':=⟨Below.os h,Below.tape h,Below.output h,Below.size h,fun k hk _=>Below.block h k hk⟩
theorem ab.refl (g:Nat) (w:World):ab g w w := .of (aa.refl w)
theorem ab.trans {g:Nat} {a b c:World} (h:ab g a b) (k:ab g b c):ab g a c :=
 ⟨k.os.trans h.os,k.tape.trans h.tape,k.output.trans h.output,Nat.le_trans h.size k.size,fun i hi hg=>(k.block i (Nat.lt_of_lt_of_le hi h.size) hg).trans (h.block i hi hg)⟩
theorem ab.alloc {g:Nat} {a b:World} (h:ab g a b) (o:Obj):ab g a (b.alloc o):=h.trans (.of ((aa.refl b).alloc o))
theorem ab.drew {g:Nat} {a b:World} (h:ab g a b):ab g a b.drew:=h.trans (.of (aa.refl b).drew)
theorem ab.drewN {g:Nat} {a b:World} (h:ab g a b) (n:Nat):ab g a (b.drewN n):=h.trans (.of ((aa.refl b).drewN n))
theorem ab.setCell {g:Nat} {a b:World} (h:ab g a b) (o:Nat) (v:Value):ab g a (b.setCell ⟨g,o,none⟩ v) :=
 h.trans ⟨rfl,rfl,rfl,by simp [World.setCell],fun k _ hg=>Below.heap_setCell _ _ _ _ hg⟩
theorem ab.aH {g:Nat} {a b:World} (h:ab g a b) {p:Addr} (hp:a.heap.size <= p.block) (v:Value):ab g a (b.setCell p v) :=
 ⟨h.os,h.tape,h.output,Nat.le_trans h.size (by simp [World.setCell]),fun k hk hg=>(Below.heap_setCell _ _ _ _ (by omega)).trans (h.block k hk hg)⟩
theorem ab.cells {g:Nat} {w w':World} (h:ab g w w'):∀ b o,b < w.heap.size->b≠g->w'.cell? ⟨b,o,none⟩=w.cell? ⟨b,o,none⟩ :=
 fun b _ hb hg=>World.cell?_of_block (w:=w) (h.block b hb hg)
theorem ab.has {g:Nat} {W:World} {b o:Nat} {v:Value} (hg:b≠g) (h:W.cell? ⟨b,o,none⟩=some v):∀ w',ab g W w'->w'.cell? ⟨b,o,none⟩=some v :=
 fun _ k=>(k.cells b o (World.block_lt_of_cell? W _ h) hg).trans h
theorem ab.keeps {g:Nat} {w0 w w':World} (h:ab g w w') (k:aa w0 w) (hg:w0.heap.size <= g):aa w0 w' :=
 Below.trans k ⟨h.os,h.tape,h.output,h.size,fun i hi=>h.block i (Nat.lt_of_lt_of_le hi k.size) (by omega)⟩
end Go.Proofs.YteagpjlgjfaclaaGreatDoor
