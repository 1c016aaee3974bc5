/-
  What a task is: contracts of the model's functions over one
-/
import Derived.Test.YteagpjlgjfaclaaGreatDoorTaskBase
import Derived.Test.YteagpjlgjfaclaaGreatDoorPlain1
import Derived.Deep.DeepCutAuto
namespace Go.Proofs.YteagpjlgjfaclaaGreatDoor
open Go.RowKit
def dP (t:ar):Bool:=t.q==0&&t.p==0&&t.due==0
def dW (t:ar):Bool:=t.prio==0&&t.round==0&&t.seq==0
def ig (t:ar):Bool:=t.nice==0&&t.v==0
def gD (t:ar):Bool:=if t.cls==1 then dW t&&ig t else if t.cls==2 then dP t&&ig t else dP t&&dW t&&t.left==0
def fX (t:ar):Bool:=if t.cls==1 then okB t.q t.p&&aH t.left 0 t.q&&aH t.due 0 100040 else if t.cls==2 then aH t.prio 1 20&&aH t.round 0 10&&aH t.left (min t.round 1) t.round&&aH t.seq 0 1000000 else aH t.nice (-4) 4&&aH t.v 0 100000000
def bN (t:ar):Bool:=aH t.no 1 1000&&aH t.cls 1 3&&aH t.cpu 0 3&&aH t.st 1 2&&gD t&&fX t
set_option maxHeartbeats 2000000 in
theorem km (t:ar) (w:World) :
  Calls Tryz.prog 108 #[tk t] w fun e w'=>e = .returned (.bool (gD t)) /\ w'=w.alloc (.cells (tc t) 43):=by
 go_enter Tryz.func108,Tryz.ntmps108
 go_upto_region 1 with fail
 go_cut [3] (fun c wx=>c = .bool (dP t) /\ wx=w.alloc (.cells (tc t) 43))
 case first =>
  cases b0:(t.q==0)
  ·have Hr:Hid (dP t=false):=by show _=_;simp [dP,b0]
   go_wp2
   go_meet
   exact ⟨by rw [Hr.out],rfl⟩
  cases b1:(t.p==0)
  ·have Hr:Hid (dP t=false):=by show _=_;simp [dP,b0,b1]
   go_wp2
   go_meet
   exact ⟨by rw [Hr.out],rfl⟩
  have Hr:Hid (dP t=(t.due==0)):=by show _=_;simp [dP,b0,b1]
  go_wp2
  go_meet
  exact ⟨by rw [Hr.out],rfl⟩
 case rest =>
 obtain ⟨rfl,rfl⟩:=hcut
 go_upto_region 2 with fail
 go_cut [4] (fun c wx=>c = .bool (dW t) /\ wx=w.alloc (.cells (tc t) 43))
 case first =>
  cases b0:(t.prio==0)
  ·have Hr:Hid (dW t=false):=by show _=_;simp [dW,b0]
   go_wp2
   go_meet
   exact ⟨by rw [Hr.out],rfl⟩
  cases b1:(t.round==0)
  ·have Hr:Hid (dW t=false):=by show _=_;simp [dW,b0,b1]
   go_wp2
   go_meet
   exact ⟨by rw [Hr.out],rfl⟩
  have Hr:Hid (dW t=(t.seq==0)):=by show _=_;simp [dW,b0,b1]
  go_wp2
  go_meet
  exact ⟨by rw [Hr.out],rfl⟩
 case rest =>
 obtain ⟨rfl,rfl⟩:=hcut
 go_upto_region 3 with fail
 go_cut [5] (fun c wx=>c = .bool (ig t) /\ wx=w.alloc (.cells (tc t) 43))
 case first =>
  cases b0:(t.nice==0)
  ·have Hr:Hid (ig t=false):=by show _=_;simp [ig,b0]
   go_wp2
   go_meet
   exact ⟨by rw [Hr.out],rfl⟩
  have Hr:Hid (ig t=(t.v==0)):=by show _=_;simp [ig,b0]
  go_wp2
  go_meet
  exact ⟨by rw [Hr.out],rfl⟩
 case rest =>
 obtain ⟨rfl,rfl⟩:=hcut
 cases c1:(t.cls==1)
 ·cases c2:(t.cls==2)
  ·have Hr:Hid (gD t=(dP t&&dW t&&t.left==0)):=by show _=_;simp [gD,c1,c2]
   generalize dP t=d at *
   generalize dW t=f at *
   cases d
   ·go_wp2;go_ret;exact ⟨by rw [Hr.out];rfl,rfl⟩
   ·cases f <;> (go_wp2;go_ret;exact ⟨by rw [Hr.out];rfl,rfl⟩)
  ·have Hr:Hid (gD t=(dP t&&ig t)):=by show _=_;simp [gD,c1,c2]
   generalize dP t=d at *
   cases d <;> (go_wp2;go_ret;exact ⟨by rw [Hr.out];rfl,rfl⟩)
 ·have Hr:Hid (gD t=(dW t&&ig t)):=by show _=_;simp [gD,c1]
  generalize dW t=f at *
  cases f <;> (go_wp2;go_ret;exact ⟨by rw [Hr.out];rfl,rfl⟩)
theorem fS (a b:Int) (w:World) :
  Calls Tryz.prog 109 #[.int .i64 a,.int .i64 b] w fun e w'=>e = .returned (.int .i64 (min a b)) /\ w'=w:=by
 by_cases h0:a < b
 ·have Hr:Hid (min a b=a):=by show _=_;omega
  go_enter Tryz.func109,Tryz.ntmps109
  go_wp2
  go_ret
  exact ⟨by rw [Hr.out];rfl,rfl⟩
 ·have Hr:Hid (min a b=b):=by show _=_;omega
  go_enter Tryz.func109,Tryz.ntmps109
  go_wp2
  go_ret
  exact ⟨by rw [Hr.out];rfl,rfl⟩
set_option maxHeartbeats 4000000 in
theorem JU (t:ar) (w:World) (b1:aH t.no 1 1000=true) (b2:aH t.cls 1 3=true) (b3:aH t.cpu 0 3=true) (b4:aH t.st 1 2=true) (b5:gD t=true) (c1:(t.cls==1)=false) (c2:(t.cls==2)=true) :
  Calls Tryz.prog 69 #[tk t] w fun e w'=>e = .returned (.bool (aH t.prio 1 20&&aH t.round 0 10&&aH t.left (min t.round 1) t.round&&aH t.seq 0 1000000)) /\ aa w w':=by
 go_enter Tryz.func69,Tryz.ntmps69
 go_wp2_with (first
   | (go_at_call 27;refine (bq _ _ _ _).mono ?_;rintro e w' ⟨rfl,rfl⟩)
   | (go_at_call 108;refine (km _ _).mono ?_;rintro e w' ⟨rfl,rfl⟩))
 have kW:aa w ((w.alloc (.cells (tc t) 43)).alloc (.cells (tc t) 43)):=((aa.refl _).alloc _).alloc _
 have r7:=aa.has (W:=((w.alloc (.cells (tc t) 43)).alloc (.cells (tc t) 43))) (b:=w.heap.size) (o:=7) (v := .int .i64 t.left) (by simp [go_sem])
 have r9:=aa.has (W:=((w.alloc (.cells (tc t) 43)).alloc (.cells (tc t) 43))) (b:=w.heap.size) (o:=9) (v := .int .i64 t.prio) (by simp [go_sem])
 have La:=aa.has (W:=((w.alloc (.cells (tc t) 43)).alloc (.cells (tc t) 43))) (b:=w.heap.size) (o:=10) (v := .int .i64 t.round) (by simp [go_sem])
 have Lb:=aa.has (W:=((w.alloc (.cells (tc t) 43)).alloc (.cells (tc t) 43))) (b:=w.heap.size) (o:=11) (v := .int .i64 t.seq) (by simp [go_sem])
 generalize ((w.alloc (.cells (tc t) 43)).alloc (.cells (tc t) 43))=W at *
 have K0:aa W W:=aa.refl _
 cases d0:aH t.prio 1 20
 ·skip
  have Hr:Hid ((aH t.prio 1 20&&aH t.round 0 10&&aH t.left (min t.round 1) t.round&&aH t.seq 0 1000000)=(false)):=by show _=_;simp [d0]
  refine wp_region_held_drew (S:=(fun w'=>aa W w')) (by kernel_rfl) ?_ (fun hHeld => ?_)
  ·exact K0.drew
  refine ad.go [0,1] ?_
  iterate 2 (refine aM (h := ?_);try simp only [au])
  refine ad.nil ?_
  refine aR 2 (h:=fun K hK => ?_)
  go_simp
  first
    | (go_at_call 27;refine (bq _ _ _ _).mono ?_;rintro e w' ⟨rfl,rfl⟩)
    | (go_at_call 109;refine (fS _ _ _).mono ?_;rintro e w' ⟨rfl,rfl⟩)
  try go_wp2_with fail
  refine hK.out _ _ ?_ fun hHeld => ?_
  ·assumption
  clear hK K
  try simp only [au]
  refine di 3 (h := ?_)
  try simp only [au]
  refine ad.go [4,5,6] ?_
  iterate 3 (refine dK (h := ?_);try simp only [au])
  refine ad.nil ?_
  refine ad.go [7,8] ?_
  iterate 2 (refine aM (h := ?_);try simp only [au])
  refine ad.nil ?_
  refine ad.go [9,10,11,12,13,14,15,16] ?_
  iterate 8 (refine dK (h := ?_);try simp only [au])
  refine ad.nil ?_
  refine ad.go [17,18] ?_
  iterate 2 (refine aM (h := ?_);try simp only [au])
  refine ad.nil ?_
  refine ad.go [19,20,21] ?_
  iterate 3 (refine dK (h := ?_);try simp only [au])
  refine ad.nil ?_
  refine ad.go [22,23] ?_
  iterate 2 (refine aM (h := ?_);try simp only [au])
  refine ad.nil ?_
  refine wpAnyH_done (by kernel_rfl) ?_ _
  go_wp2
  go_ret
  exact ⟨by rw [Hr.out];rfl,kW.trans (by assumption)⟩
 ·skip
  cases d1:aH t.round 0 10
  ·skip
   have Hr:Hid ((aH t.prio 1 20&&aH t.round 0 10&&aH t.left (min t.round 1) t.round&&aH t.seq 0 1000000)=(false)):=by show _=_;simp [d0,d1]
   refine wp_region_held_drew (S:=(fun w'=>aa W w')) (by kernel_rfl) ?_ (fun hHeld => ?_)
   ·exact K0.drew
   refine ad.go [0,1] ?_
   iterate 2 (refine aM (h := ?_);try simp only [au])
   refine ad.nil ?_
   refine aR 2 (h:=fun K hK => ?_)
   go_simp
   first
    | (go_at_call 27;refine (bq _ _ _ _).mono ?_;rintro e w' ⟨rfl,rfl⟩)
    | (go_at_call 109;refine (fS _ _ _).mono ?_;rintro e w' ⟨rfl,rfl⟩)
   try go_wp2_with fail
   refine hK.out _ _ ?_ fun hHeld => ?_
   ·assumption
   clear hK K
   try simp only [au]
   refine ad.go [3,4,5] ?_
   iterate 3 (refine aM (h := ?_);try simp only [au])
   refine ad.nil ?_
   refine aR 6 (h:=fun K hK => ?_)
   go_simp
   first
    | (go_at_call 27;refine (bq _ _ _ _).mono ?_;rintro e w' ⟨rfl,rfl⟩)
    | (go_at_call 109;refine (fS _ _ _).mono ?_;rintro e w' ⟨rfl,rfl⟩)
   try go_wp2_with fail
   refine hK.out _ _ ?_ fun hHeld => ?_
   ·assumption
   clear hK K
   try simp only [au]
   refine ad.go [7,8] ?_
   iterate 2 (refine aM (h := ?_);try simp only [au])
   refine ad.nil ?_
   refine ad.go [9,10,11,12,13,14,15,16] ?_
   iterate 8 (refine dK (h := ?_);try simp only [au])
   refine ad.nil ?_
   refine ad.go [17,18] ?_
   iterate 2 (refine aM (h := ?_);try simp only [au])
   refine ad.nil ?_
   refine ad.go [19,20,21] ?_
   iterate 3 (refine dK (h := ?_);try simp only [au])
   refine ad.nil ?_
   refine ad.go [22,23] ?_
   iterate 2 (refine aM (h := ?_);try simp only [au])
   refine ad.nil ?_
   refine wpAnyH_done (by kernel_rfl) ?_ _
   go_wp2
   go_ret
   exact ⟨by rw [Hr.out];rfl,kW.trans (by assumption)⟩
  ·skip
   cases d2:aH t.left (min t.round 1) t.round
   ·skip
    have Hr:Hid ((aH t.prio 1 20&&aH t.round 0 10&&aH t.left (min t.round 1) t.round&&aH t.seq 0 1000000)=(false)):=by show _=_;simp [d0,d1,d2]
    refine wp_region_held_drew (S:=(fun w'=>aa W w')) (by kernel_rfl) ?_ (fun hHeld => ?_)
    ·exact K0.drew
    refine ad.go [0,1] ?_
    iterate 2 (refine aM (h := ?_);try simp only [au])
    refine ad.nil ?_
    refine aR 2 (h:=fun K hK => ?_)
    go_simp
    first
    | (go_at_call 27;refine (bq _ _ _ _).mono ?_;rintro e w' ⟨rfl,rfl⟩)
    | (go_at_call 109;refine (fS _ _ _).mono ?_;rintro e w' ⟨rfl,rfl⟩)
    try go_wp2_with fail
    refine hK.out _ _ ?_ fun hHeld => ?_
    ·assumption
    clear hK K
    try simp only [au]
    refine ad.go [3,4,5] ?_
    iterate 3 (refine aM (h := ?_);try simp only [au])
    refine ad.nil ?_
    refine aR 6 (h:=fun K hK => ?_)
    go_simp
    first
    | (go_at_call 27;refine (bq _ _ _ _).mono ?_;rintro e w' ⟨rfl,rfl⟩)
    | (go_at_call 109;refine (fS _ _ _).mono ?_;rintro e w' ⟨rfl,rfl⟩)
    try go_wp2_with fail
    refine hK.out _ _ ?_ fun hHeld => ?_
    ·assumption
    clear hK K
    try simp only [au]
    refine ad.go [7,8,9,10,11,12,14,15] ?_
    iterate 8 (refine aM (h := ?_);try simp only [au])
    refine ad.nil ?_
    refine aR 13 (h:=fun K hK => ?_)
    go_simp
    first
    | (go_at_call 27;refine (bq _ _ _ _).mono ?_;rintro e w' ⟨rfl,rfl⟩)
    | (go_at_call 109;refine (fS _ _ _).mono ?_;rintro e w' ⟨rfl,rfl⟩)
    try go_wp2_with fail
    refine hK.out _ _ ?_ fun hHeld => ?_
    ·assumption
    clear hK K
    try simp only [au]
    refine aR 16 (h:=fun K hK => ?_)
    go_simp
    first
    | (go_at_call 27;refine (bq _ _ _ _).mono ?_;rintro e w' ⟨rfl,rfl⟩)
    | (go_at_call 109;refine (fS _ _ _).mono ?_;rintro e w' ⟨rfl,rfl⟩)
    try go_wp2_with fail
    refine hK.out _ _ ?_ fun hHeld => ?_
    ·assumption
    clear hK K
    try simp only [au]
    refine ad.go [17,18] ?_
    iterate 2 (refine aM (h := ?_);try simp only [au])
    refine ad.nil ?_
    refine ad.go [19,20,21] ?_
    iterate 3 (refine dK (h := ?_);try simp only [au])
    refine ad.nil ?_
    refine ad.go [22,23] ?_
    iterate 2 (refine aM (h := ?_);try simp only [au])
    refine ad.nil ?_
    refine wpAnyH_done (by kernel_rfl) ?_ _
    go_wp2
    go_ret
    exact ⟨by rw [Hr.out];rfl,kW.trans (by assumption)⟩
   ·skip
    have Hr:Hid ((aH t.prio 1 20&&aH t.round 0 10&&aH t.left (min t.round 1) t.round&&aH t.seq 0 1000000)=(aH t.seq 0 1000000)):=by show _=_;simp [d0,d1,d2]
    refine wp_region_held_drew (S:=(fun w'=>aa W w')) (by kernel_rfl) ?_ (fun hHeld => ?_)
    ·exact K0.drew
    refine ad.go [0,1] ?_
    iterate 2 (refine aM (h := ?_);try simp only [au])
    refine ad.nil ?_
    refine aR 2 (h:=fun K hK => ?_)
    go_simp
    first
    | (go_at_call 27;refine (bq _ _ _ _).mono ?_;rintro e w' ⟨rfl,rfl⟩)
    | (go_at_call 109;refine (fS _ _ _).mono ?_;rintro e w' ⟨rfl,rfl⟩)
    try go_wp2_with fail
    refine hK.out _ _ ?_ fun hHeld => ?_
    ·assumption
    clear hK K
    try simp only [au]
    refine ad.go [3,4,5] ?_
    iterate 3 (refine aM (h := ?_);try simp only [au])
    refine ad.nil ?_
    refine aR 6 (h:=fun K hK => ?_)
    go_simp
    first
    | (go_at_call 27;refine (bq _ _ _ _).mono ?_;rintro e w' ⟨rfl,rfl⟩)
    | (go_at_call 109;refine (fS _ _ _).mono ?_;rintro e w' ⟨rfl,rfl⟩)
    try go_wp2_with fail
    refine hK.out _ _ ?_ fun hHeld => ?_
    ·assumption
    clear hK K
    try simp only [au]
    refine ad.go [7,8,9,10,11,12,14,15] ?_
    iterate 8 (refine aM (h := ?_);try simp only [au])
    refine ad.nil ?_
    refine aR 13 (h:=fun K hK => ?_)
    go_simp
    first
    | (go_at_call 27;refine (bq _ _ _ _).mono ?_;rintro e w' ⟨rfl,rfl⟩)
    | (go_at_call 109;refine (fS _ _ _).mono ?_;rintro e w' ⟨rfl,rfl⟩)
    try go_wp2_with fail
    refine hK.out _ _ ?_ fun hHeld => ?_
    ·assumption
    clear hK K
    try simp only [au]
    refine aR 16 (h:=fun K hK => ?_)
    go_simp
    first
    | (go_at_call 27;refine (bq _ _ _ _).mono ?_;rintro e w' ⟨rfl,rfl⟩)
    | (go_at_call 109;refine (fS _ _ _).mono ?_;rintro e w' ⟨rfl,rfl⟩)
    try go_wp2_with fail
    refine hK.out _ _ ?_ fun hHeld => ?_
    ·assumption
    clear hK K
    try simp only [au]
    refine ad.go [17,18,19,20] ?_
    iterate 4 (refine aM (h := ?_);try simp only [au])
    refine ad.nil ?_
    refine aR 21 (h:=fun K hK => ?_)
    go_simp
    first
    | (go_at_call 27;refine (bq _ _ _ _).mono ?_;rintro e w' ⟨rfl,rfl⟩)
    | (go_at_call 109;refine (fS _ _ _).mono ?_;rintro e w' ⟨rfl,rfl⟩)
    try go_wp2_with fail
    refine hK.out _ _ ?_ fun hHeld => ?_
    ·assumption
    clear hK K
    try simp only [au]
    refine ad.go [22,23] ?_
    iterate 2 (refine aM (h := ?_);try simp only [au])
    refine ad.nil ?_
    refine wpAnyH_done (by kernel_rfl) ?_ _
    go_wp2
    go_ret
    exact ⟨by rw [Hr.out];rfl,kW.trans (by assumption)⟩
set_option maxHeartbeats 4000000 in
theorem kH (t:ar) (w:World) :
  Calls Tryz.prog 69 #[tk t] w fun e w'=>e = .returned (.bool (bN t)) /\ aa w w':=by
 cases b1:aH t.no 1 1000
 ·have Hr:Hid (bN t=(false)):=by show _=_;simp [bN,fX,b1]
  go_enter Tryz.func69,Tryz.ntmps69
  go_wp2_with (first
    | (go_at_call 27;refine (bq _ _ _ _).mono ?_;rintro e w' ⟨rfl,rfl⟩)
    | (go_at_call 109;refine (fS _ _ _).mono ?_;rintro e w' ⟨rfl,rfl⟩)
    | (go_at_call 88;refine (iq _ _).mono ?_;rintro e w' ⟨rfl,rfl⟩)
    | (go_at_call 72;refine (ju _ _ _).mono ?_;rintro e w' ⟨rfl,rfl⟩)
    | (go_at_call 108;refine (km _ _).mono ?_;rintro e w' ⟨rfl,rfl⟩))
  go_ret
  exact ⟨by rw [Hr.out];rfl,by repeat (first | exact aa.refl _ | refine aa.alloc ?_ _ | refine aa.drewN ?_ _)⟩
 ·skip
  cases b2:aH t.cls 1 3
  ·have Hr:Hid (bN t=(false)):=by show _=_;simp [bN,fX,b1,b2]
   go_enter Tryz.func69,Tryz.ntmps69
   go_wp2_with (first
     | (go_at_call 27;refine (bq _ _ _ _).mono ?_;rintro e w' ⟨rfl,rfl⟩)
     | (go_at_call 109;refine (fS _ _ _).mono ?_;rintro e w' ⟨rfl,rfl⟩)
     | (go_at_call 88;refine (iq _ _).mono ?_;rintro e w' ⟨rfl,rfl⟩)
     | (go_at_call 72;refine (ju _ _ _).mono ?_;rintro e w' ⟨rfl,rfl⟩)
     | (go_at_call 108;refine (km _ _).mono ?_;rintro e w' ⟨rfl,rfl⟩))
   go_ret
   exact ⟨by rw [Hr.out];rfl,by repeat (first | exact aa.refl _ | refine aa.alloc ?_ _ | refine aa.drewN ?_ _)⟩
  ·skip
   cases b3:aH t.cpu 0 3
   ·have Hr:Hid (bN t=(false)):=by show _=_;simp [bN,fX,b1,b2,b3]
    go_enter Tryz.func69,Tryz.ntmps69
    go_wp2_with (first
      | (go_at_call 27;refine (bq _ _ _ _).mono ?_;rintro e w' ⟨rfl,rfl⟩)
      | (go_at_call 109;refine (fS _ _ _).mono ?_;rintro e w' ⟨rfl,rfl⟩)
      | (go_at_call 88;refine (iq _ _).mono ?_;rintro e w' ⟨rfl,rfl⟩)
      | (go_at_call 72;refine (ju _ _ _).mono ?_;rintro e w' ⟨rfl,rfl⟩)
      | (go_at_call 108;refine (km _ _).mono ?_;rintro e w' ⟨rfl,rfl⟩))
    go_ret
    exact ⟨by rw [Hr.out];rfl,by repeat (first | exact aa.refl _ | refine aa.alloc ?_ _ | refine aa.drewN ?_ _)⟩
   ·skip
    cases b4:aH t.st 1 2
    ·have Hr:Hid (bN t=(false)):=by show _=_;simp [bN,fX,b1,b2,b3,b4]
     go_enter Tryz.func69,Tryz.ntmps69
     go_wp2_with (first
       | (go_at_call 27;refine (bq _ _ _ _).mono ?_;rintro e w' ⟨rfl,rfl⟩)
       | (go_at_call 109;refine (fS _ _ _).mono ?_;rintro e w' ⟨rfl,rfl⟩)
       | (go_at_call 88;refine (iq _ _).mono ?_;rintro e w' ⟨rfl,rfl⟩)
       | (go_at_call 72;refine (ju _ _ _).mono ?_;rintro e w' ⟨rfl,rfl⟩)
       | (go_at_call 108;refine (km _ _).mono ?_;rintro e w' ⟨rfl,rfl⟩))
     go_ret
     exact ⟨by rw [Hr.out];rfl,by repeat (first | exact aa.refl _ | refine aa.alloc ?_ _ | refine aa.drewN ?_ _)⟩
    ·skip
     cases b5:gD t
     ·have Hr:Hid (bN t=(false)):=by show _=_;simp [bN,fX,b1,b2,b3,b4,b5]
      go_enter Tryz.func69,Tryz.ntmps69
      go_wp2_with (first
        | (go_at_call 27;refine (bq _ _ _ _).mono ?_;rintro e w' ⟨rfl,rfl⟩)
        | (go_at_call 109;refine (fS _ _ _).mono ?_;rintro e w' ⟨rfl,rfl⟩)
        | (go_at_call 88;refine (iq _ _).mono ?_;rintro e w' ⟨rfl,rfl⟩)
        | (go_at_call 72;refine (ju _ _ _).mono ?_;rintro e w' ⟨rfl,rfl⟩)
        | (go_at_call 108;refine (km _ _).mono ?_;rintro e w' ⟨rfl,rfl⟩))
      go_ret
      exact ⟨by rw [Hr.out];rfl,by repeat (first | exact aa.refl _ | refine aa.alloc ?_ _ | refine aa.drewN ?_ _)⟩
     ·skip
      cases c1:(t.cls==1)
      ·cases c2:(t.cls==2)
       ·skip
        cases d0:(aH t.nice (-4) 4)
        ·have Hr:Hid (bN t=(false)):=by show _=_;simp [bN,fX,b1,b2,b3,b4,b5,c1,c2,d0]
         go_enter Tryz.func69,Tryz.ntmps69
         go_wp2_with (first
           | (go_at_call 27;refine (bq _ _ _ _).mono ?_;rintro e w' ⟨rfl,rfl⟩)
           | (go_at_call 109;refine (fS _ _ _).mono ?_;rintro e w' ⟨rfl,rfl⟩)
           | (go_at_call 88;refine (iq _ _).mono ?_;rintro e w' ⟨rfl,rfl⟩)
           | (go_at_call 72;refine (ju _ _ _).mono ?_;rintro e w' ⟨rfl,rfl⟩)
           | (go_at_call 108;refine (km _ _).mono ?_;rintro e w' ⟨rfl,rfl⟩))
         go_ret
         exact ⟨by rw [Hr.out];rfl,by repeat (first | exact aa.refl _ | refine aa.alloc ?_ _ | refine aa.drewN ?_ _)⟩
        ·skip
         have Hr:Hid (bN t=(aH t.v 0 100000000)):=by show _=_;simp [bN,fX,b1,b2,b3,b4,b5,c1,c2,d0]
         go_enter Tryz.func69,Tryz.ntmps69
         go_wp2_with (first
           | (go_at_call 27;refine (bq _ _ _ _).mono ?_;rintro e w' ⟨rfl,rfl⟩)
           | (go_at_call 109;refine (fS _ _ _).mono ?_;rintro e w' ⟨rfl,rfl⟩)
           | (go_at_call 88;refine (iq _ _).mono ?_;rintro e w' ⟨rfl,rfl⟩)
           | (go_at_call 72;refine (ju _ _ _).mono ?_;rintro e w' ⟨rfl,rfl⟩)
           | (go_at_call 108;refine (km _ _).mono ?_;rintro e w' ⟨rfl,rfl⟩))
         go_ret
         exact ⟨by rw [Hr.out];rfl,by repeat (first | exact aa.refl _ | refine aa.alloc ?_ _ | refine aa.drewN ?_ _)⟩
       ·skip
        exact (JU t w b1 b2 b3 b4 b5 c1 c2).mono (by rintro e w' ⟨rfl,hk⟩;exact ⟨by simp [bN,fX,b1,b2,b3,b4,b5,c1,c2],hk⟩)
      ·skip
       cases d0:(okB t.q t.p)
       ·have Hr:Hid (bN t=(false)):=by show _=_;simp [bN,fX,b1,b2,b3,b4,b5,c1,d0]
        go_enter Tryz.func69,Tryz.ntmps69
        go_wp2_with (first
          | (go_at_call 27;refine (bq _ _ _ _).mono ?_;rintro e w' ⟨rfl,rfl⟩)
          | (go_at_call 109;refine (fS _ _ _).mono ?_;rintro e w' ⟨rfl,rfl⟩)
          | (go_at_call 88;refine (iq _ _).mono ?_;rintro e w' ⟨rfl,rfl⟩)
          | (go_at_call 72;refine (ju _ _ _).mono ?_;rintro e w' ⟨rfl,rfl⟩)
          | (go_at_call 108;refine (km _ _).mono ?_;rintro e w' ⟨rfl,rfl⟩))
        go_ret
        exact ⟨by rw [Hr.out];rfl,by repeat (first | exact aa.refl _ | refine aa.alloc ?_ _ | refine aa.drewN ?_ _)⟩
       ·skip
        cases d1:(aH t.left 0 t.q)
        ·have Hr:Hid (bN t=(false)):=by show _=_;simp [bN,fX,b1,b2,b3,b4,b5,c1,d0,d1]
         go_enter Tryz.func69,Tryz.ntmps69
         go_wp2_with (first
           | (go_at_call 27;refine (bq _ _ _ _).mono ?_;rintro e w' ⟨rfl,rfl⟩)
           | (go_at_call 109;refine (fS _ _ _).mono ?_;rintro e w' ⟨rfl,rfl⟩)
           | (go_at_call 88;refine (iq _ _).mono ?_;rintro e w' ⟨rfl,rfl⟩)
           | (go_at_call 72;refine (ju _ _ _).mono ?_;rintro e w' ⟨rfl,rfl⟩)
           | (go_at_call 108;refine (km _ _).mono ?_;rintro e w' ⟨rfl,rfl⟩))
         go_ret
         exact ⟨by rw [Hr.out];rfl,by repeat (first | exact aa.refl _ | refine aa.alloc ?_ _ | refine aa.drewN ?_ _)⟩
        ·skip
         have Hr:Hid (bN t=(aH t.due 0 100040)):=by show _=_;simp [bN,fX,b1,b2,b3,b4,b5,c1,d0,d1]
         go_enter Tryz.func69,Tryz.ntmps69
         go_wp2_with (first
           | (go_at_call 27;refine (bq _ _ _ _).mono ?_;rintro e w' ⟨rfl,rfl⟩)
           | (go_at_call 109;refine (fS _ _ _).mono ?_;rintro e w' ⟨rfl,rfl⟩)
           | (go_at_call 88;refine (iq _ _).mono ?_;rintro e w' ⟨rfl,rfl⟩)
           | (go_at_call 72;refine (ju _ _ _).mono ?_;rintro e w' ⟨rfl,rfl⟩)
           | (go_at_call 108;refine (km _ _).mono ?_;rintro e w' ⟨rfl,rfl⟩))
         go_ret
         exact ⟨by rw [Hr.out];rfl,by repeat (first | exact aa.refl _ | refine aa.alloc ?_ _ | refine aa.drewN ?_ _)⟩
end Go.Proofs.YteagpjlgjfaclaaGreatDoor
