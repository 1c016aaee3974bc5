/-
  What a task is: contracts of the model's functions over one
-/
import Derived.Test.YteagpjlgjfaclaaGreatDoorTaskBase
import Derived.Test.YteagpjlgjfaclaaGreatDoorFrame
import Derived.Deep.DeepCutAuto
namespace Go.Proofs.YteagpjlgjfaclaaGreatDoor
open Go.RowKit
def dueZ (t:Tsk):Bool:=t.q==0&&t.p==0&&t.due==0
def fixZ (t:Tsk):Bool:=t.prio==0&&t.round==0&&t.seq==0
def qby (t:Tsk):Bool:=t.nice==0&&t.v==0
def qbf (t:Tsk):Bool:=if t.cls==1 then fixZ t&&qby t else if t.cls==2 then dueZ t&&qby t else dueZ t&&fixZ t&&t.left==0
def qa1 (t:Tsk):Bool:=if t.cls==1 then okB t.q t.p&&inB t.left 0 t.q&&inB t.due 0 100040 else if t.cls==2 then inB t.prio 1 20&&inB t.round 0 10&&inB t.left (min t.round 1) t.round&&inB t.seq 0 1000000 else inB t.nice (-4) 4&&inB t.v 0 100000000
def qah (t:Tsk):Bool:=inB t.no 1 1000&&inB t.cls 1 3&&inB t.cpu 0 3&&inB t.st 1 2&&qbf t&&qa1 t
set_option maxHeartbeats 2000000 in
theorem qco (t:Tsk) (w:World) :
  Calls Tryz.prog 108 #[tk t] w fun e w'=>e = .returned (.bool (qbf t)) /\ w'=w.alloc (.cells (tc t) 43):=by
 go_enter Tryz.func108,Tryz.ntmps108
 go_upto_region 1 with fail
 go_cut [3] (fun c wx=>c = .bool (dueZ t) /\ wx=w.alloc (.cells (tc t) 43))
 case first =>
  cases b0:(t.q==0)
  ·have Hr:Hid (dueZ t=false):=by show _=_;simp [dueZ,b0]
   go_wp2
   go_meet
   exact ⟨by rw [Hr.out],rfl⟩
  cases b1:(t.p==0)
  ·have Hr:Hid (dueZ t=false):=by show _=_;simp [dueZ,b0,b1]
   go_wp2
   go_meet
   exact ⟨by rw [Hr.out],rfl⟩
  have Hr:Hid (dueZ t=(t.due==0)):=by show _=_;simp [dueZ,b0,b1]
  go_wp2
  go_meet
  exact ⟨by rw [Hr.out],rfl⟩
 case rest =>
 obtain ⟨rfl,rfl⟩:=hcut
 go_upto_region 2 with fail
 go_cut [4] (fun c wx=>c = .bool (fixZ t) /\ wx=w.alloc (.cells (tc t) 43))
 case first =>
  cases b0:(t.prio==0)
  ·have Hr:Hid (fixZ t=false):=by show _=_;simp [fixZ,b0]
   go_wp2
   go_meet
   exact ⟨by rw [Hr.out],rfl⟩
  cases b1:(t.round==0)
  ·have Hr:Hid (fixZ t=false):=by show _=_;simp [fixZ,b0,b1]
   go_wp2
   go_meet
   exact ⟨by rw [Hr.out],rfl⟩
  have Hr:Hid (fixZ t=(t.seq==0)):=by show _=_;simp [fixZ,b0,b1]
  go_wp2
  go_meet
  exact ⟨by rw [Hr.out],rfl⟩
 case rest =>
 obtain ⟨rfl,rfl⟩:=hcut
 go_upto_region 3 with fail
 go_cut [5] (fun c wx=>c = .bool (qby t) /\ wx=w.alloc (.cells (tc t) 43))
 case first =>
  cases b0:(t.nice==0)
  ·have Hr:Hid (qby t=false):=by show _=_;simp [qby,b0]
   go_wp2
   go_meet
   exact ⟨by rw [Hr.out],rfl⟩
  have Hr:Hid (qby t=(t.v==0)):=by show _=_;simp [qby,b0]
  go_wp2
  go_meet
  exact ⟨by rw [Hr.out],rfl⟩
 case rest =>
 obtain ⟨rfl,rfl⟩:=hcut
 cases c1:(t.cls==1)
 ·cases c2:(t.cls==2)
  ·have Hr:Hid (qbf t=(dueZ t&&fixZ t&&t.left==0)):=by show _=_;simp [qbf,c1,c2]
   generalize dueZ t=d at *
   generalize fixZ t=f at *
   cases d
   ·go_wp2;go_ret;exact ⟨by rw [Hr.out];rfl,rfl⟩
   ·cases f <;> (go_wp2;go_ret;exact ⟨by rw [Hr.out];rfl,rfl⟩)
  ·have Hr:Hid (qbf t=(dueZ t&&qby t)):=by show _=_;simp [qbf,c1,c2]
   generalize dueZ t=d at *
   cases d <;> (go_wp2;go_ret;exact ⟨by rw [Hr.out];rfl,rfl⟩)
 ·have Hr:Hid (qbf t=(fixZ t&&qby t)):=by show _=_;simp [qbf,c1]
  generalize fixZ t=f at *
  cases f <;> (go_wp2;go_ret;exact ⟨by rw [Hr.out];rfl,rfl⟩)
theorem qa3 (a b:Int) (w:World) :
  Calls Tryz.prog 109 #[.int .i64 a,.int .i64 b] w fun e w'=>e = .returned (.int .i64 (min a b)) /\ w'=w:=by
 by_cases h0:a < b
 ·have Hr:Hid (min a b=a):=by show _=_;omega
  go_enter Tryz.func109,Tryz.ntmps109
  go_wp2
  go_ret
  exact ⟨by rw [Hr.out];rfl,rfl⟩
 ·have Hr:Hid (min a b=b):=by show _=_;omega
  go_enter Tryz.func109,Tryz.ntmps109
  go_wp2
  go_ret
  exact ⟨by rw [Hr.out];rfl,rfl⟩
set_option maxHeartbeats 4000000 in
theorem qmD (t:Tsk) (w:World) (b1:inB t.no 1 1000=true) (b2:inB t.cls 1 3=true) (b3:inB t.cpu 0 3=true) (b4:inB t.st 1 2=true) (b5:qbf t=true) (c1:(t.cls==1)=false) (c2:(t.cls==2)=true) :
  Calls Tryz.prog 69 #[tk t] w fun e w'=>e = .returned (.bool (inB t.prio 1 20&&inB t.round 0 10&&inB t.left (min t.round 1) t.round&&inB t.seq 0 1000000)) /\ Keeps w w':=by
 go_enter Tryz.func69,Tryz.ntmps69
 go_wp2_with (first
   | (go_at_call 27;refine (qag _ _ _ _).mono ?_;rintro e w' ⟨rfl,rfl⟩)
   | (go_at_call 108;refine (qco _ _).mono ?_;rintro e w' ⟨rfl,rfl⟩))
 have kW:Keeps w ((w.alloc (.cells (tc t) 43)).alloc (.cells (tc t) 43)):=((Keeps.refl _).alloc _).alloc _
 have r7:=Keeps.has (W:=((w.alloc (.cells (tc t) 43)).alloc (.cells (tc t) 43))) (b:=w.heap.size) (o:=7) (v := .int .i64 t.left) (by simp [go_sem])
 have r9:=Keeps.has (W:=((w.alloc (.cells (tc t) 43)).alloc (.cells (tc t) 43))) (b:=w.heap.size) (o:=9) (v := .int .i64 t.prio) (by simp [go_sem])
 have r10:=Keeps.has (W:=((w.alloc (.cells (tc t) 43)).alloc (.cells (tc t) 43))) (b:=w.heap.size) (o:=10) (v := .int .i64 t.round) (by simp [go_sem])
 have r11:=Keeps.has (W:=((w.alloc (.cells (tc t) 43)).alloc (.cells (tc t) 43))) (b:=w.heap.size) (o:=11) (v := .int .i64 t.seq) (by simp [go_sem])
 generalize ((w.alloc (.cells (tc t) 43)).alloc (.cells (tc t) 43))=W at *
 have K0:Keeps W W:=Keeps.refl _
 cases d0:inB t.prio 1 20
 ·skip
  have Hr:Hid ((inB t.prio 1 20&&inB t.round 0 10&&inB t.left (min t.round 1) t.round&&inB t.seq 0 1000000)=(false)):=by show _=_;simp [d0]
  refine wp_region_held_drew (S:=(fun w'=>Keeps W w')) (by kernel_rfl) ?_ (fun hHeld => ?_)
  ·exact K0.drew
  refine Plan.go [0,1] ?_
  iterate 2 (refine qac (by simp only [qab];rfl) (by kernel_rfl) (by exact fun _ _ _ h=>h) (by rfl) (by assumption) (fun w _=>by go_simp;try (with_reducible rfl)) ?_;try simp only [qaa])
  refine Plan.nil ?_
  refine qad 2 (by kernel_rfl) (by simp only [qab];rfl) (fun K hK => ?_)
  go_simp
  first
    | (go_at_call 27;refine (qag _ _ _ _).mono ?_;rintro e w' ⟨rfl,rfl⟩)
    | (go_at_call 109;refine (qa3 _ _ _).mono ?_;rintro e w' ⟨rfl,rfl⟩)
  try go_wp2_with fail
  refine hK.out _ _ ?_ (fun hHeld => ?_)
  ·assumption
  clear hK K
  try simp only [qaa]
  refine qar 3 (v := ?_) (by simp only [qab];rfl) (by kernel_rfl) (by exact fun _ _ _ h=>h) (by rfl) (by assumption) ?_ ?_
  rotate_left
  ·(intro w _;go_simp;try (with_reducible rfl))
  try simp only [qaa]
  refine Plan.go [4,5,6] ?_
  iterate 3 (refine qaA (by simp only [qab];rfl) (by kernel_rfl) (by exact fun _ _ _ h=>h) (by rfl) (by assumption) ?_;try simp only [qaa])
  refine Plan.nil ?_
  refine Plan.go [7,8] ?_
  iterate 2 (refine qac (by simp only [qab];rfl) (by kernel_rfl) (by exact fun _ _ _ h=>h) (by rfl) (by assumption) (fun w _=>by go_simp;try (with_reducible rfl)) ?_;try simp only [qaa])
  refine Plan.nil ?_
  refine Plan.go [9,10,11,12,13,14,15,16] ?_
  iterate 8 (refine qaA (by simp only [qab];rfl) (by kernel_rfl) (by exact fun _ _ _ h=>h) (by rfl) (by assumption) ?_;try simp only [qaa])
  refine Plan.nil ?_
  refine Plan.go [17,18] ?_
  iterate 2 (refine qac (by simp only [qab];rfl) (by kernel_rfl) (by exact fun _ _ _ h=>h) (by rfl) (by assumption) (fun w _=>by go_simp;try (with_reducible rfl)) ?_;try simp only [qaa])
  refine Plan.nil ?_
  refine Plan.go [19,20,21] ?_
  iterate 3 (refine qaA (by simp only [qab];rfl) (by kernel_rfl) (by exact fun _ _ _ h=>h) (by rfl) (by assumption) ?_;try simp only [qaa])
  refine Plan.nil ?_
  refine Plan.go [22,23] ?_
  iterate 2 (refine qac (by simp only [qab];rfl) (by kernel_rfl) (by exact fun _ _ _ h=>h) (by rfl) (by assumption) (fun w _=>by go_simp;try (with_reducible rfl)) ?_;try simp only [qaa])
  refine Plan.nil ?_
  refine wpAnyH_done (by kernel_rfl) ?_ _
  go_wp2
  go_ret
  exact ⟨by rw [Hr.out];rfl,kW.trans (by assumption)⟩
 ·skip
  cases d1:inB t.round 0 10
  ·skip
   have Hr:Hid ((inB t.prio 1 20&&inB t.round 0 10&&inB t.left (min t.round 1) t.round&&inB t.seq 0 1000000)=(false)):=by show _=_;simp [d0,d1]
   refine wp_region_held_drew (S:=(fun w'=>Keeps W w')) (by kernel_rfl) ?_ (fun hHeld => ?_)
   ·exact K0.drew
   refine Plan.go [0,1] ?_
   iterate 2 (refine qac (by simp only [qab];rfl) (by kernel_rfl) (by exact fun _ _ _ h=>h) (by rfl) (by assumption) (fun w _=>by go_simp;try (with_reducible rfl)) ?_;try simp only [qaa])
   refine Plan.nil ?_
   refine qad 2 (by kernel_rfl) (by simp only [qab];rfl) (fun K hK => ?_)
   go_simp
   first
    | (go_at_call 27;refine (qag _ _ _ _).mono ?_;rintro e w' ⟨rfl,rfl⟩)
    | (go_at_call 109;refine (qa3 _ _ _).mono ?_;rintro e w' ⟨rfl,rfl⟩)
   try go_wp2_with fail
   refine hK.out _ _ ?_ (fun hHeld => ?_)
   ·assumption
   clear hK K
   try simp only [qaa]
   refine Plan.go [3,4,5] ?_
   iterate 3 (refine qac (by simp only [qab];rfl) (by kernel_rfl) (by exact fun _ _ _ h=>h) (by rfl) (by assumption) (fun w _=>by go_simp;try (with_reducible rfl)) ?_;try simp only [qaa])
   refine Plan.nil ?_
   refine qad 6 (by kernel_rfl) (by simp only [qab];rfl) (fun K hK => ?_)
   go_simp
   first
    | (go_at_call 27;refine (qag _ _ _ _).mono ?_;rintro e w' ⟨rfl,rfl⟩)
    | (go_at_call 109;refine (qa3 _ _ _).mono ?_;rintro e w' ⟨rfl,rfl⟩)
   try go_wp2_with fail
   refine hK.out _ _ ?_ (fun hHeld => ?_)
   ·assumption
   clear hK K
   try simp only [qaa]
   refine Plan.go [7,8] ?_
   iterate 2 (refine qac (by simp only [qab];rfl) (by kernel_rfl) (by exact fun _ _ _ h=>h) (by rfl) (by assumption) (fun w _=>by go_simp;try (with_reducible rfl)) ?_;try simp only [qaa])
   refine Plan.nil ?_
   refine Plan.go [9,10,11,12,13,14,15,16] ?_
   iterate 8 (refine qaA (by simp only [qab];rfl) (by kernel_rfl) (by exact fun _ _ _ h=>h) (by rfl) (by assumption) ?_;try simp only [qaa])
   refine Plan.nil ?_
   refine Plan.go [17,18] ?_
   iterate 2 (refine qac (by simp only [qab];rfl) (by kernel_rfl) (by exact fun _ _ _ h=>h) (by rfl) (by assumption) (fun w _=>by go_simp;try (with_reducible rfl)) ?_;try simp only [qaa])
   refine Plan.nil ?_
   refine Plan.go [19,20,21] ?_
   iterate 3 (refine qaA (by simp only [qab];rfl) (by kernel_rfl) (by exact fun _ _ _ h=>h) (by rfl) (by assumption) ?_;try simp only [qaa])
   refine Plan.nil ?_
   refine Plan.go [22,23] ?_
   iterate 2 (refine qac (by simp only [qab];rfl) (by kernel_rfl) (by exact fun _ _ _ h=>h) (by rfl) (by assumption) (fun w _=>by go_simp;try (with_reducible rfl)) ?_;try simp only [qaa])
   refine Plan.nil ?_
   refine wpAnyH_done (by kernel_rfl) ?_ _
   go_wp2
   go_ret
   exact ⟨by rw [Hr.out];rfl,kW.trans (by assumption)⟩
  ·skip
   cases d2:inB t.left (min t.round 1) t.round
   ·skip
    have Hr:Hid ((inB t.prio 1 20&&inB t.round 0 10&&inB t.left (min t.round 1) t.round&&inB t.seq 0 1000000)=(false)):=by show _=_;simp [d0,d1,d2]
    refine wp_region_held_drew (S:=(fun w'=>Keeps W w')) (by kernel_rfl) ?_ (fun hHeld => ?_)
    ·exact K0.drew
    refine Plan.go [0,1] ?_
    iterate 2 (refine qac (by simp only [qab];rfl) (by kernel_rfl) (by exact fun _ _ _ h=>h) (by rfl) (by assumption) (fun w _=>by go_simp;try (with_reducible rfl)) ?_;try simp only [qaa])
    refine Plan.nil ?_
    refine qad 2 (by kernel_rfl) (by simp only [qab];rfl) (fun K hK => ?_)
    go_simp
    first
    | (go_at_call 27;refine (qag _ _ _ _).mono ?_;rintro e w' ⟨rfl,rfl⟩)
    | (go_at_call 109;refine (qa3 _ _ _).mono ?_;rintro e w' ⟨rfl,rfl⟩)
    try go_wp2_with fail
    refine hK.out _ _ ?_ (fun hHeld => ?_)
    ·assumption
    clear hK K
    try simp only [qaa]
    refine Plan.go [3,4,5] ?_
    iterate 3 (refine qac (by simp only [qab];rfl) (by kernel_rfl) (by exact fun _ _ _ h=>h) (by rfl) (by assumption) (fun w _=>by go_simp;try (with_reducible rfl)) ?_;try simp only [qaa])
    refine Plan.nil ?_
    refine qad 6 (by kernel_rfl) (by simp only [qab];rfl) (fun K hK => ?_)
    go_simp
    first
    | (go_at_call 27;refine (qag _ _ _ _).mono ?_;rintro e w' ⟨rfl,rfl⟩)
    | (go_at_call 109;refine (qa3 _ _ _).mono ?_;rintro e w' ⟨rfl,rfl⟩)
    try go_wp2_with fail
    refine hK.out _ _ ?_ (fun hHeld => ?_)
    ·assumption
    clear hK K
    try simp only [qaa]
    refine Plan.go [7,8,9,10,11,12,14,15] ?_
    iterate 8 (refine qac (by simp only [qab];rfl) (by kernel_rfl) (by exact fun _ _ _ h=>h) (by rfl) (by assumption) (fun w _=>by go_simp;try (with_reducible rfl)) ?_;try simp only [qaa])
    refine Plan.nil ?_
    refine qad 13 (by kernel_rfl) (by simp only [qab];rfl) (fun K hK => ?_)
    go_simp
    first
    | (go_at_call 27;refine (qag _ _ _ _).mono ?_;rintro e w' ⟨rfl,rfl⟩)
    | (go_at_call 109;refine (qa3 _ _ _).mono ?_;rintro e w' ⟨rfl,rfl⟩)
    try go_wp2_with fail
    refine hK.out _ _ ?_ (fun hHeld => ?_)
    ·assumption
    clear hK K
    try simp only [qaa]
    refine qad 16 (by kernel_rfl) (by simp only [qab];rfl) (fun K hK => ?_)
    go_simp
    first
    | (go_at_call 27;refine (qag _ _ _ _).mono ?_;rintro e w' ⟨rfl,rfl⟩)
    | (go_at_call 109;refine (qa3 _ _ _).mono ?_;rintro e w' ⟨rfl,rfl⟩)
    try go_wp2_with fail
    refine hK.out _ _ ?_ (fun hHeld => ?_)
    ·assumption
    clear hK K
    try simp only [qaa]
    refine Plan.go [17,18] ?_
    iterate 2 (refine qac (by simp only [qab];rfl) (by kernel_rfl) (by exact fun _ _ _ h=>h) (by rfl) (by assumption) (fun w _=>by go_simp;try (with_reducible rfl)) ?_;try simp only [qaa])
    refine Plan.nil ?_
    refine Plan.go [19,20,21] ?_
    iterate 3 (refine qaA (by simp only [qab];rfl) (by kernel_rfl) (by exact fun _ _ _ h=>h) (by rfl) (by assumption) ?_;try simp only [qaa])
    refine Plan.nil ?_
    refine Plan.go [22,23] ?_
    iterate 2 (refine qac (by simp only [qab];rfl) (by kernel_rfl) (by exact fun _ _ _ h=>h) (by rfl) (by assumption) (fun w _=>by go_simp;try (with_reducible rfl)) ?_;try simp only [qaa])
    refine Plan.nil ?_
    refine wpAnyH_done (by kernel_rfl) ?_ _
    go_wp2
    go_ret
    exact ⟨by rw [Hr.out];rfl,kW.trans (by assumption)⟩
   ·skip
    have Hr:Hid ((inB t.prio 1 20&&inB t.round 0 10&&inB t.left (min t.round 1) t.round&&inB t.seq 0 1000000)=(inB t.seq 0 1000000)):=by show _=_;simp [d0,d1,d2]
    refine wp_region_held_drew (S:=(fun w'=>Keeps W w')) (by kernel_rfl) ?_ (fun hHeld => ?_)
    ·exact K0.drew
    refine Plan.go [0,1] ?_
    iterate 2 (refine qac (by simp only [qab];rfl) (by kernel_rfl) (by exact fun _ _ _ h=>h) (by rfl) (by assumption) (fun w _=>by go_simp;try (with_reducible rfl)) ?_;try simp only [qaa])
    refine Plan.nil ?_
    refine qad 2 (by kernel_rfl) (by simp only [qab];rfl) (fun K hK => ?_)
    go_simp
    first
    | (go_at_call 27;refine (qag _ _ _ _).mono ?_;rintro e w' ⟨rfl,rfl⟩)
    | (go_at_call 109;refine (qa3 _ _ _).mono ?_;rintro e w' ⟨rfl,rfl⟩)
    try go_wp2_with fail
    refine hK.out _ _ ?_ (fun hHeld => ?_)
    ·assumption
    clear hK K
    try simp only [qaa]
    refine Plan.go [3,4,5] ?_
    iterate 3 (refine qac (by simp only [qab];rfl) (by kernel_rfl) (by exact fun _ _ _ h=>h) (by rfl) (by assumption) (fun w _=>by go_simp;try (with_reducible rfl)) ?_;try simp only [qaa])
    refine Plan.nil ?_
    refine qad 6 (by kernel_rfl) (by simp only [qab];rfl) (fun K hK => ?_)
    go_simp
    first
    | (go_at_call 27;refine (qag _ _ _ _).mono ?_;rintro e w' ⟨rfl,rfl⟩)
    | (go_at_call 109;refine (qa3 _ _ _).mono ?_;rintro e w' ⟨rfl,rfl⟩)
    try go_wp2_with fail
    refine hK.out _ _ ?_ (fun hHeld => ?_)
    ·assumption
    clear hK K
    try simp only [qaa]
    refine Plan.go [7,8,9,10,11,12,14,15] ?_
    iterate 8 (refine qac (by simp only [qab];rfl) (by kernel_rfl) (by exact fun _ _ _ h=>h) (by rfl) (by assumption) (fun w _=>by go_simp;try (with_reducible rfl)) ?_;try simp only [qaa])
    refine Plan.nil ?_
    refine qad 13 (by kernel_rfl) (by simp only [qab];rfl) (fun K hK => ?_)
    go_simp
    first
    | (go_at_call 27;refine (qag _ _ _ _).mono ?_;rintro e w' ⟨rfl,rfl⟩)
    | (go_at_call 109;refine (qa3 _ _ _).mono ?_;rintro e w' ⟨rfl,rfl⟩)
    try go_wp2_with fail
    refine hK.out _ _ ?_ (fun hHeld => ?_)
    ·assumption
    clear hK K
    try simp only [qaa]
    refine qad 16 (by kernel_rfl) (by simp only [qab];rfl) (fun K hK => ?_)
    go_simp
    first
    | (go_at_call 27;refine (qag _ _ _ _).mono ?_;rintro e w' ⟨rfl,rfl⟩)
    | (go_at_call 109;refine (qa3 _ _ _).mono ?_;rintro e w' ⟨rfl,rfl⟩)
    try go_wp2_with fail
    refine hK.out _ _ ?_ (fun hHeld => ?_)
    ·assumption
    clear hK K
    try simp only [qaa]
    refine Plan.go [17,18,19,20] ?_
    iterate 4 (refine qac (by simp only [qab];rfl) (by kernel_rfl) (by exact fun _ _ _ h=>h) (by rfl) (by assumption) (fun w _=>by go_simp;try (with_reducible rfl)) ?_;try simp only [qaa])
    refine Plan.nil ?_
    refine qad 21 (by kernel_rfl) (by simp only [qab];rfl) (fun K hK => ?_)
    go_simp
    first
    | (go_at_call 27;refine (qag _ _ _ _).mono ?_;rintro e w' ⟨rfl,rfl⟩)
    | (go_at_call 109;refine (qa3 _ _ _).mono ?_;rintro e w' ⟨rfl,rfl⟩)
    try go_wp2_with fail
    refine hK.out _ _ ?_ (fun hHeld => ?_)
    ·assumption
    clear hK K
    try simp only [qaa]
    refine Plan.go [22,23] ?_
    iterate 2 (refine qac (by simp only [qab];rfl) (by kernel_rfl) (by exact fun _ _ _ h=>h) (by rfl) (by assumption) (fun w _=>by go_simp;try (with_reducible rfl)) ?_;try simp only [qaa])
    refine Plan.nil ?_
    refine wpAnyH_done (by kernel_rfl) ?_ _
    go_wp2
    go_ret
    exact ⟨by rw [Hr.out];rfl,kW.trans (by assumption)⟩
set_option maxHeartbeats 4000000 in
theorem qcC (t:Tsk) (w:World) :
  Calls Tryz.prog 69 #[tk t] w fun e w'=>e = .returned (.bool (qah t)) /\ Keeps w w':=by
 cases b1:inB t.no 1 1000
 ·have Hr:Hid (qah t=(false)):=by show _=_;simp [qah,qa1,b1]
  go_enter Tryz.func69,Tryz.ntmps69
  go_wp2_with (first
    | (go_at_call 27;refine (qag _ _ _ _).mono ?_;rintro e w' ⟨rfl,rfl⟩)
    | (go_at_call 109;refine (qa3 _ _ _).mono ?_;rintro e w' ⟨rfl,rfl⟩)
    | (go_at_call 88;refine (qbK _ _).mono ?_;rintro e w' ⟨rfl,rfl⟩)
    | (go_at_call 72;refine (qb4 _ _ _).mono ?_;rintro e w' ⟨rfl,rfl⟩)
    | (go_at_call 108;refine (qco _ _).mono ?_;rintro e w' ⟨rfl,rfl⟩))
  go_ret
  exact ⟨by rw [Hr.out];rfl,by repeat (first | exact Keeps.refl _ | refine Keeps.alloc ?_ _ | refine Keeps.drewN ?_ _)⟩
 ·skip
  cases b2:inB t.cls 1 3
  ·have Hr:Hid (qah t=(false)):=by show _=_;simp [qah,qa1,b1,b2]
   go_enter Tryz.func69,Tryz.ntmps69
   go_wp2_with (first
     | (go_at_call 27;refine (qag _ _ _ _).mono ?_;rintro e w' ⟨rfl,rfl⟩)
     | (go_at_call 109;refine (qa3 _ _ _).mono ?_;rintro e w' ⟨rfl,rfl⟩)
     | (go_at_call 88;refine (qbK _ _).mono ?_;rintro e w' ⟨rfl,rfl⟩)
     | (go_at_call 72;refine (qb4 _ _ _).mono ?_;rintro e w' ⟨rfl,rfl⟩)
     | (go_at_call 108;refine (qco _ _).mono ?_;rintro e w' ⟨rfl,rfl⟩))
   go_ret
   exact ⟨by rw [Hr.out];rfl,by repeat (first | exact Keeps.refl _ | refine Keeps.alloc ?_ _ | refine Keeps.drewN ?_ _)⟩
  ·skip
   cases b3:inB t.cpu 0 3
   ·have Hr:Hid (qah t=(false)):=by show _=_;simp [qah,qa1,b1,b2,b3]
    go_enter Tryz.func69,Tryz.ntmps69
    go_wp2_with (first
      | (go_at_call 27;refine (qag _ _ _ _).mono ?_;rintro e w' ⟨rfl,rfl⟩)
      | (go_at_call 109;refine (qa3 _ _ _).mono ?_;rintro e w' ⟨rfl,rfl⟩)
      | (go_at_call 88;refine (qbK _ _).mono ?_;rintro e w' ⟨rfl,rfl⟩)
      | (go_at_call 72;refine (qb4 _ _ _).mono ?_;rintro e w' ⟨rfl,rfl⟩)
      | (go_at_call 108;refine (qco _ _).mono ?_;rintro e w' ⟨rfl,rfl⟩))
    go_ret
    exact ⟨by rw [Hr.out];rfl,by repeat (first | exact Keeps.refl _ | refine Keeps.alloc ?_ _ | refine Keeps.drewN ?_ _)⟩
   ·skip
    cases b4:inB t.st 1 2
    ·have Hr:Hid (qah t=(false)):=by show _=_;simp [qah,qa1,b1,b2,b3,b4]
     go_enter Tryz.func69,Tryz.ntmps69
     go_wp2_with (first
       | (go_at_call 27;refine (qag _ _ _ _).mono ?_;rintro e w' ⟨rfl,rfl⟩)
       | (go_at_call 109;refine (qa3 _ _ _).mono ?_;rintro e w' ⟨rfl,rfl⟩)
       | (go_at_call 88;refine (qbK _ _).mono ?_;rintro e w' ⟨rfl,rfl⟩)
       | (go_at_call 72;refine (qb4 _ _ _).mono ?_;rintro e w' ⟨rfl,rfl⟩)
       | (go_at_call 108;refine (qco _ _).mono ?_;rintro e w' ⟨rfl,rfl⟩))
     go_ret
     exact ⟨by rw [Hr.out];rfl,by repeat (first | exact Keeps.refl _ | refine Keeps.alloc ?_ _ | refine Keeps.drewN ?_ _)⟩
    ·skip
     cases b5:qbf t
     ·have Hr:Hid (qah t=(false)):=by show _=_;simp [qah,qa1,b1,b2,b3,b4,b5]
      go_enter Tryz.func69,Tryz.ntmps69
      go_wp2_with (first
        | (go_at_call 27;refine (qag _ _ _ _).mono ?_;rintro e w' ⟨rfl,rfl⟩)
        | (go_at_call 109;refine (qa3 _ _ _).mono ?_;rintro e w' ⟨rfl,rfl⟩)
        | (go_at_call 88;refine (qbK _ _).mono ?_;rintro e w' ⟨rfl,rfl⟩)
        | (go_at_call 72;refine (qb4 _ _ _).mono ?_;rintro e w' ⟨rfl,rfl⟩)
        | (go_at_call 108;refine (qco _ _).mono ?_;rintro e w' ⟨rfl,rfl⟩))
      go_ret
      exact ⟨by rw [Hr.out];rfl,by repeat (first | exact Keeps.refl _ | refine Keeps.alloc ?_ _ | refine Keeps.drewN ?_ _)⟩
     ·skip
      cases c1:(t.cls==1)
      ·cases c2:(t.cls==2)
       ·skip
        cases d0:(inB t.nice (-4) 4)
        ·have Hr:Hid (qah t=(false)):=by show _=_;simp [qah,qa1,b1,b2,b3,b4,b5,c1,c2,d0]
         go_enter Tryz.func69,Tryz.ntmps69
         go_wp2_with (first
           | (go_at_call 27;refine (qag _ _ _ _).mono ?_;rintro e w' ⟨rfl,rfl⟩)
           | (go_at_call 109;refine (qa3 _ _ _).mono ?_;rintro e w' ⟨rfl,rfl⟩)
           | (go_at_call 88;refine (qbK _ _).mono ?_;rintro e w' ⟨rfl,rfl⟩)
           | (go_at_call 72;refine (qb4 _ _ _).mono ?_;rintro e w' ⟨rfl,rfl⟩)
           | (go_at_call 108;refine (qco _ _).mono ?_;rintro e w' ⟨rfl,rfl⟩))
         go_ret
         exact ⟨by rw [Hr.out];rfl,by repeat (first | exact Keeps.refl _ | refine Keeps.alloc ?_ _ | refine Keeps.drewN ?_ _)⟩
        ·skip
         have Hr:Hid (qah t=(inB t.v 0 100000000)):=by show _=_;simp [qah,qa1,b1,b2,b3,b4,b5,c1,c2,d0]
         go_enter Tryz.func69,Tryz.ntmps69
         go_wp2_with (first
           | (go_at_call 27;refine (qag _ _ _ _).mono ?_;rintro e w' ⟨rfl,rfl⟩)
           | (go_at_call 109;refine (qa3 _ _ _).mono ?_;rintro e w' ⟨rfl,rfl⟩)
           | (go_at_call 88;refine (qbK _ _).mono ?_;rintro e w' ⟨rfl,rfl⟩)
           | (go_at_call 72;refine (qb4 _ _ _).mono ?_;rintro e w' ⟨rfl,rfl⟩)
           | (go_at_call 108;refine (qco _ _).mono ?_;rintro e w' ⟨rfl,rfl⟩))
         go_ret
         exact ⟨by rw [Hr.out];rfl,by repeat (first | exact Keeps.refl _ | refine Keeps.alloc ?_ _ | refine Keeps.drewN ?_ _)⟩
       ·skip
        exact (qmD t w b1 b2 b3 b4 b5 c1 c2).mono (by rintro e w' ⟨rfl,hk⟩;exact ⟨by simp [qah,qa1,b1,b2,b3,b4,b5,c1,c2],hk⟩)
      ·skip
       cases d0:(okB t.q t.p)
       ·have Hr:Hid (qah t=(false)):=by show _=_;simp [qah,qa1,b1,b2,b3,b4,b5,c1,d0]
        go_enter Tryz.func69,Tryz.ntmps69
        go_wp2_with (first
          | (go_at_call 27;refine (qag _ _ _ _).mono ?_;rintro e w' ⟨rfl,rfl⟩)
          | (go_at_call 109;refine (qa3 _ _ _).mono ?_;rintro e w' ⟨rfl,rfl⟩)
          | (go_at_call 88;refine (qbK _ _).mono ?_;rintro e w' ⟨rfl,rfl⟩)
          | (go_at_call 72;refine (qb4 _ _ _).mono ?_;rintro e w' ⟨rfl,rfl⟩)
          | (go_at_call 108;refine (qco _ _).mono ?_;rintro e w' ⟨rfl,rfl⟩))
        go_ret
        exact ⟨by rw [Hr.out];rfl,by repeat (first | exact Keeps.refl _ | refine Keeps.alloc ?_ _ | refine Keeps.drewN ?_ _)⟩
       ·skip
        cases d1:(inB t.left 0 t.q)
        ·have Hr:Hid (qah t=(false)):=by show _=_;simp [qah,qa1,b1,b2,b3,b4,b5,c1,d0,d1]
         go_enter Tryz.func69,Tryz.ntmps69
         go_wp2_with (first
           | (go_at_call 27;refine (qag _ _ _ _).mono ?_;rintro e w' ⟨rfl,rfl⟩)
           | (go_at_call 109;refine (qa3 _ _ _).mono ?_;rintro e w' ⟨rfl,rfl⟩)
           | (go_at_call 88;refine (qbK _ _).mono ?_;rintro e w' ⟨rfl,rfl⟩)
           | (go_at_call 72;refine (qb4 _ _ _).mono ?_;rintro e w' ⟨rfl,rfl⟩)
           | (go_at_call 108;refine (qco _ _).mono ?_;rintro e w' ⟨rfl,rfl⟩))
         go_ret
         exact ⟨by rw [Hr.out];rfl,by repeat (first | exact Keeps.refl _ | refine Keeps.alloc ?_ _ | refine Keeps.drewN ?_ _)⟩
        ·skip
         have Hr:Hid (qah t=(inB t.due 0 100040)):=by show _=_;simp [qah,qa1,b1,b2,b3,b4,b5,c1,d0,d1]
         go_enter Tryz.func69,Tryz.ntmps69
         go_wp2_with (first
           | (go_at_call 27;refine (qag _ _ _ _).mono ?_;rintro e w' ⟨rfl,rfl⟩)
           | (go_at_call 109;refine (qa3 _ _ _).mono ?_;rintro e w' ⟨rfl,rfl⟩)
           | (go_at_call 88;refine (qbK _ _).mono ?_;rintro e w' ⟨rfl,rfl⟩)
           | (go_at_call 72;refine (qb4 _ _ _).mono ?_;rintro e w' ⟨rfl,rfl⟩)
           | (go_at_call 108;refine (qco _ _).mono ?_;rintro e w' ⟨rfl,rfl⟩))
         go_ret
         exact ⟨by rw [Hr.out];rfl,by repeat (first | exact Keeps.refl _ | refine Keeps.alloc ?_ _ | refine Keeps.drewN ?_ _)⟩
end Go.Proofs.YteagpjlgjfaclaaGreatDoor
