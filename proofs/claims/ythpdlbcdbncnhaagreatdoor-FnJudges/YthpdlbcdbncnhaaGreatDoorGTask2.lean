/-
  What a task is: contracts of the model's functions over one
-/
import Derived.Test.YthpdlbcdbncnhaaGreatDoorGTask1
import Derived.Deep.DeepCutAuto
import Derived.Test.YthpdlbcdbncnhaaGreatDoorGBase1
namespace Go.Proofs.YthpdlbcdbncnhaaGreatDoor
set_option maxRecDepth 100000
open Go.RowKit
def dueZ (t:Tsk):Bool:=t.q==0&&t.p==0&&t.due==0
def fixZ (t:Tsk):Bool:=t.prio==0&&t.round==0&&t.seq==0
def qbP (t:Tsk):Bool:=t.nice==0&&t.v==0
def qbp (t:Tsk):Bool:=if t.cls==1 then fixZ t&&qbP t else if t.cls==2 then dueZ t&&qbP t else dueZ t&&fixZ t&&t.left==0
def qba (t:Tsk):Bool:=if t.cls==1 then okB t.q t.p&&inB t.left 0 t.q&&inB t.due 0 100040 else if t.cls==2 then inB t.prio 1 20&&inB t.round 0 10&&inB t.left (min t.round 1) t.round&&inB t.seq 0 1000000 else inB t.nice (-4) 4&&inB t.v 0 100000000
def qae (t:Tsk):Bool:=inB t.no 1 1000&&inB t.cls 1 3&&inB t.cpu 0 3&&inB t.st 1 2&&qbp t&&qba t
set_option maxHeartbeats 2000000 in
theorem qcH (t:Tsk) (w:World) :
  Calls Tryz.prog 154 #[tk t] w fun e w'=>e = .returned (.bool (qbp t)) /\ w'=w.alloc (.cells (tc t) 47):=by
 go_enter Tryz.func154,Tryz.ntmps154
 go_upto_region 1 with fail
 go_cut [3] (fun c wx=>c = .bool (dueZ t) /\ wx=w.alloc (.cells (tc t) 47))
 case first =>
  cases b0:(t.q==0)
  ·have Hr:Hid (dueZ t=false):=by show _=_;simp [dueZ,b0]
   go_wp2
   go_meet
   exact ⟨by rw [Hr.out],rfl⟩
  cases b1:(t.p==0)
  ·have Hr:Hid (dueZ t=false):=by show _=_;simp [dueZ,b0,b1]
   go_wp2
   go_meet
   exact ⟨by rw [Hr.out],rfl⟩
  have Hr:Hid (dueZ t=(t.due==0)):=by show _=_;simp [dueZ,b0,b1]
  go_wp2
  go_meet
  exact ⟨by rw [Hr.out],rfl⟩
 case rest =>
 obtain ⟨rfl,rfl⟩:=hcut
 go_upto_region 2 with fail
 go_cut [4] (fun c wx=>c = .bool (fixZ t) /\ wx=w.alloc (.cells (tc t) 47))
 case first =>
  cases b0:(t.prio==0)
  ·have Hr:Hid (fixZ t=false):=by show _=_;simp [fixZ,b0]
   go_wp2
   go_meet
   exact ⟨by rw [Hr.out],rfl⟩
  cases b1:(t.round==0)
  ·have Hr:Hid (fixZ t=false):=by show _=_;simp [fixZ,b0,b1]
   go_wp2
   go_meet
   exact ⟨by rw [Hr.out],rfl⟩
  have Hr:Hid (fixZ t=(t.seq==0)):=by show _=_;simp [fixZ,b0,b1]
  go_wp2
  go_meet
  exact ⟨by rw [Hr.out],rfl⟩
 case rest =>
 obtain ⟨rfl,rfl⟩:=hcut
 go_upto_region 3 with fail
 go_cut [5] (fun c wx=>c = .bool (qbP t) /\ wx=w.alloc (.cells (tc t) 47))
 case first =>
  cases b0:(t.nice==0)
  ·have Hr:Hid (qbP t=false):=by show _=_;simp [qbP,b0]
   go_wp2
   go_meet
   exact ⟨by rw [Hr.out],rfl⟩
  have Hr:Hid (qbP t=(t.v==0)):=by show _=_;simp [qbP,b0]
  go_wp2
  go_meet
  exact ⟨by rw [Hr.out],rfl⟩
 case rest =>
 obtain ⟨rfl,rfl⟩:=hcut
 cases c1:(t.cls==1)
 ·cases c2:(t.cls==2)
  ·have Hr:Hid (qbp t=(dueZ t&&fixZ t&&t.left==0)):=by show _=_;simp [qbp,c1,c2]
   generalize dueZ t=d at *
   generalize fixZ t=f at *
   cases d
   ·go_wp2;go_ret;exact ⟨by rw [Hr.out];rfl,rfl⟩
   ·cases f <;> (go_wp2;go_ret;exact ⟨by rw [Hr.out];rfl,rfl⟩)
  ·have Hr:Hid (qbp t=(dueZ t&&qbP t)):=by show _=_;simp [qbp,c1,c2]
   generalize dueZ t=d at *
   cases d <;> (go_wp2;go_ret;exact ⟨by rw [Hr.out];rfl,rfl⟩)
 ·have Hr:Hid (qbp t=(fixZ t&&qbP t)):=by show _=_;simp [qbp,c1]
  generalize fixZ t=f at *
  cases f <;> (go_wp2;go_ret;exact ⟨by rw [Hr.out];rfl,rfl⟩)
theorem qbb (a b:Int) (w:World) :
  Calls Tryz.prog 155 #[.int .i64 a,.int .i64 b] w fun e w'=>e = .returned (.int .i64 (min a b)) /\ w'=w:=by
 by_cases h0:a < b
 ·have Hr:Hid (min a b=a):=by show _=_;omega
  go_enter Tryz.func155,Tryz.ntmps155
  go_wp2
  go_ret
  exact ⟨by rw [Hr.out];rfl,rfl⟩
 ·have Hr:Hid (min a b=b):=by show _=_;omega
  go_enter Tryz.func155,Tryz.ntmps155
  go_wp2
  go_ret
  exact ⟨by rw [Hr.out];rfl,rfl⟩
set_option maxHeartbeats 4000000 in
theorem qn6 (t:Tsk) (w:World) (b1:inB t.no 1 1000=true) (b2:inB t.cls 1 3=true) (b3:inB t.cpu 0 3=true) (b4:inB t.st 1 2=true) (b5:qbp t=true) (c1:(t.cls==1)=false) (c2:(t.cls==2)=true) :
  Calls Tryz.prog 109 #[tk t] w fun e w'=>e = .returned (.bool (inB t.prio 1 20&&inB t.round 0 10&&inB t.left (min t.round 1) t.round&&inB t.seq 0 1000000)) /\ Keeps w w':=by
 go_enter Tryz.func109,Tryz.ntmps109
 go_wp2_with (first
   | (go_at_call 64;refine (qaf _ _ _ _).mono ?_;rintro e w' ⟨rfl,rfl⟩)
   | (go_at_call 154;refine (qcH _ _).mono ?_;rintro e w' ⟨rfl,rfl⟩))
 have kW:Keeps w ((w.alloc (.cells (tc t) 47)).alloc (.cells (tc t) 47)):=((Keeps.refl _).alloc _).alloc _
 have r7:=Keeps.has (W:=((w.alloc (.cells (tc t) 47)).alloc (.cells (tc t) 47))) (b:=w.heap.size) (o:=7) (v := .int .i64 t.left) (by simp [go_sem])
 have r9:=Keeps.has (W:=((w.alloc (.cells (tc t) 47)).alloc (.cells (tc t) 47))) (b:=w.heap.size) (o:=9) (v := .int .i64 t.prio) (by simp [go_sem])
 have r10:=Keeps.has (W:=((w.alloc (.cells (tc t) 47)).alloc (.cells (tc t) 47))) (b:=w.heap.size) (o:=10) (v := .int .i64 t.round) (by simp [go_sem])
 have r11:=Keeps.has (W:=((w.alloc (.cells (tc t) 47)).alloc (.cells (tc t) 47))) (b:=w.heap.size) (o:=11) (v := .int .i64 t.seq) (by simp [go_sem])
 generalize ((w.alloc (.cells (tc t) 47)).alloc (.cells (tc t) 47))=W at *
 have K0:Keeps W W:=Keeps.refl _
 cases d0:inB t.prio 1 20
 ·skip
  have Hr:Hid ((inB t.prio 1 20&&inB t.round 0 10&&inB t.left (min t.round 1) t.round&&inB t.seq 0 1000000)=(false)):=by show _=_;simp [d0]
  refine wp_region_held_drew (S:=(fun w'=>Keeps W w')) (by kernel_rfl) ?_ (fun hHeld => ?_)
  ·exact K0.drew
  refine Plan.go [0,1] ?_
  iterate 2 (refine qac (by simp only [qab];rfl) (by kernel_rfl) (by exact fun _ _ _ h=>h) (by rfl) (by assumption) (fun w _=>by go_simp;try (with_reducible rfl)) ?_;try simp only [qaa])
  refine Plan.nil ?_
  refine qad 2 (by kernel_rfl) (by simp only [qab];rfl) (fun K hK => ?_)
  go_simp
  first
    | (go_at_call 64;refine (qaf _ _ _ _).mono ?_;rintro e w' ⟨rfl,rfl⟩)
    | (go_at_call 155;refine (qbb _ _ _).mono ?_;rintro e w' ⟨rfl,rfl⟩)
  try go_wp2_with fail
  refine hK.out _ _ ?_ (fun hHeld => ?_)
  ·assumption
  clear hK K
  try simp only [qaa]
  refine qan 3 (v := ?_) (by simp only [qab];rfl) (by kernel_rfl) (by exact fun _ _ _ h=>h) (by rfl) (by assumption) ?_ ?_
  rotate_left
  ·(intro w _;go_simp;try (with_reducible rfl))
  try simp only [qaa]
  refine Plan.go [4,5,6] ?_
  iterate 3 (refine qaq (by simp only [qab];rfl) (by kernel_rfl) (by exact fun _ _ _ h=>h) (by rfl) (by assumption) ?_;try simp only [qaa])
  refine Plan.nil ?_
  refine Plan.go [7,8] ?_
  iterate 2 (refine qac (by simp only [qab];rfl) (by kernel_rfl) (by exact fun _ _ _ h=>h) (by rfl) (by assumption) (fun w _=>by go_simp;try (with_reducible rfl)) ?_;try simp only [qaa])
  refine Plan.nil ?_
  refine Plan.go [9,10,11,12,13,14,15,16] ?_
  iterate 8 (refine qaq (by simp only [qab];rfl) (by kernel_rfl) (by exact fun _ _ _ h=>h) (by rfl) (by assumption) ?_;try simp only [qaa])
  refine Plan.nil ?_
  refine Plan.go [17,18] ?_
  iterate 2 (refine qac (by simp only [qab];rfl) (by kernel_rfl) (by exact fun _ _ _ h=>h) (by rfl) (by assumption) (fun w _=>by go_simp;try (with_reducible rfl)) ?_;try simp only [qaa])
  refine Plan.nil ?_
  refine Plan.go [19,20,21] ?_
  iterate 3 (refine qaq (by simp only [qab];rfl) (by kernel_rfl) (by exact fun _ _ _ h=>h) (by rfl) (by assumption) ?_;try simp only [qaa])
  refine Plan.nil ?_
  refine Plan.go [22,23] ?_
  iterate 2 (refine qac (by simp only [qab];rfl) (by kernel_rfl) (by exact fun _ _ _ h=>h) (by rfl) (by assumption) (fun w _=>by go_simp;try (with_reducible rfl)) ?_;try simp only [qaa])
  refine Plan.nil ?_
  refine wpAnyH_done (by kernel_rfl) ?_ _
  go_wp2
  go_ret
  exact ⟨by rw [Hr.out];rfl,kW.trans (by assumption)⟩
 ·skip
  cases d1:inB t.round 0 10
  ·skip
   have Hr:Hid ((inB t.prio 1 20&&inB t.round 0 10&&inB t.left (min t.round 1) t.round&&inB t.seq 0 1000000)=(false)):=by show _=_;simp [d0,d1]
   refine wp_region_held_drew (S:=(fun w'=>Keeps W w')) (by kernel_rfl) ?_ (fun hHeld => ?_)
   ·exact K0.drew
   refine Plan.go [0,1] ?_
   iterate 2 (refine qac (by simp only [qab];rfl) (by kernel_rfl) (by exact fun _ _ _ h=>h) (by rfl) (by assumption) (fun w _=>by go_simp;try (with_reducible rfl)) ?_;try simp only [qaa])
   refine Plan.nil ?_
   refine qad 2 (by kernel_rfl) (by simp only [qab];rfl) (fun K hK => ?_)
   go_simp
   first
    | (go_at_call 64;refine (qaf _ _ _ _).mono ?_;rintro e w' ⟨rfl,rfl⟩)
    | (go_at_call 155;refine (qbb _ _ _).mono ?_;rintro e w' ⟨rfl,rfl⟩)
   try go_wp2_with fail
   refine hK.out _ _ ?_ (fun hHeld => ?_)
   ·assumption
   clear hK K
   try simp only [qaa]
   refine Plan.go [3,4,5] ?_
   iterate 3 (refine qac (by simp only [qab];rfl) (by kernel_rfl) (by exact fun _ _ _ h=>h) (by rfl) (by assumption) (fun w _=>by go_simp;try (with_reducible rfl)) ?_;try simp only [qaa])
   refine Plan.nil ?_
   refine qad 6 (by kernel_rfl) (by simp only [qab];rfl) (fun K hK => ?_)
   go_simp
   first
    | (go_at_call 64;refine (qaf _ _ _ _).mono ?_;rintro e w' ⟨rfl,rfl⟩)
    | (go_at_call 155;refine (qbb _ _ _).mono ?_;rintro e w' ⟨rfl,rfl⟩)
   try go_wp2_with fail
   refine hK.out _ _ ?_ (fun hHeld => ?_)
   ·assumption
   clear hK K
   try simp only [qaa]
   refine Plan.go [7,8] ?_
   iterate 2 (refine qac (by simp only [qab];rfl) (by kernel_rfl) (by exact fun _ _ _ h=>h) (by rfl) (by assumption) (fun w _=>by go_simp;try (with_reducible rfl)) ?_;try simp only [qaa])
   refine Plan.nil ?_
   refine Plan.go [9,10,11,12,13,14,15,16] ?_
   iterate 8 (refine qaq (by simp only [qab];rfl) (by kernel_rfl) (by exact fun _ _ _ h=>h) (by rfl) (by assumption) ?_;try simp only [qaa])
   refine Plan.nil ?_
   refine Plan.go [17,18] ?_
   iterate 2 (refine qac (by simp only [qab];rfl) (by kernel_rfl) (by exact fun _ _ _ h=>h) (by rfl) (by assumption) (fun w _=>by go_simp;try (with_reducible rfl)) ?_;try simp only [qaa])
   refine Plan.nil ?_
   refine Plan.go [19,20,21] ?_
   iterate 3 (refine qaq (by simp only [qab];rfl) (by kernel_rfl) (by exact fun _ _ _ h=>h) (by rfl) (by assumption) ?_;try simp only [qaa])
   refine Plan.nil ?_
   refine Plan.go [22,23] ?_
   iterate 2 (refine qac (by simp only [qab];rfl) (by kernel_rfl) (by exact fun _ _ _ h=>h) (by rfl) (by assumption) (fun w _=>by go_simp;try (with_reducible rfl)) ?_;try simp only [qaa])
   refine Plan.nil ?_
   refine wpAnyH_done (by kernel_rfl) ?_ _
   go_wp2
   go_ret
   exact ⟨by rw [Hr.out];rfl,kW.trans (by assumption)⟩
  ·skip
   cases d2:inB t.left (min t.round 1) t.round
   ·skip
    have Hr:Hid ((inB t.prio 1 20&&inB t.round 0 10&&inB t.left (min t.round 1) t.round&&inB t.seq 0 1000000)=(false)):=by show _=_;simp [d0,d1,d2]
    refine wp_region_held_drew (S:=(fun w'=>Keeps W w')) (by kernel_rfl) ?_ (fun hHeld => ?_)
    ·exact K0.drew
    refine Plan.go [0,1] ?_
    iterate 2 (refine qac (by simp only [qab];rfl) (by kernel_rfl) (by exact fun _ _ _ h=>h) (by rfl) (by assumption) (fun w _=>by go_simp;try (with_reducible rfl)) ?_;try simp only [qaa])
    refine Plan.nil ?_
    refine qad 2 (by kernel_rfl) (by simp only [qab];rfl) (fun K hK => ?_)
    go_simp
    first
    | (go_at_call 64;refine (qaf _ _ _ _).mono ?_;rintro e w' ⟨rfl,rfl⟩)
    | (go_at_call 155;refine (qbb _ _ _).mono ?_;rintro e w' ⟨rfl,rfl⟩)
    try go_wp2_with fail
    refine hK.out _ _ ?_ (fun hHeld => ?_)
    ·assumption
    clear hK K
    try simp only [qaa]
    refine Plan.go [3,4,5] ?_
    iterate 3 (refine qac (by simp only [qab];rfl) (by kernel_rfl) (by exact fun _ _ _ h=>h) (by rfl) (by assumption) (fun w _=>by go_simp;try (with_reducible rfl)) ?_;try simp only [qaa])
    refine Plan.nil ?_
    refine qad 6 (by kernel_rfl) (by simp only [qab];rfl) (fun K hK => ?_)
    go_simp
    first
    | (go_at_call 64;refine (qaf _ _ _ _).mono ?_;rintro e w' ⟨rfl,rfl⟩)
    | (go_at_call 155;refine (qbb _ _ _).mono ?_;rintro e w' ⟨rfl,rfl⟩)
    try go_wp2_with fail
    refine hK.out _ _ ?_ (fun hHeld => ?_)
    ·assumption
    clear hK K
    try simp only [qaa]
    refine Plan.go [7,8,9,10,11,12,14,15] ?_
    iterate 8 (refine qac (by simp only [qab];rfl) (by kernel_rfl) (by exact fun _ _ _ h=>h) (by rfl) (by assumption) (fun w _=>by go_simp;try (with_reducible rfl)) ?_;try simp only [qaa])
    refine Plan.nil ?_
    refine qad 13 (by kernel_rfl) (by simp only [qab];rfl) (fun K hK => ?_)
    go_simp
    first
    | (go_at_call 64;refine (qaf _ _ _ _).mono ?_;rintro e w' ⟨rfl,rfl⟩)
    | (go_at_call 155;refine (qbb _ _ _).mono ?_;rintro e w' ⟨rfl,rfl⟩)
    try go_wp2_with fail
    refine hK.out _ _ ?_ (fun hHeld => ?_)
    ·assumption
    clear hK K
    try simp only [qaa]
    refine qad 16 (by kernel_rfl) (by simp only [qab];rfl) (fun K hK => ?_)
    go_simp
    first
    | (go_at_call 64;refine (qaf _ _ _ _).mono ?_;rintro e w' ⟨rfl,rfl⟩)
    | (go_at_call 155;refine (qbb _ _ _).mono ?_;rintro e w' ⟨rfl,rfl⟩)
    try go_wp2_with fail
    refine hK.out _ _ ?_ (fun hHeld => ?_)
    ·assumption
    clear hK K
    try simp only [qaa]
    refine Plan.go [17,18] ?_
    iterate 2 (refine qac (by simp only [qab];rfl) (by kernel_rfl) (by exact fun _ _ _ h=>h) (by rfl) (by assumption) (fun w _=>by go_simp;try (with_reducible rfl)) ?_;try simp only [qaa])
    refine Plan.nil ?_
    refine Plan.go [19,20,21] ?_
    iterate 3 (refine qaq (by simp only [qab];rfl) (by kernel_rfl) (by exact fun _ _ _ h=>h) (by rfl) (by assumption) ?_;try simp only [qaa])
    refine Plan.nil ?_
    refine Plan.go [22,23] ?_
    iterate 2 (refine qac (by simp only [qab];rfl) (by kernel_rfl) (by exact fun _ _ _ h=>h) (by rfl) (by assumption) (fun w _=>by go_simp;try (with_reducible rfl)) ?_;try simp only [qaa])
    refine Plan.nil ?_
    refine wpAnyH_done (by kernel_rfl) ?_ _
    go_wp2
    go_ret
    exact ⟨by rw [Hr.out];rfl,kW.trans (by assumption)⟩
   ·skip
    have Hr:Hid ((inB t.prio 1 20&&inB t.round 0 10&&inB t.left (min t.round 1) t.round&&inB t.seq 0 1000000)=(inB t.seq 0 1000000)):=by show _=_;simp [d0,d1,d2]
    refine wp_region_held_drew (S:=(fun w'=>Keeps W w')) (by kernel_rfl) ?_ (fun hHeld => ?_)
    ·exact K0.drew
    refine Plan.go [0,1] ?_
    iterate 2 (refine qac (by simp only [qab];rfl) (by kernel_rfl) (by exact fun _ _ _ h=>h) (by rfl) (by assumption) (fun w _=>by go_simp;try (with_reducible rfl)) ?_;try simp only [qaa])
    refine Plan.nil ?_
    refine qad 2 (by kernel_rfl) (by simp only [qab];rfl) (fun K hK => ?_)
    go_simp
    first
    | (go_at_call 64;refine (qaf _ _ _ _).mono ?_;rintro e w' ⟨rfl,rfl⟩)
    | (go_at_call 155;refine (qbb _ _ _).mono ?_;rintro e w' ⟨rfl,rfl⟩)
    try go_wp2_with fail
    refine hK.out _ _ ?_ (fun hHeld => ?_)
    ·assumption
    clear hK K
    try simp only [qaa]
    refine Plan.go [3,4,5] ?_
    iterate 3 (refine qac (by simp only [qab];rfl) (by kernel_rfl) (by exact fun _ _ _ h=>h) (by rfl) (by assumption) (fun w _=>by go_simp;try (with_reducible rfl)) ?_;try simp only [qaa])
    refine Plan.nil ?_
    refine qad 6 (by kernel_rfl) (by simp only [qab];rfl) (fun K hK => ?_)
    go_simp
    first
    | (go_at_call 64;refine (qaf _ _ _ _).mono ?_;rintro e w' ⟨rfl,rfl⟩)
    | (go_at_call 155;refine (qbb _ _ _).mono ?_;rintro e w' ⟨rfl,rfl⟩)
    try go_wp2_with fail
    refine hK.out _ _ ?_ (fun hHeld => ?_)
    ·assumption
    clear hK K
    try simp only [qaa]
    refine Plan.go [7,8,9,10,11,12,14,15] ?_
    iterate 8 (refine qac (by simp only [qab];rfl) (by kernel_rfl) (by exact fun _ _ _ h=>h) (by rfl) (by assumption) (fun w _=>by go_simp;try (with_reducible rfl)) ?_;try simp only [qaa])
    refine Plan.nil ?_
    refine qad 13 (by kernel_rfl) (by simp only [qab];rfl) (fun K hK => ?_)
    go_simp
    first
    | (go_at_call 64;refine (qaf _ _ _ _).mono ?_;rintro e w' ⟨rfl,rfl⟩)
    | (go_at_call 155;refine (qbb _ _ _).mono ?_;rintro e w' ⟨rfl,rfl⟩)
    try go_wp2_with fail
    refine hK.out _ _ ?_ (fun hHeld => ?_)
    ·assumption
    clear hK K
    try simp only [qaa]
    refine qad 16 (by kernel_rfl) (by simp only [qab];rfl) (fun K hK => ?_)
    go_simp
    first
    | (go_at_call 64;refine (qaf _ _ _ _).mono ?_;rintro e w' ⟨rfl,rfl⟩)
    | (go_at_call 155;refine (qbb _ _ _).mono ?_;rintro e w' ⟨rfl,rfl⟩)
    try go_wp2_with fail
    refine hK.out _ _ ?_ (fun hHeld => ?_)
    ·assumption
    clear hK K
    try simp only [qaa]
    refine Plan.go [17,18,19,20] ?_
    iterate 4 (refine qac (by simp only [qab];rfl) (by kernel_rfl) (by exact fun _ _ _ h=>h) (by rfl) (by assumption) (fun w _=>by go_simp;try (with_reducible rfl)) ?_;try simp only [qaa])
    refine Plan.nil ?_
    refine qad 21 (by kernel_rfl) (by simp only [qab];rfl) (fun K hK => ?_)
    go_simp
    first
    | (go_at_call 64;refine (qaf _ _ _ _).mono ?_;rintro e w' ⟨rfl,rfl⟩)
    | (go_at_call 155;refine (qbb _ _ _).mono ?_;rintro e w' ⟨rfl,rfl⟩)
    try go_wp2_with fail
    refine hK.out _ _ ?_ (fun hHeld => ?_)
    ·assumption
    clear hK K
    try simp only [qaa]
    refine Plan.go [22,23] ?_
    iterate 2 (refine qac (by simp only [qab];rfl) (by kernel_rfl) (by exact fun _ _ _ h=>h) (by rfl) (by assumption) (fun w _=>by go_simp;try (with_reducible rfl)) ?_;try simp only [qaa])
    refine Plan.nil ?_
    refine wpAnyH_done (by kernel_rfl) ?_ _
    go_wp2
    go_ret
    exact ⟨by rw [Hr.out];rfl,kW.trans (by assumption)⟩
set_option maxHeartbeats 4000000 in
theorem qcT (t:Tsk) (w:World) :
  Calls Tryz.prog 109 #[tk t] w fun e w'=>e = .returned (.bool (qae t)) /\ Keeps w w':=by
 cases b1:inB t.no 1 1000
 ·have Hr:Hid (qae t=(false)):=by show _=_;simp [qae,qba,b1]
  go_enter Tryz.func109,Tryz.ntmps109
  go_wp2_with (first
    | (go_at_call 64;refine (qaf _ _ _ _).mono ?_;rintro e w' ⟨rfl,rfl⟩)
    | (go_at_call 155;refine (qbb _ _ _).mono ?_;rintro e w' ⟨rfl,rfl⟩)
    | (go_at_call 156;refine (qbX _ _).mono ?_;rintro e w' ⟨rfl,rfl⟩)
    | (go_at_call 115;refine (qch _ _ _).mono ?_;rintro e w' ⟨rfl,rfl⟩)
    | (go_at_call 154;refine (qcH _ _).mono ?_;rintro e w' ⟨rfl,rfl⟩))
  go_ret
  exact ⟨by rw [Hr.out];rfl,by repeat (first | exact Keeps.refl _ | refine Keeps.alloc ?_ _ | refine Keeps.drewN ?_ _)⟩
 ·skip
  cases b2:inB t.cls 1 3
  ·have Hr:Hid (qae t=(false)):=by show _=_;simp [qae,qba,b1,b2]
   go_enter Tryz.func109,Tryz.ntmps109
   go_wp2_with (first
     | (go_at_call 64;refine (qaf _ _ _ _).mono ?_;rintro e w' ⟨rfl,rfl⟩)
     | (go_at_call 155;refine (qbb _ _ _).mono ?_;rintro e w' ⟨rfl,rfl⟩)
     | (go_at_call 156;refine (qbX _ _).mono ?_;rintro e w' ⟨rfl,rfl⟩)
     | (go_at_call 115;refine (qch _ _ _).mono ?_;rintro e w' ⟨rfl,rfl⟩)
     | (go_at_call 154;refine (qcH _ _).mono ?_;rintro e w' ⟨rfl,rfl⟩))
   go_ret
   exact ⟨by rw [Hr.out];rfl,by repeat (first | exact Keeps.refl _ | refine Keeps.alloc ?_ _ | refine Keeps.drewN ?_ _)⟩
  ·skip
   cases b3:inB t.cpu 0 3
   ·have Hr:Hid (qae t=(false)):=by show _=_;simp [qae,qba,b1,b2,b3]
    go_enter Tryz.func109,Tryz.ntmps109
    go_wp2_with (first
      | (go_at_call 64;refine (qaf _ _ _ _).mono ?_;rintro e w' ⟨rfl,rfl⟩)
      | (go_at_call 155;refine (qbb _ _ _).mono ?_;rintro e w' ⟨rfl,rfl⟩)
      | (go_at_call 156;refine (qbX _ _).mono ?_;rintro e w' ⟨rfl,rfl⟩)
      | (go_at_call 115;refine (qch _ _ _).mono ?_;rintro e w' ⟨rfl,rfl⟩)
      | (go_at_call 154;refine (qcH _ _).mono ?_;rintro e w' ⟨rfl,rfl⟩))
    go_ret
    exact ⟨by rw [Hr.out];rfl,by repeat (first | exact Keeps.refl _ | refine Keeps.alloc ?_ _ | refine Keeps.drewN ?_ _)⟩
   ·skip
    cases b4:inB t.st 1 2
    ·have Hr:Hid (qae t=(false)):=by show _=_;simp [qae,qba,b1,b2,b3,b4]
     go_enter Tryz.func109,Tryz.ntmps109
     go_wp2_with (first
       | (go_at_call 64;refine (qaf _ _ _ _).mono ?_;rintro e w' ⟨rfl,rfl⟩)
       | (go_at_call 155;refine (qbb _ _ _).mono ?_;rintro e w' ⟨rfl,rfl⟩)
       | (go_at_call 156;refine (qbX _ _).mono ?_;rintro e w' ⟨rfl,rfl⟩)
       | (go_at_call 115;refine (qch _ _ _).mono ?_;rintro e w' ⟨rfl,rfl⟩)
       | (go_at_call 154;refine (qcH _ _).mono ?_;rintro e w' ⟨rfl,rfl⟩))
     go_ret
     exact ⟨by rw [Hr.out];rfl,by repeat (first | exact Keeps.refl _ | refine Keeps.alloc ?_ _ | refine Keeps.drewN ?_ _)⟩
    ·skip
     cases b5:qbp t
     ·have Hr:Hid (qae t=(false)):=by show _=_;simp [qae,qba,b1,b2,b3,b4,b5]
      go_enter Tryz.func109,Tryz.ntmps109
      go_wp2_with (first
        | (go_at_call 64;refine (qaf _ _ _ _).mono ?_;rintro e w' ⟨rfl,rfl⟩)
        | (go_at_call 155;refine (qbb _ _ _).mono ?_;rintro e w' ⟨rfl,rfl⟩)
        | (go_at_call 156;refine (qbX _ _).mono ?_;rintro e w' ⟨rfl,rfl⟩)
        | (go_at_call 115;refine (qch _ _ _).mono ?_;rintro e w' ⟨rfl,rfl⟩)
        | (go_at_call 154;refine (qcH _ _).mono ?_;rintro e w' ⟨rfl,rfl⟩))
      go_ret
      exact ⟨by rw [Hr.out];rfl,by repeat (first | exact Keeps.refl _ | refine Keeps.alloc ?_ _ | refine Keeps.drewN ?_ _)⟩
     ·skip
      cases c1:(t.cls==1)
      ·cases c2:(t.cls==2)
       ·skip
        cases d0:(inB t.nice (-4) 4)
        ·have Hr:Hid (qae t=(false)):=by show _=_;simp [qae,qba,b1,b2,b3,b4,b5,c1,c2,d0]
         go_enter Tryz.func109,Tryz.ntmps109
         go_wp2_with (first
           | (go_at_call 64;refine (qaf _ _ _ _).mono ?_;rintro e w' ⟨rfl,rfl⟩)
           | (go_at_call 155;refine (qbb _ _ _).mono ?_;rintro e w' ⟨rfl,rfl⟩)
           | (go_at_call 156;refine (qbX _ _).mono ?_;rintro e w' ⟨rfl,rfl⟩)
           | (go_at_call 115;refine (qch _ _ _).mono ?_;rintro e w' ⟨rfl,rfl⟩)
           | (go_at_call 154;refine (qcH _ _).mono ?_;rintro e w' ⟨rfl,rfl⟩))
         go_ret
         exact ⟨by rw [Hr.out];rfl,by repeat (first | exact Keeps.refl _ | refine Keeps.alloc ?_ _ | refine Keeps.drewN ?_ _)⟩
        ·skip
         have Hr:Hid (qae t=(inB t.v 0 100000000)):=by show _=_;simp [qae,qba,b1,b2,b3,b4,b5,c1,c2,d0]
         go_enter Tryz.func109,Tryz.ntmps109
         go_wp2_with (first
           | (go_at_call 64;refine (qaf _ _ _ _).mono ?_;rintro e w' ⟨rfl,rfl⟩)
           | (go_at_call 155;refine (qbb _ _ _).mono ?_;rintro e w' ⟨rfl,rfl⟩)
           | (go_at_call 156;refine (qbX _ _).mono ?_;rintro e w' ⟨rfl,rfl⟩)
           | (go_at_call 115;refine (qch _ _ _).mono ?_;rintro e w' ⟨rfl,rfl⟩)
           | (go_at_call 154;refine (qcH _ _).mono ?_;rintro e w' ⟨rfl,rfl⟩))
         go_ret
         exact ⟨by rw [Hr.out];rfl,by repeat (first | exact Keeps.refl _ | refine Keeps.alloc ?_ _ | refine Keeps.drewN ?_ _)⟩
       ·skip
        exact (qn6 t w b1 b2 b3 b4 b5 c1 c2).mono (by rintro e w' ⟨rfl,hk⟩;exact ⟨by simp [qae,qba,b1,b2,b3,b4,b5,c1,c2],hk⟩)
      ·skip
       cases d0:(okB t.q t.p)
       ·have Hr:Hid (qae t=(false)):=by show _=_;simp [qae,qba,b1,b2,b3,b4,b5,c1,d0]
        go_enter Tryz.func109,Tryz.ntmps109
        go_wp2_with (first
          | (go_at_call 64;refine (qaf _ _ _ _).mono ?_;rintro e w' ⟨rfl,rfl⟩)
          | (go_at_call 155;refine (qbb _ _ _).mono ?_;rintro e w' ⟨rfl,rfl⟩)
          | (go_at_call 156;refine (qbX _ _).mono ?_;rintro e w' ⟨rfl,rfl⟩)
          | (go_at_call 115;refine (qch _ _ _).mono ?_;rintro e w' ⟨rfl,rfl⟩)
          | (go_at_call 154;refine (qcH _ _).mono ?_;rintro e w' ⟨rfl,rfl⟩))
        go_ret
        exact ⟨by rw [Hr.out];rfl,by repeat (first | exact Keeps.refl _ | refine Keeps.alloc ?_ _ | refine Keeps.drewN ?_ _)⟩
       ·skip
        cases d1:(inB t.left 0 t.q)
        ·have Hr:Hid (qae t=(false)):=by show _=_;simp [qae,qba,b1,b2,b3,b4,b5,c1,d0,d1]
         go_enter Tryz.func109,Tryz.ntmps109
         go_wp2_with (first
           | (go_at_call 64;refine (qaf _ _ _ _).mono ?_;rintro e w' ⟨rfl,rfl⟩)
           | (go_at_call 155;refine (qbb _ _ _).mono ?_;rintro e w' ⟨rfl,rfl⟩)
           | (go_at_call 156;refine (qbX _ _).mono ?_;rintro e w' ⟨rfl,rfl⟩)
           | (go_at_call 115;refine (qch _ _ _).mono ?_;rintro e w' ⟨rfl,rfl⟩)
           | (go_at_call 154;refine (qcH _ _).mono ?_;rintro e w' ⟨rfl,rfl⟩))
         go_ret
         exact ⟨by rw [Hr.out];rfl,by repeat (first | exact Keeps.refl _ | refine Keeps.alloc ?_ _ | refine Keeps.drewN ?_ _)⟩
        ·skip
         have Hr:Hid (qae t=(inB t.due 0 100040)):=by show _=_;simp [qae,qba,b1,b2,b3,b4,b5,c1,d0,d1]
         go_enter Tryz.func109,Tryz.ntmps109
         go_wp2_with (first
           | (go_at_call 64;refine (qaf _ _ _ _).mono ?_;rintro e w' ⟨rfl,rfl⟩)
           | (go_at_call 155;refine (qbb _ _ _).mono ?_;rintro e w' ⟨rfl,rfl⟩)
           | (go_at_call 156;refine (qbX _ _).mono ?_;rintro e w' ⟨rfl,rfl⟩)
           | (go_at_call 115;refine (qch _ _ _).mono ?_;rintro e w' ⟨rfl,rfl⟩)
           | (go_at_call 154;refine (qcH _ _).mono ?_;rintro e w' ⟨rfl,rfl⟩))
         go_ret
         exact ⟨by rw [Hr.out];rfl,by repeat (first | exact Keeps.refl _ | refine Keeps.alloc ?_ _ | refine Keeps.drewN ?_ _)⟩
end Go.Proofs.YthpdlbcdbncnhaaGreatDoor
namespace Go.Proofs.YthpdlbcdbncnhaaGreatDoor
set_option maxRecDepth 100000
open Go.RowKit
attribute [local go_sem] Keeps.refl Keeps.alloc Keeps.drew Keeps.drewN
def qeT (x:Int):Int :=
 if x = -4 then 24 else if x = -3 then 16 else if x = -2 then 12 else if x = -1 then 8 else if x=0 then 6 else if x=1 then 4 else if x=2 then 3 else if x=3 then 2 else if x=4 then 1 else 0
def qaY (x:Int):Int :=
 if x = -4 then 2 else if x = -3 then 3 else if x = -2 then 4 else if x = -1 then 6 else if x=0 then 8 else if x=1 then 12 else if x=2 then 16 else if x=3 then 24 else if x=4 then 48 else 0
theorem nine {x:Int} (h1 : -4 <= x) (h2:x <= 4):x = -4∨x = -3∨x = -2∨x = -1∨x=0∨x=1∨x=2∨x=3∨x=4:=by omega
theorem qn7 {x:Int} (h:inB x (-4) 4=false):qeT x=0:=by
 have hh:¬ (-4 <= x /\ x <= 4):=fun h'=>by rw [qap.2 h'] at h;cases h
 unfold qeT
 repeat rw [if_neg (by omega)]
theorem qn8 {x:Int} (h:inB x (-4) 4=false):qaY x=0:=by
 have hh:¬ (-4 <= x /\ x <= 4):=fun h'=>by rw [qap.2 h'] at h;cases h
 unfold qaY
 repeat rw [if_neg (by omega)]
set_option maxHeartbeats 1000000 in
theorem qn9 (x:Int) (w:World) :
  Calls Tryz.prog 259 #[.int .i64 x] w fun e w'=>e = .returned (.int .i64 (qeT x)) /\ Keeps w w':=by
 cases h:inB x (-4) 4
 ·have Hr:Hid (qeT x=0):=qn7 h
  go_enter Tryz.func259,Tryz.ntmps259
  go_wp2_with (go_at_call 156;refine (qbX _ _).mono ?_;rintro e w' ⟨rfl,rfl⟩)
  go_ret
  exact ⟨by rw [Hr.out];rfl,Keeps.refl _⟩
 ·obtain ⟨h1,h2⟩:=qap.1 h
  rcases nine h1 h2 with rfl | rfl | rfl | rfl | rfl | rfl | rfl | rfl | rfl <;>
  ·clear h h1 h2
   go_enter Tryz.func259,Tryz.ntmps259
   go_wp2_with (go_at_call 156;refine (qbX _ _).mono ?_;rintro e w' ⟨rfl,rfl⟩)
   go_ret
   exact ⟨rfl,(Keeps.refl _).alloc _⟩
set_option maxHeartbeats 1000000 in
theorem qiT (x:Int) (w:World) :
  Calls Tryz.prog 258 #[.int .i64 x] w fun e w'=>e = .returned (.int .i64 (qaY x)) /\ Keeps w w':=by
 cases h:inB x (-4) 4
 ·have Hr:Hid (qaY x=0):=qn8 h
  go_enter Tryz.func258,Tryz.ntmps258
  go_wp2_with (go_at_call 156;refine (qbX _ _).mono ?_;rintro e w' ⟨rfl,rfl⟩)
  go_ret
  exact ⟨by rw [Hr.out];rfl,Keeps.refl _⟩
 ·obtain ⟨h1,h2⟩:=qap.1 h
  rcases nine h1 h2 with rfl | rfl | rfl | rfl | rfl | rfl | rfl | rfl | rfl <;>
  ·clear h h1 h2
   go_enter Tryz.func258,Tryz.ntmps258
   go_wp2_with (first
    | (go_at_call 156;refine (qbX _ _).mono ?_;rintro e w' ⟨rfl,rfl⟩)
    | (go_at_call 259;refine (qn9 _ _).mono ?_;rintro e w' ⟨rfl,k⟩))
   go_ret
   exact ⟨congrArg (fun z=>Ending.returned (Value.int .i64 z)) (show wrap64 (Int.tdiv 48 (qeT _))=qaY _ by kernel_rfl),k⟩
abbrev Ts (w:World) (a:Option Addr) (ts:List Tsk):Prop:=Lies 14 tc w a ts
theorem qbB {α:Type} {xs:List α} {k:Nat} (h:k < xs.length):∃ x,xs[k]?=some x:=⟨xs[k],List.getElem?_eq_getElem h⟩
def qar (ts:List Tsk) (no:Int):Int:=match ts.findIdx? (fun t=>t.no==no) with
 | some i=>i
 | none => -1
set_option maxHeartbeats 1000000 in
theorem qoa (a:Option Addr) (cap:Nat) (ts:List Tsk) (no:Int) (w:World) (hl:ts.length <= maxLen) (hs:Ts w a ts) :
  Calls Tryz.prog 36 #[.slice a ts.length cap,.int .i64 no] w fun e w'=>e = .returned (.int .i64 (qar ts no)) /\ Keeps w w':=by
 unfold maxLen at hl
 generalize hn:ts.length=n at hl
 have Hn:Hid (ts.length=n):=hn
 clear hn
 go_enter Tryz.func36,Tryz.ntmps36
 go_wp2
 go_loopw [5] (fun i wr=>∃ k:Nat,k <= n /\ i = .int .i64 k /\ Keeps w wr /\ Hid (∀ j t,j < k->ts[j]?=some t->(t.no==no)=false)) (fun i _=>n - (intOf i).toNat)
 case atStart=>exact ⟨0,Nat.zero_le _,rfl,Keeps.refl _,fun j t hj=>by omega⟩
 case round =>
  obtain ⟨k,hk,rfl,hK,H⟩:=hrel
  by_cases hlt:k < n
  ·obtain ⟨t,ht⟩:=qbB (xs:=ts) (k:=k) (by rw [Hn.out];exact hlt)
   obtain ⟨b,off,rfl,r0,r1⟩:=hs.at ht (by omega)
   have hlt':(k:Int) < (n:Int):=by omega
   have Ht:Hid (ts[k]?=some t):=ht
   clear hs ht
   cases hq:(t.no==no)
   ·go_wp2
    exact ⟨⟨k+1,by omega,by go_num,hK,fun j s hj hs=>by
     by_cases e:j=k
     ·subst e;rw [Ht.out] at hs;cases hs;exact hq
     ·exact H.out j s (by omega) hs⟩,by simp only [intOf];omega⟩
   ·have Hr:Hid (qar ts no=k):=by
     show _=_
     have:ts.findIdx? (fun t=>t.no==no)=some k:=by
      rw [List.findIdx?_eq_some_iff_getElem]
      have hk':k < ts.length:=by rw [Hn.out];exact hlt
      have e1:ts[k]=t:=by have:=Ht.out;rw [List.getElem?_eq_getElem hk'] at this;simpa using this
      refine ⟨hk',by rw [e1];exact hq,fun j hj => ?_⟩
      have:=H.out j ts[j] (by omega) (List.getElem?_eq_getElem _)
      simp [this]
     simp [qar,this]
    go_wp2
    go_ret
    exact ⟨by rw [Hr.out];rfl,hK⟩
  ·have Hr:Hid (qar ts no = -1):=by
    show _=_
    have:ts.findIdx? (fun t=>t.no==no)=none:=by
     rw [List.findIdx?_eq_none_iff]
     intro t ht
     obtain ⟨j,hj,rfl⟩:=List.mem_iff_getElem.1 ht
     exact H.out j _ (by have:=Hn.out;omega) (List.getElem?_eq_getElem hj)
    simp [qar,this]
   go_wp2
   go_ret
   exact ⟨by rw [Hr.out];rfl,hK⟩
end Go.Proofs.YthpdlbcdbncnhaaGreatDoor
