/-
  New tasks: contracts of the model's functions. What is a ni
-/
import Derived.Test.YthpdlbcdbncnhaaGreatDoorGTask2
import Derived.Test.YthpdlbcdbncnhaaGreatDoorGBase1
import Derived.Test.YthpdlbcdbncnhaaGreatDoorGTask1
namespace Go.Proofs.YthpdlbcdbncnhaaGreatDoor
open Go.RowKit
def newT (t:Tsk):Tsk:=if qae t then t else Tsk.zero
set_option maxHeartbeats 2000000 in
theorem qgu (t:Tsk) (w:World) :
  Calls Tryz.prog 222 #[tk t] w fun e w'=>e = .returned (.tuple #[tk (newT t),.bool (qae t)]) /\ Keeps w w':=by
 go_enter Tryz.func222,Tryz.ntmps222
 go_wp2_with fail
 have kW:Keeps w ((w.alloc (.cells (tc t) 47)).alloc (.cells (tc Tsk.zero) 47)):=((Keeps.refl _).alloc _).alloc _
 have B0:=(Blk.new w (tc t) 47).alloc (.cells (tc Tsk.zero) 47)
 have B1:=Blk.new (w.alloc (.cells (tc t) 47)) (tc Tsk.zero) 47
 rw [show (w.alloc (.cells (tc t) 47)).heap.size=w.heap.size+1 by simp] at B1
 refine (qcT t _).mono ?_
 rintro e w1 ⟨rfl,k1⟩
 have C0:=B0.keeps k1
 have C1:=B1.keeps k1
 have k2:=kW.trans k1
 clear B0 B1 k1 kW
 obtain ⟨_,r1,r2⟩:=C0
 have D1:Hid (Blk w1 (w.heap.size+1) (tc Tsk.zero)):=C1
 obtain ⟨_,r3,r4⟩:=C1
 cases hb:qae t
 ·have Hn:Hid (newT t=Tsk.zero):=by show _=_;simp [newT,hb]
  have Hb:Hid (qae t=false):=hb
  go_wp2
  have D:=D1.out.putT Tsk.zero
  have K:=k2.putT (b:=w.heap.size+1) (by omega) Tsk.zero
  change bodyPost _ _ _ _ _ (putT w1 (w.heap.size+1) Tsk.zero)
  generalize putT w1 (w.heap.size+1) Tsk.zero=X at D K ⊢
  exact bodyPost_ret (v := .tuple #[tk Tsk.zero,.bool false]) (by simp [results,Tryz.results222,go_sem,D.cells]) rfl ⟨by rw [Hn.out,Hb.out],K⟩
 ·have Hn:Hid (newT t=t):=by show _=_;simp [newT,hb]
  have Hb:Hid (qae t=true):=hb
  go_wp2
  have D:=D1.out.putT t
  have K:=k2.putT (b:=w.heap.size+1) (by omega) t
  change bodyPost _ _ _ _ _ (putT w1 (w.heap.size+1) t)
  generalize putT w1 (w.heap.size+1) t=X at D K ⊢
  exact bodyPost_ret (v := .tuple #[tk t,.bool true]) (by simp [results,Tryz.results222,go_sem,D.cells]) rfl ⟨by rw [Hn.out,Hb.out],K⟩
def dueT (no cpu q p now:Int):Tsk:=⟨no,1,cpu,1,false,q,p,q,now+p,0,0,0,0,0⟩
def fixT (no cpu prio round seq:Int):Tsk:=⟨no,2,cpu,1,false,0,0,round,0,prio,round,seq,0,0⟩
def qcU (no cpu nice v:Int):Tsk:=⟨no,3,cpu,1,false,0,0,0,0,0,0,0,nice,v⟩
def qcV (no cpu q p now:Int):Bool:=inB now 0 100000&&okB q p&&qae (dueT no cpu q p now)
def qcI (no cpu q p now:Int):Tsk:=if qcV no cpu q p now then dueT no cpu q p now else Tsk.zero
set_option maxHeartbeats 2000000 in
theorem qiY (no cpu q p now:Int) (w:World) :
  Calls Tryz.prog 185 #[.int .i64 no,.int .i64 cpu,.int .i64 q,.int .i64 p,.int .i64 now] w fun e w'=>e = .returned (.tuple #[tk (qcI no cpu q p now),.bool (qcV no cpu q p now)]) /\ Keeps w w':=by
 cases h1:inB now 0 100000
 ·have Hb:Hid (qcV no cpu q p now=false):=by show _=_;simp [qcV,h1]
  have Hn:Hid (qcI no cpu q p now=Tsk.zero):=by show _=_;simp [qcI,Hb.out]
  go_enter Tryz.func185,Tryz.ntmps185
  go_wp2_with (go_at_call 64;refine (qaf _ _ _ _).mono ?_;rintro e w' ⟨rfl,rfl⟩)
  exact bodyPost_ret (v := .tuple #[tk Tsk.zero,.bool false]) (by simp [results,Tryz.results185,go_sem,Tsk.zero]) rfl ⟨by rw [Hn.out,Hb.out],(Keeps.refl _).alloc _⟩
 ·cases h2:okB q p
  ·have Hb:Hid (qcV no cpu q p now=false):=by show _=_;simp [qcV,h2]
   have Hn:Hid (qcI no cpu q p now=Tsk.zero):=by show _=_;simp [qcI,Hb.out]
   go_enter Tryz.func185,Tryz.ntmps185
   go_wp2_with (first
    | (go_at_call 64;refine (qaf _ _ _ _).mono ?_;rintro e w' ⟨rfl,rfl⟩)
    | (go_at_call 115;refine (qch _ _ _).mono ?_;rintro e w' ⟨rfl,rfl⟩))
   exact bodyPost_ret (v := .tuple #[tk Tsk.zero,.bool false]) (by simp [results,Tryz.results185,go_sem,Tsk.zero]) rfl ⟨by rw [Hn.out,Hb.out],((Keeps.refl _).alloc _).alloc _⟩
  ·have Hb:Hid (qcV no cpu q p now=qae (dueT no cpu q p now)):=by show _=_;simp [qcV,h1,h2]
   have Hn:Hid (qcI no cpu q p now=newT (dueT no cpu q p now)):=by show _=_;simp [qcI,newT,Hb.out]
   obtain ⟨i1,i2⟩:=qap.1 h1
   obtain ⟨⟨i3,i4⟩,i5,i6⟩:=qcG.1 h2
   go_enter Tryz.func185,Tryz.ntmps185
   go_wp2_with (first
    | (go_at_call 64;refine (qaf _ _ _ _).mono ?_;rintro e w' ⟨rfl,rfl⟩)
    | (go_at_call 115;refine (qch _ _ _).mono ?_;rintro e w' ⟨rfl,rfl⟩))
   refine (qgu (dueT no cpu q p now) _).mono ?_
   rintro e w1 ⟨rfl,k1⟩
   have B:=((Blk.new w (tc Tsk.zero) 47).alloc (.cells #[.int .i64 q,.int .i64 p] 65)).keeps k1
   have k2:Keeps w w1:=(((Keeps.refl w).alloc _).alloc _).trans k1
   clear k1
   generalize newT (dueT no cpu q p now)=N at *
   generalize qae (dueT no cpu q p now)=b at *
   have D1:Hid (Blk w1 w.heap.size (tc Tsk.zero)):=B
   obtain ⟨_,r1,r2⟩:=B
   go_wp2
   have D:=D1.out.putT N
   have K:=k2.putT (b:=w.heap.size) (by omega) N
   change bodyPost _ _ _ _ _ (putT w1 w.heap.size N)
   generalize putT w1 w.heap.size N=X at D K ⊢
   exact bodyPost_ret (v := .tuple #[tk N,.bool b]) (by simp [results,Tryz.results185,go_sem,D.cells]) rfl ⟨by rw [Hn.out,Hb.out],K⟩
set_option maxHeartbeats 2000000 in
theorem qiZ (no cpu prio round seq:Int) (w:World) :
  Calls Tryz.prog 186 #[.int .i64 no,.int .i64 cpu,.int .i64 prio,.int .i64 round,.int .i64 seq] w fun e w'=>e = .returned (.tuple #[tk (newT (fixT no cpu prio round seq)),.bool (qae (fixT no cpu prio round seq))]) /\ Keeps w w':=by
 go_enter Tryz.func186,Tryz.ntmps186
 go_wp2_with fail
 refine (qgu (fixT no cpu prio round seq) _).mono ?_
 rintro e w1 ⟨rfl,k1⟩
 have B:=(Blk.new w (tc Tsk.zero) 47).keeps k1
 have k2:Keeps w w1:=((Keeps.refl w).alloc _).trans k1
 clear k1
 obtain ⟨N,HN⟩:∃ N,Hid (newT (fixT no cpu prio round seq)=N):=⟨_,rfl⟩
 obtain ⟨b,Hb⟩:∃ b,Hid (qae (fixT no cpu prio round seq)=b):=⟨_,rfl⟩
 rw [HN.out,Hb.out]
 have D1:Hid (Blk w1 w.heap.size (tc Tsk.zero)):=B
 obtain ⟨_,r1,r2⟩:=B
 go_wp2
 have D:=D1.out.putT N
 have K:=k2.putT (b:=w.heap.size) (by omega) N
 change bodyPost _ _ _ _ _ (putT w1 w.heap.size N)
 generalize putT w1 w.heap.size N=X at D K ⊢
 exact bodyPost_ret (v := .tuple #[tk N,.bool b]) (by simp [results,Tryz.results186,go_sem,D.cells]) rfl ⟨by rw [HN.out,Hb.out],K⟩
set_option maxHeartbeats 2000000 in
theorem qi0 (no cpu nice v:Int) (w:World) :
  Calls Tryz.prog 187 #[.int .i64 no,.int .i64 cpu,.int .i64 nice,.int .i64 v] w fun e w'=>e = .returned (.tuple #[tk (newT (qcU no cpu nice v)),.bool (qae (qcU no cpu nice v))]) /\ Keeps w w':=by
 go_enter Tryz.func187,Tryz.ntmps187
 go_wp2_with fail
 refine (qgu (qcU no cpu nice v) _).mono ?_
 rintro e w1 ⟨rfl,k1⟩
 have B:=(Blk.new w (tc Tsk.zero) 47).keeps k1
 have k2:Keeps w w1:=((Keeps.refl w).alloc _).trans k1
 clear k1
 obtain ⟨N,HN⟩:∃ N,Hid (newT (qcU no cpu nice v)=N):=⟨_,rfl⟩
 obtain ⟨b,Hb⟩:∃ b,Hid (qae (qcU no cpu nice v)=b):=⟨_,rfl⟩
 rw [HN.out,Hb.out]
 have D1:Hid (Blk w1 w.heap.size (tc Tsk.zero)):=B
 obtain ⟨_,r1,r2⟩:=B
 go_wp2
 have D:=D1.out.putT N
 have K:=k2.putT (b:=w.heap.size) (by omega) N
 change bodyPost _ _ _ _ _ (putT w1 w.heap.size N)
 generalize putT w1 w.heap.size N=X at D K ⊢
 exact bodyPost_ret (v := .tuple #[tk N,.bool b]) (by simp [results,Tryz.results187,go_sem,D.cells]) rfl ⟨by rw [HN.out,Hb.out],K⟩
theorem qi1 (x:Int) (w:World) :
  Calls Tryz.prog 181 #[.int .i64 x] w fun e w'=>e = .returned (.bool (inB x (-4) 4)) /\ w'=w:=by
 by_cases h1 : -4 <= x
 ·by_cases h2:x <= 4
  ·have Hr:Hid (inB x (-4) 4=true):=qfq h1 h2
   go_enter Tryz.func181,Tryz.ntmps181
   go_wp2
   go_ret
   exact ⟨by rw [Hr.out];rfl,rfl⟩
  ·have Hr:Hid (inB x (-4) 4=false):=qdG (.inr (by omega))
   have hd:decide (x <= 4)=false:=by simpa using h2
   go_enter Tryz.func181,Tryz.ntmps181
   go_wp2
   go_ret
   exact ⟨by rw [Hr.out];rfl,rfl⟩
 ·have Hr:Hid (inB x (-4) 4=false):=qdG (.inl (by omega))
  have hd:decide (-4 <= x)=false:=by simpa using h1
  go_enter Tryz.func181,Tryz.ntmps181
  go_wp2
  go_ret
  exact ⟨by rw [Hr.out];rfl,rfl⟩
end Go.Proofs.YthpdlbcdbncnhaaGreatDoor
namespace Go.Proofs.YthpdlbcdbncnhaaGreatDoor
open Go.RowKit
attribute [local go_sem] Keeps.refl Keeps.alloc Keeps.drew Keeps.drewN
def qoi:Prop:=∀ (t:Tsk) (w:World),Calls Tryz.prog 83 #[tk t] w fun e w'=>e = .returned (.bool (qae t)) /\ Keeps w w'
end Go.Proofs.YthpdlbcdbncnhaaGreatDoor
