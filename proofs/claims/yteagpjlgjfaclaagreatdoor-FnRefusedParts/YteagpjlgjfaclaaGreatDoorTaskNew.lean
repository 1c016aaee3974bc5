/-
  New tasks: contracts of the model's functions.
-/
import Derived.Test.YteagpjlgjfaclaaGreatDoorTaskSpec
import Derived.Test.YteagpjlgjfaclaaGreatDoorBase
namespace Go.Proofs.YteagpjlgjfaclaaGreatDoor
open Go.RowKit
def newT (t:Tsk):Tsk:=if qah t then t else Tsk.zero
set_option maxHeartbeats 2000000 in
theorem qfI (t:Tsk) (w:World) :
  Calls Tryz.prog 175 #[tk t] w fun e w'=>e = .returned (.tuple #[tk (newT t),.bool (qah t)]) /\ Keeps w w':=by
 go_enter Tryz.func175,Tryz.ntmps175
 go_wp2_with fail
 have kW:Keeps w ((w.alloc (.cells (tc t) 43)).alloc (.cells (tc Tsk.zero) 43)):=((Keeps.refl _).alloc _).alloc _
 have B0:=(Blk.new w (tc t) 43).alloc (.cells (tc Tsk.zero) 43)
 have B1:=Blk.new (w.alloc (.cells (tc t) 43)) (tc Tsk.zero) 43
 rw [show (w.alloc (.cells (tc t) 43)).heap.size=w.heap.size+1 by simp] at B1
 refine (qcC t _).mono ?_
 rintro e w1 ⟨rfl,k1⟩
 have C0:=B0.keeps k1
 have C1:=B1.keeps k1
 have k2:=kW.trans k1
 clear B0 B1 k1 kW
 obtain ⟨_,r1,r2⟩:=C0
 have D1:Hid (Blk w1 (w.heap.size+1) (tc Tsk.zero)):=C1
 obtain ⟨_,r3,r4⟩:=C1
 cases hb:qah t
 ·have Hn:Hid (newT t=Tsk.zero):=by show _=_;simp [newT,hb]
  have Hb:Hid (qah t=false):=hb
  go_wp2
  have D:=D1.out.putT Tsk.zero
  have K:=k2.putT (b:=w.heap.size+1) (by omega) Tsk.zero
  change bodyPost _ _ _ _ _ (putT w1 (w.heap.size+1) Tsk.zero)
  generalize putT w1 (w.heap.size+1) Tsk.zero=X at D K ⊢
  exact bodyPost_ret (v := .tuple #[tk Tsk.zero,.bool false]) (by simp [results,Tryz.results175,go_sem,D.cells]) rfl ⟨by rw [Hn.out,Hb.out],K⟩
 ·have Hn:Hid (newT t=t):=by show _=_;simp [newT,hb]
  have Hb:Hid (qah t=true):=hb
  go_wp2
  have D:=D1.out.putT t
  have K:=k2.putT (b:=w.heap.size+1) (by omega) t
  change bodyPost _ _ _ _ _ (putT w1 (w.heap.size+1) t)
  generalize putT w1 (w.heap.size+1) t=X at D K ⊢
  exact bodyPost_ret (v := .tuple #[tk t,.bool true]) (by simp [results,Tryz.results175,go_sem,D.cells]) rfl ⟨by rw [Hn.out,Hb.out],K⟩
def dueT (no cpu q p now:Int):Tsk:=⟨no,1,cpu,1,false,q,p,q,now+p,0,0,0,0,0⟩
def fixT (no cpu prio round seq:Int):Tsk:=⟨no,2,cpu,1,false,0,0,round,0,prio,round,seq,0,0⟩
def qcB (no cpu nice v:Int):Tsk:=⟨no,3,cpu,1,false,0,0,0,0,0,0,0,nice,v⟩
def qaY (no cpu q p now:Int):Bool:=inB now 0 100000&&okB q p&&qah (dueT no cpu q p now)
def qaV (no cpu q p now:Int):Tsk:=if qaY no cpu q p now then dueT no cpu q p now else Tsk.zero
set_option maxHeartbeats 2000000 in
theorem qhM (no cpu q p now:Int) (w:World) :
  Calls Tryz.prog 144 #[.int .i64 no,.int .i64 cpu,.int .i64 q,.int .i64 p,.int .i64 now] w fun e w'=>e = .returned (.tuple #[tk (qaV no cpu q p now),.bool (qaY no cpu q p now)]) /\ Keeps w w':=by
 cases h1:inB now 0 100000
 ·have Hb:Hid (qaY no cpu q p now=false):=by show _=_;simp [qaY,h1]
  have Hn:Hid (qaV no cpu q p now=Tsk.zero):=by show _=_;simp [qaV,Hb.out]
  go_enter Tryz.func144,Tryz.ntmps144
  go_wp2_with (go_at_call 27;refine (qag _ _ _ _).mono ?_;rintro e w' ⟨rfl,rfl⟩)
  exact bodyPost_ret (v := .tuple #[tk Tsk.zero,.bool false]) (by simp [results,Tryz.results144,go_sem,Tsk.zero]) rfl ⟨by rw [Hn.out,Hb.out],(Keeps.refl _).alloc _⟩
 ·cases h2:okB q p
  ·have Hb:Hid (qaY no cpu q p now=false):=by show _=_;simp [qaY,h2]
   have Hn:Hid (qaV no cpu q p now=Tsk.zero):=by show _=_;simp [qaV,Hb.out]
   go_enter Tryz.func144,Tryz.ntmps144
   go_wp2_with (first
    | (go_at_call 27;refine (qag _ _ _ _).mono ?_;rintro e w' ⟨rfl,rfl⟩)
    | (go_at_call 72;refine (qb4 _ _ _).mono ?_;rintro e w' ⟨rfl,rfl⟩))
   exact bodyPost_ret (v := .tuple #[tk Tsk.zero,.bool false]) (by simp [results,Tryz.results144,go_sem,Tsk.zero]) rfl ⟨by rw [Hn.out,Hb.out],((Keeps.refl _).alloc _).alloc _⟩
  ·have Hb:Hid (qaY no cpu q p now=qah (dueT no cpu q p now)):=by show _=_;simp [qaY,h1,h2]
   have Hn:Hid (qaV no cpu q p now=newT (dueT no cpu q p now)):=by show _=_;simp [qaV,newT,Hb.out]
   obtain ⟨i1,i2⟩:=qas.1 h1
   obtain ⟨⟨i3,i4⟩,i5,i6⟩:=qbL.1 h2
   go_enter Tryz.func144,Tryz.ntmps144
   go_wp2_with (first
    | (go_at_call 27;refine (qag _ _ _ _).mono ?_;rintro e w' ⟨rfl,rfl⟩)
    | (go_at_call 72;refine (qb4 _ _ _).mono ?_;rintro e w' ⟨rfl,rfl⟩))
   refine (qfI (dueT no cpu q p now) _).mono ?_
   rintro e w1 ⟨rfl,k1⟩
   have B:=((Blk.new w (tc Tsk.zero) 43).alloc (.cells #[.int .i64 q,.int .i64 p] 51)).keeps k1
   have k2:Keeps w w1:=(((Keeps.refl w).alloc _).alloc _).trans k1
   clear k1
   generalize newT (dueT no cpu q p now)=N at *
   generalize qah (dueT no cpu q p now)=b at *
   have D1:Hid (Blk w1 w.heap.size (tc Tsk.zero)):=B
   obtain ⟨_,r1,r2⟩:=B
   go_wp2
   have D:=D1.out.putT N
   have K:=k2.putT (b:=w.heap.size) (by omega) N
   change bodyPost _ _ _ _ _ (putT w1 w.heap.size N)
   generalize putT w1 w.heap.size N=X at D K ⊢
   exact bodyPost_ret (v := .tuple #[tk N,.bool b]) (by simp [results,Tryz.results144,go_sem,D.cells]) rfl ⟨by rw [Hn.out,Hb.out],K⟩
set_option maxHeartbeats 2000000 in
theorem qhN (no cpu prio round seq:Int) (w:World) :
  Calls Tryz.prog 145 #[.int .i64 no,.int .i64 cpu,.int .i64 prio,.int .i64 round,.int .i64 seq] w fun e w'=>e = .returned (.tuple #[tk (newT (fixT no cpu prio round seq)),.bool (qah (fixT no cpu prio round seq))]) /\ Keeps w w':=by
 go_enter Tryz.func145,Tryz.ntmps145
 go_wp2_with fail
 refine (qfI (fixT no cpu prio round seq) _).mono ?_
 rintro e w1 ⟨rfl,k1⟩
 have B:=(Blk.new w (tc Tsk.zero) 43).keeps k1
 have k2:Keeps w w1:=((Keeps.refl w).alloc _).trans k1
 clear k1
 obtain ⟨N,HN⟩:∃ N,Hid (newT (fixT no cpu prio round seq)=N):=⟨_,rfl⟩
 obtain ⟨b,Hb⟩:∃ b,Hid (qah (fixT no cpu prio round seq)=b):=⟨_,rfl⟩
 rw [HN.out,Hb.out]
 have D1:Hid (Blk w1 w.heap.size (tc Tsk.zero)):=B
 obtain ⟨_,r1,r2⟩:=B
 go_wp2
 have D:=D1.out.putT N
 have K:=k2.putT (b:=w.heap.size) (by omega) N
 change bodyPost _ _ _ _ _ (putT w1 w.heap.size N)
 generalize putT w1 w.heap.size N=X at D K ⊢
 exact bodyPost_ret (v := .tuple #[tk N,.bool b]) (by simp [results,Tryz.results145,go_sem,D.cells]) rfl ⟨by rw [HN.out,Hb.out],K⟩
set_option maxHeartbeats 2000000 in
theorem qhO (no cpu nice v:Int) (w:World) :
  Calls Tryz.prog 142 #[.int .i64 no,.int .i64 cpu,.int .i64 nice,.int .i64 v] w fun e w'=>e = .returned (.tuple #[tk (newT (qcB no cpu nice v)),.bool (qah (qcB no cpu nice v))]) /\ Keeps w w':=by
 go_enter Tryz.func142,Tryz.ntmps142
 go_wp2_with fail
 refine (qfI (qcB no cpu nice v) _).mono ?_
 rintro e w1 ⟨rfl,k1⟩
 have B:=(Blk.new w (tc Tsk.zero) 43).keeps k1
 have k2:Keeps w w1:=((Keeps.refl w).alloc _).trans k1
 clear k1
 obtain ⟨N,HN⟩:∃ N,Hid (newT (qcB no cpu nice v)=N):=⟨_,rfl⟩
 obtain ⟨b,Hb⟩:∃ b,Hid (qah (qcB no cpu nice v)=b):=⟨_,rfl⟩
 rw [HN.out,Hb.out]
 have D1:Hid (Blk w1 w.heap.size (tc Tsk.zero)):=B
 obtain ⟨_,r1,r2⟩:=B
 go_wp2
 have D:=D1.out.putT N
 have K:=k2.putT (b:=w.heap.size) (by omega) N
 change bodyPost _ _ _ _ _ (putT w1 w.heap.size N)
 generalize putT w1 w.heap.size N=X at D K ⊢
 exact bodyPost_ret (v := .tuple #[tk N,.bool b]) (by simp [results,Tryz.results142,go_sem,D.cells]) rfl ⟨by rw [HN.out,Hb.out],K⟩
end Go.Proofs.YteagpjlgjfaclaaGreatDoor
