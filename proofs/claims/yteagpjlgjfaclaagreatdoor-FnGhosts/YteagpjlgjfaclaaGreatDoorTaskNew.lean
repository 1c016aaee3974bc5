/-
  New tasks: contracts of the model's functions.
-/
import Derived.Test.YteagpjlgjfaclaaGreatDoorTaskSpec
import Derived.Test.YteagpjlgjfaclaaGreatDoorBase
namespace Go.Proofs.YteagpjlgjfaclaaGreatDoor
open Go.RowKit
def dV (t:ar):ar:=if bN t then t else ar.zero
set_option maxHeartbeats 2000000 in
theorem vp (t:ar) (w:World) :
  Calls Tryz.prog 175 #[tk t] w fun e w'=>e = .returned (.tuple #[tk (dV t),.bool (bN t)]) /\ aa w w':=by
 go_enter Tryz.func175,Tryz.ntmps175
 go_wp2_with fail
 have kW:aa w ((w.alloc (.cells (tc t) 43)).alloc (.cells (tc ar.zero) 43)):=((aa.refl _).alloc _).alloc _
 have B0:=(aq.new w (tc t) 43).alloc (.cells (tc ar.zero) 43)
 have B1:=aq.new (w.alloc (.cells (tc t) 43)) (tc ar.zero) 43
 rw [show (w.alloc (.cells (tc t) 43)).heap.size=w.heap.size+1 by simp] at B1
 refine (kH t _).mono ?_
 rintro e w1 ⟨rfl,k1⟩
 have C0:=B0.keeps k1
 have C1:=B1.keeps k1
 have k2:=kW.trans k1
 clear B0 B1 k1 kW
 obtain ⟨_,r1,r2⟩:=C0
 have D1:Hid (aq w1 (w.heap.size+1) (tc ar.zero)):=C1
 obtain ⟨_,r3,r4⟩:=C1
 cases hb:bN t
 ·have Hn:Hid (dV t=ar.zero):=by show _=_;simp [dV,hb]
  have Hb:Hid (bN t=false):=hb
  go_wp2
  have D:=D1.out.putT ar.zero
  have K:=k2.putT (b:=w.heap.size+1) (by omega) ar.zero
  change bodyPost _ _ _ _ _ (putT w1 (w.heap.size+1) ar.zero)
  generalize putT w1 (w.heap.size+1) ar.zero=X at D K ⊢
  exact bodyPost_ret (v := .tuple #[tk ar.zero,.bool false]) (by simp [results,Tryz.results175,go_sem,D.cells]) rfl ⟨by rw [Hn.out,Hb.out],K⟩
 ·have Hn:Hid (dV t=t):=by show _=_;simp [dV,hb]
  have Hb:Hid (bN t=true):=hb
  go_wp2
  have D:=D1.out.putT t
  have K:=k2.putT (b:=w.heap.size+1) (by omega) t
  change bodyPost _ _ _ _ _ (putT w1 (w.heap.size+1) t)
  generalize putT w1 (w.heap.size+1) t=X at D K ⊢
  exact bodyPost_ret (v := .tuple #[tk t,.bool true]) (by simp [results,Tryz.results175,go_sem,D.cells]) rfl ⟨by rw [Hn.out,Hb.out],K⟩
def gY (no cpu q p now:Int):ar:=⟨no,1,cpu,1,false,q,p,q,now+p,0,0,0,0,0⟩
def fN (no cpu prio round seq:Int):ar:=⟨no,2,cpu,1,false,0,0,round,0,prio,round,seq,0,0⟩
def kE (no cpu nice v:Int):ar:=⟨no,3,cpu,1,false,0,0,0,0,0,0,0,nice,v⟩
def kF (no cpu q p now:Int):Bool:=aH now 0 100000&&okB q p&&bN (gY no cpu q p now)
def j0 (no cpu q p now:Int):ar:=if kF no cpu q p now then gY no cpu q p now else ar.zero
set_option maxHeartbeats 2000000 in
theorem vS (no cpu q p now:Int) (w:World) :
  Calls Tryz.prog 144 #[.int .i64 no,.int .i64 cpu,.int .i64 q,.int .i64 p,.int .i64 now] w fun e w'=>e = .returned (.tuple #[tk (j0 no cpu q p now),.bool (kF no cpu q p now)]) /\ aa w w':=by
 cases h1:aH now 0 100000
 ·have Hb:Hid (kF no cpu q p now=false):=by show _=_;simp [kF,h1]
  have Hn:Hid (j0 no cpu q p now=ar.zero):=by show _=_;simp [j0,Hb.out]
  go_enter Tryz.func144,Tryz.ntmps144
  go_wp2_with (go_at_call 27;refine (bq _ _ _ _).mono ?_;rintro e w' ⟨rfl,rfl⟩)
  exact bodyPost_ret (v := .tuple #[tk ar.zero,.bool false]) (by simp [results,Tryz.results144,go_sem,ar.zero]) rfl ⟨by rw [Hn.out,Hb.out],(aa.refl _).alloc _⟩
 ·cases h2:okB q p
  ·have Hb:Hid (kF no cpu q p now=false):=by show _=_;simp [kF,h2]
   have Hn:Hid (j0 no cpu q p now=ar.zero):=by show _=_;simp [j0,Hb.out]
   go_enter Tryz.func144,Tryz.ntmps144
   go_wp2_with (first
    | (go_at_call 27;refine (bq _ _ _ _).mono ?_;rintro e w' ⟨rfl,rfl⟩)
    | (go_at_call 72;refine (ju _ _ _).mono ?_;rintro e w' ⟨rfl,rfl⟩))
   exact bodyPost_ret (v := .tuple #[tk ar.zero,.bool false]) (by simp [results,Tryz.results144,go_sem,ar.zero]) rfl ⟨by rw [Hn.out,Hb.out],((aa.refl _).alloc _).alloc _⟩
  ·have Hb:Hid (kF no cpu q p now=bN (gY no cpu q p now)):=by show _=_;simp [kF,h1,h2]
   have Hn:Hid (j0 no cpu q p now=dV (gY no cpu q p now)):=by show _=_;simp [j0,dV,Hb.out]
   obtain ⟨i1,i2⟩:=dq.1 h1
   obtain ⟨⟨i3,i4⟩,i5,i6⟩:=j9.1 h2
   go_enter Tryz.func144,Tryz.ntmps144
   go_wp2_with (first
    | (go_at_call 27;refine (bq _ _ _ _).mono ?_;rintro e w' ⟨rfl,rfl⟩)
    | (go_at_call 72;refine (ju _ _ _).mono ?_;rintro e w' ⟨rfl,rfl⟩))
   refine (vp (gY no cpu q p now) _).mono ?_
   rintro e w1 ⟨rfl,k1⟩
   have B:=((aq.new w (tc ar.zero) 43).alloc (.cells #[.int .i64 q,.int .i64 p] 51)).keeps k1
   have k2:aa w w1:=(((aa.refl w).alloc _).alloc _).trans k1
   clear k1
   generalize dV (gY no cpu q p now)=N at *
   generalize bN (gY no cpu q p now)=b at *
   have D1:Hid (aq w1 w.heap.size (tc ar.zero)):=B
   obtain ⟨_,r1,r2⟩:=B
   go_wp2
   have D:=D1.out.putT N
   have K:=k2.putT (b:=w.heap.size) (by omega) N
   change bodyPost _ _ _ _ _ (putT w1 w.heap.size N)
   generalize putT w1 w.heap.size N=X at D K ⊢
   exact bodyPost_ret (v := .tuple #[tk N,.bool b]) (by simp [results,Tryz.results144,go_sem,D.cells]) rfl ⟨by rw [Hn.out,Hb.out],K⟩
set_option maxHeartbeats 2000000 in
theorem vT (no cpu prio round seq:Int) (w:World) :
  Calls Tryz.prog 145 #[.int .i64 no,.int .i64 cpu,.int .i64 prio,.int .i64 round,.int .i64 seq] w fun e w'=>e = .returned (.tuple #[tk (dV (fN no cpu prio round seq)),.bool (bN (fN no cpu prio round seq))]) /\ aa w w':=by
 go_enter Tryz.func145,Tryz.ntmps145
 go_wp2_with fail
 refine (vp (fN no cpu prio round seq) _).mono ?_
 rintro e w1 ⟨rfl,k1⟩
 have B:=(aq.new w (tc ar.zero) 43).keeps k1
 have k2:aa w w1:=((aa.refl w).alloc _).trans k1
 clear k1
 obtain ⟨N,HN⟩:∃ N,Hid (dV (fN no cpu prio round seq)=N):=⟨_,rfl⟩
 obtain ⟨b,Hb⟩:∃ b,Hid (bN (fN no cpu prio round seq)=b):=⟨_,rfl⟩
 rw [HN.out,Hb.out]
 have D1:Hid (aq w1 w.heap.size (tc ar.zero)):=B
 obtain ⟨_,r1,r2⟩:=B
 go_wp2
 have D:=D1.out.putT N
 have K:=k2.putT (b:=w.heap.size) (by omega) N
 change bodyPost _ _ _ _ _ (putT w1 w.heap.size N)
 generalize putT w1 w.heap.size N=X at D K ⊢
 exact bodyPost_ret (v := .tuple #[tk N,.bool b]) (by simp [results,Tryz.results145,go_sem,D.cells]) rfl ⟨by rw [HN.out,Hb.out],K⟩
set_option maxHeartbeats 2000000 in
theorem vR (no cpu nice v:Int) (w:World) :
  Calls Tryz.prog 142 #[.int .i64 no,.int .i64 cpu,.int .i64 nice,.int .i64 v] w fun e w'=>e = .returned (.tuple #[tk (dV (kE no cpu nice v)),.bool (bN (kE no cpu nice v))]) /\ aa w w':=by
 go_enter Tryz.func142,Tryz.ntmps142
 go_wp2_with fail
 refine (vp (kE no cpu nice v) _).mono ?_
 rintro e w1 ⟨rfl,k1⟩
 have B:=(aq.new w (tc ar.zero) 43).keeps k1
 have k2:aa w w1:=((aa.refl w).alloc _).trans k1
 clear k1
 obtain ⟨N,HN⟩:∃ N,Hid (dV (kE no cpu nice v)=N):=⟨_,rfl⟩
 obtain ⟨b,Hb⟩:∃ b,Hid (bN (kE no cpu nice v)=b):=⟨_,rfl⟩
 rw [HN.out,Hb.out]
 have D1:Hid (aq w1 w.heap.size (tc ar.zero)):=B
 obtain ⟨_,r1,r2⟩:=B
 go_wp2
 have D:=D1.out.putT N
 have K:=k2.putT (b:=w.heap.size) (by omega) N
 change bodyPost _ _ _ _ _ (putT w1 w.heap.size N)
 generalize putT w1 w.heap.size N=X at D K ⊢
 exact bodyPost_ret (v := .tuple #[tk N,.bool b]) (by simp [results,Tryz.results142,go_sem,D.cells]) rfl ⟨by rw [HN.out,Hb.out],K⟩
end Go.Proofs.YteagpjlgjfaclaaGreatDoor
