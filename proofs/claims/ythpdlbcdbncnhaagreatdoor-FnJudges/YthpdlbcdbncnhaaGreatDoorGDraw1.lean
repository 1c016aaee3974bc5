/-
  A drawn task: the contracts of the model's draws. A drawn t
-/
import Derived.Test.YthpdlbcdbncnhaaGreatDoorGTask4
import Derived.Test.YthpdlbcdbncnhaaGreatDoorGBase1
import Derived.Deep.DeepCutAuto
import Derived.Deep.CutBlock
namespace Go.Proofs.YthpdlbcdbncnhaaGreatDoor
set_option maxRecDepth 100000
open Go.RowKit
theorem Blk.but {g:Nat} {w w':World} {b:Nat} {C:Array Value} (h:Blk w b C) (k:KeepsBut g w w') (hg:b≠g):Blk w' b C :=
 ⟨Nat.lt_of_lt_of_le h.lt k.size,fun i=>(k.cells b i h.lt hg).trans (h.cells i),fun i=>(World.frozen?_of_block (w:=w) (k.block b h.lt hg)).trans (h.frozens i)⟩
theorem Cur.putT {w:World} {g b:Nat} (h:Cur w g) (hb:g < b) (t:Tsk):Cur (putT w b t) g:=(((((((((((((h.setNew hb _ _).setNew hb _ _).setNew hb _ _).setNew hb _ _).setNew hb _ _).setNew hb _ _).setNew hb _ _).setNew hb _ _).setNew hb _ _).setNew hb _ _).setNew hb _ _).setNew hb _ _).setNew hb _ _).setNew hb _ _
theorem KeepsBut.putT {g b:Nat} {a w:World} (h:KeepsBut g a w) (hp:a.heap.size <= b) (t:Tsk):KeepsBut g a (Go.Proofs.YthpdlbcdbncnhaaGreatDoor.putT w b t):=(((((((((((((h.setNew hp _).setNew hp _).setNew hp _).setNew hp _).setNew hp _).setNew hp _).setNew hp _).setNew hp _).setNew hp _).setNew hp _).setNew hp _).setNew hp _).setNew hp _).setNew hp _
structure DR (w W:World) (g r s:Nat) (t:Tsk):Prop where
 cur:Cur W g
 kb:KeepsBut g w W
 res:Blk W r (tc Tsk.zero)
 box:Blk W s (tc t)
 gr:g < r
 rs:r < s
 wr:w.heap.size <= r
theorem DR.but {w W W':World} {g r s:Nat} {t:Tsk} (h:DR w W g r s t) (k:KeepsBut g W W') (hc:Cur W' g):DR w W' g r s t :=
 ⟨hc,h.kb.trans k,h.res.but k (by have:=h.gr;omega),h.box.but k (by have:=h.gr;have:=h.rs;omega),h.gr,h.rs,h.wr⟩
theorem DR.keeps {w W W':World} {g r s:Nat} {t:Tsk} (h:DR w W g r s t) (k:Keeps W W'):DR w W' g r s t:=h.but (.of k) (h.cur.keeps k)
theorem DR.rules {w W:World} {g r s:Nat} {t:Tsk} (h:DR w W g r s t):(∀ k,W.cell? ⟨s,k,none⟩=(tc t)[k]?) /\ (∀ k,W.cell? ⟨r,k,none⟩=(tc Tsk.zero)[k]?) /\ (∀ k,W.frozen? ⟨s,k,none⟩=false) /\ ∀ k,W.frozen? ⟨r,k,none⟩=false :=
 ⟨h.box.cells,h.res.cells,h.box.frozens,h.res.frozens⟩
theorem DR.put {w W:World} {g r s:Nat} {t:Tsk} (h:DR w W g r s t) (u:Tsk):DR w (putT W s u) g r s u :=
 ⟨h.cur.putT (by have:=h.gr;have:=h.rs;omega) u,h.kb.putT (by have:=h.wr;have:=h.rs;omega) u,h.res.farT (by have:=h.rs;omega) u,h.box.putT u,h.gr,h.rs,h.wr⟩
theorem DR.cell {w W:World} {g r s:Nat} {t u:Tsk} (h:DR w W g r s t) (k:Nat) (hk:k < 14) (v:Value) (hu:tc u=(tc t).setIfInBounds k v):DR w (W.setCell ⟨s,k,none⟩ v) g r s u :=
 ⟨h.cur.setNew (by have:=h.gr;have:=h.rs;omega) _ _,h.kb.setNew (by have:=h.wr;have:=h.rs;show _ <= s;omega) _,h.res.far (by have:=h.rs;omega) _,by rw [hu];exact h.box.set k hk v,h.gr,h.rs,h.wr⟩
theorem DR.st {w W:World} {g r s:Nat} {t:Tsk} (h:DR w W g r s t) (x:Int):DR w (W.setCell ⟨s,3,none⟩ (.int .i64 x)) g r s { t with st:=x }:=h.cell 3 (by decide) _ (by simp)
theorem DR.left {w W:World} {g r s:Nat} {t:Tsk} (h:DR w W g r s t) (x:Int):DR w (W.setCell ⟨s,7,none⟩ (.int .i64 x)) g r s { t with left:=x }:=h.cell 7 (by decide) _ (by simp)
theorem DR.idle {w W:World} {g r s:Nat} {t:Tsk} (h:DR w W g r s t) (x:Bool):DR w (W.setCell ⟨s,4,none⟩ (.bool x)) g r s { t with idle:=x }:=h.cell 4 (by decide) _ (by simp)
theorem DR.done {w W:World} {g r s:Nat} {t:Tsk} (h:DR w W g r s t):Blk (putT W r t) r (tc t) /\ Cur (putT W r t) g /\ KeepsBut g w (putT W r t) :=
 ⟨h.res.putT t,h.cur.putT h.gr t,h.kb.putT h.wr t⟩
theorem DR.new {w W:World} {g:Nat} (hc:Cur W g) (hk:KeepsBut g w W) {r:Nat} (hr:Blk W r (tc Tsk.zero)) (hg:g < r) (hw:w.heap.size <= r):DR w (W.alloc (.cells (tc Tsk.zero) 47)) g r W.heap.size Tsk.zero :=
 ⟨hc.keeps ((Keeps.refl _).alloc _),hk.alloc _,hr.alloc _,Blk.new _ _ _,hg,hr.lt,hw⟩
set_option maxHeartbeats 8000000 in
theorem qg1 (g:Nat) (w:World) (hc:Cur w g) :
  Calls Tryz.prog 147 #[.pointer (some ⟨g,0,none⟩)] w fun e w'=>∃ t:Tsk,e = .returned (tk t) /\ Cur w' g /\ KeepsBut g w w':=by
 have hgl:=hc.lt
 go_enter Tryz.func147,Tryz.ntmps147
 go_wp2_with fail
 have hc0:=hc.keeps ((Keeps.refl w).alloc (.cells (tc Tsk.zero) 47))
 have B0:=Blk.new w (tc Tsk.zero) 47
 have kb0:=(KeepsBut.refl g w).alloc (.cells (tc Tsk.zero) 47)
 refine (qal g _ _ hc0 (by omega) (by omega)).mono ?_
 rintro e w1 ⟨no,rfl,hn0,hn1,hc1,k1⟩
 go_wp2_with fail
 refine (qal g _ _ hc1 (by omega) (by omega)).mono ?_
 rintro e w2 ⟨cpu,rfl,hp0,hp1,hc2,k2⟩
 have B2:=B0.but (k1.trans k2) (by omega)
 have kb2:=kb0.trans (k1.trans k2)
 obtain ⟨r,Hr⟩:∃ r,Hid (w.heap.size=r):=⟨_,rfl⟩
 rw [Hr.out] at B2 ⊢
 have S:=DR.new hc2 kb2 B2 (by have:=Hr.out;omega) (by have:=Hr.out;omega)
 clear B0 B2 kb0 kb2 hc0 hc1 hc2 k1 k2 hc
 go_wp2_with fail
 change Calls _ _ _ (w2.alloc (.cells (tc Tsk.zero) 47)) _
 generalize w2.alloc (.cells (tc Tsk.zero) 47)=W at *
 generalize w2.heap.size=s at *
 refine (qal g _ _ S.cur (by omega) (by omega)).mono ?_
 rintro e w3 ⟨c,rfl,hx0,hx1,hc3,k3⟩
 have S:=S.but k3 hc3
 clear hc3 k3
 go_upto_block 0 with fail
 go_cut [] (fun wx=>∃ t:Tsk,DR w wx g r s t)
 case first =>
  obtain rfl | rfl | rfl:c=0∨c=1∨c=2:=by omega
  case inl =>
   go_wp2_with fail
   refine (qal g _ _ S.cur (by omega) (by omega)).mono ?_
   rintro e w4 ⟨y,rfl,hy0,hy1,hc4,k4⟩
   have S:=S.but k4 hc4
   clear hc4 k4
   go_wp2_with fail
   refine (qal g _ _ S.cur (by omega) (by omega)).mono ?_
   rintro e w5 ⟨z,rfl,hz0,hz1,hc5,k5⟩
   have S:=S.but k5 hc5
   clear hc5 k5
   go_wp2_with fail
   refine (qal g _ _ S.cur (by omega) (by omega)).mono ?_
   rintro e w6 ⟨now,rfl,hw0,hw1,hc6,k6⟩
   have S:=S.but k6 hc6
   clear hc6 k6
   go_wp2_with fail
   refine (qiY _ _ _ _ _ _).mono ?_
   rintro e w7 ⟨rfl,k7⟩
   have S:=S.keeps k7
   clear k7
   obtain ⟨N,HN⟩:∃ N,Hid (qcI (1+no) cpu (1+z) (2+y) now=N):=⟨_,rfl⟩
   have hNq:0 <= N.q /\ N.q <= 10:=by
    rw [<- HN.out];unfold qcI;split
    ·simp [dueT];omega
    ·simp [Tsk.zero]
   obtain ⟨hq0,hq1⟩:=hNq
   rw [HN.out]
   obtain ⟨q1,q2,f1,f2⟩:=S.rules
   have HS:Hid (DR w w7 g r s Tsk.zero):=S
   clear S
   go_wp2_with fail
   change Calls _ _ _ (putT w7 s N) _
   have S:=HS.out.put N
   clear HS q1 q2 f1 f2
   generalize putT w7 s N=W7 at *
   refine (qal g _ _ S.cur (by omega) (by omega)).mono ?_
   rintro e w8 ⟨l,rfl,hl0,hl1,hc8,k8⟩
   have S:=S.but k8 hc8
   clear hc8 k8
   obtain ⟨q1,q2,f1,f2⟩:=S.rules
   have HS:Hid (DR w w8 g r s N):=S
   clear S
   go_wp2_with fail
   go_meet
   exact ⟨_,HS.out.left l⟩
  case inr.inl =>
   go_wp2_with fail
   refine (qal g _ _ S.cur (by omega) (by omega)).mono ?_
   rintro e w4 ⟨y,rfl,hy0,hy1,hc4,k4⟩
   have S:=S.but k4 hc4
   clear hc4 k4
   go_wp2_with fail
   refine (qal g _ _ S.cur (by omega) (by omega)).mono ?_
   rintro e w5 ⟨z,rfl,hz0,hz1,hc5,k5⟩
   have S:=S.but k5 hc5
   clear hc5 k5
   go_wp2_with fail
   refine (qal g _ _ S.cur (by omega) (by omega)).mono ?_
   rintro e w6 ⟨u,rfl,hw0,hw1,hc6,k6⟩
   have S:=S.but k6 hc6
   clear hc6 k6
   go_wp2_with fail
   refine (qiZ _ _ _ _ _ _).mono ?_
   rintro e w7 ⟨rfl,k7⟩
   have S:=S.keeps k7
   clear k7
   obtain ⟨N,HN⟩:∃ N,Hid (newT (fixT (1+no) cpu (1+y) z u)=N):=⟨_,rfl⟩
   have hNq:0 <= N.round /\ N.round <= 10:=by
    rw [<- HN.out];unfold newT;split
    ·simp [fixT];omega
    ·simp [Tsk.zero]
   obtain ⟨hq0,hq1⟩:=hNq
   rw [HN.out]
   obtain ⟨q1,q2,f1,f2⟩:=S.rules
   have HS:Hid (DR w w7 g r s Tsk.zero):=S
   clear S
   cases hd:decide (0 < N.round)
   ·go_wp2_with fail
    go_meet
    exact ⟨_,HS.out.put N⟩
   ·have hd':=of_decide_eq_true hd
    go_wp2_with fail
    change Calls _ _ _ (putT w7 s N) _
    have S:=HS.out.put N
    clear HS q1 q2 f1 f2
    generalize putT w7 s N=W7 at *
    refine (qal g _ _ S.cur (by omega) (by omega)).mono ?_
    rintro e w8 ⟨l,rfl,hl0,hl1,hc8,k8⟩
    have S:=S.but k8 hc8
    clear hc8 k8
    obtain ⟨q1,q2,f1,f2⟩:=S.rules
    have HS:Hid (DR w w8 g r s N):=S
    clear S
    go_wp2_with fail
    go_meet
    exact ⟨_,HS.out.left (1+l)⟩
  case inr.inr =>
   go_wp2_with fail
   refine (qal g _ _ S.cur (by omega) (by omega)).mono ?_
   rintro e w4 ⟨y,rfl,hy0,hy1,hc4,k4⟩
   have S:=S.but k4 hc4
   clear hc4 k4
   go_wp2_with fail
   refine (qal g _ _ S.cur (by omega) (by omega)).mono ?_
   rintro e w5 ⟨z,rfl,hz0,hz1,hc5,k5⟩
   have S:=S.but k5 hc5
   clear hc5 k5
   go_wp2_with fail
   refine (qi0 _ _ _ _ _).mono ?_
   rintro e w7 ⟨rfl,k7⟩
   have S:=S.keeps k7
   clear k7
   obtain ⟨N,HN⟩:∃ N,Hid (newT (qcU (1+no) cpu (y - 4) z)=N):=⟨_,rfl⟩
   rw [HN.out]
   obtain ⟨q1,q2,f1,f2⟩:=S.rules
   have HS:Hid (DR w w7 g r s Tsk.zero):=S
   clear S
   go_wp2_with fail
   go_meet
   exact ⟨_,HS.out.put N⟩
 case rest =>
 obtain ⟨t,S⟩:=hcut
 generalize wc=W9 at *
 go_wp2_with fail
 refine (qdl g _ _ S.cur (by omega) (by omega)).mono ?_
 rintro e x1 ⟨b1,rfl,xc1,xk1⟩
 have S:=S.but xk1 xc1
 clear xc1 xk1
 cases b1
 ·obtain ⟨q1,q2,f1,f2⟩:=S.rules
  go_wp2_with fail
  clear q1 q2 f1 f2
  generalize t=t' at S
  refine (qdl g _ _ S.cur (by omega) (by omega)).mono ?_
  rintro e x2 ⟨b2,rfl,xc2,xk2⟩
  have S:=S.but xk2 xc2
  clear xc2 xk2
  obtain ⟨q1,q2,f1,f2⟩:=S.rules
  have HS:Hid (DR w x2 g r s t'):=S
  clear S
  go_upto_region 17 with fail
  have S:=HS.out.idle b2
  clear HS q1 q2 f1 f2
  generalize x2.setCell ⟨s,4,none⟩ (.bool b2)=y2 at *
  generalize { t' with idle:=b2 }=u at S
  obtain ⟨q1,q2,f1,f2⟩:=S.rules
  have HS:Hid (DR w y2 g r s u):=S
  clear S
  go_wp2
  have T:=HS.out.done
  change bodyPost _ _ _ _ _ (putT y2 r u)
  generalize putT y2 r u=X at T ⊢
  obtain ⟨T1,T2,T3⟩:=T
  exact bodyPost_ret (v:=tk u) (by simp [results,Tryz.results147,go_sem,T1.cells]) rfl ⟨_,rfl,T2,T3⟩
 ·obtain ⟨q1,q2,f1,f2⟩:=S.rules
  go_wp2_with fail
  have S:=S.st 2
  clear q1 q2 f1 f2
  generalize x1.setCell ⟨s,3,none⟩ (.int .i64 2)=y1 at *
  generalize { t with st:=2 }=t' at S
  refine (qdl g _ _ S.cur (by omega) (by omega)).mono ?_
  rintro e x2 ⟨b2,rfl,xc2,xk2⟩
  have S:=S.but xk2 xc2
  clear xc2 xk2
  obtain ⟨q1,q2,f1,f2⟩:=S.rules
  have HS:Hid (DR w x2 g r s t'):=S
  clear S
  go_upto_region 17 with fail
  have S:=HS.out.idle b2
  clear HS q1 q2 f1 f2
  generalize x2.setCell ⟨s,4,none⟩ (.bool b2)=y2 at *
  generalize { t' with idle:=b2 }=u at S
  obtain ⟨q1,q2,f1,f2⟩:=S.rules
  have HS:Hid (DR w y2 g r s u):=S
  clear S
  go_wp2
  have T:=HS.out.done
  change bodyPost _ _ _ _ _ (putT y2 r u)
  generalize putT y2 r u=X at T ⊢
  obtain ⟨T1,T2,T3⟩:=T
  exact bodyPost_ret (v:=tk u) (by simp [results,Tryz.results147,go_sem,T1.cells]) rfl ⟨_,rfl,T2,T3⟩
theorem DR.no {w W:World} {g r s:Nat} {t:Tsk} (h:DR w W g r s t) (x:Int):DR w (W.setCell ⟨s,0,none⟩ (.int .i64 x)) g r s { t with no:=x }:=h.cell 0 (by decide) _ (by simp)
theorem DR.cpu {w W:World} {g r s:Nat} {t:Tsk} (h:DR w W g r s t) (x:Int):DR w (W.setCell ⟨s,2,none⟩ (.int .i64 x)) g r s { t with cpu:=x }:=h.cell 2 (by decide) _ (by simp)
theorem DR.cls {w W:World} {g r s:Nat} {t:Tsk} (h:DR w W g r s t) (x:Int):DR w (W.setCell ⟨s,1,none⟩ (.int .i64 x)) g r s { t with cls:=x }:=h.cell 1 (by decide) _ (by simp)
theorem DR.due {w W:World} {g r s:Nat} {t:Tsk} (h:DR w W g r s t) (x:Int):DR w (W.setCell ⟨s,8,none⟩ (.int .i64 x)) g r s { t with due:=x }:=h.cell 8 (by decide) _ (by simp)
theorem DR.v {w W:World} {g r s:Nat} {t:Tsk} (h:DR w W g r s t) (x:Int):DR w (W.setCell ⟨s,13,none⟩ (.int .i64 x)) g r s { t with v:=x }:=h.cell 13 (by decide) _ (by simp)
theorem DR.prio {w W:World} {g r s:Nat} {t:Tsk} (h:DR w W g r s t) (x:Int):DR w (W.setCell ⟨s,9,none⟩ (.int .i64 x)) g r s { t with prio:=x }:=h.cell 9 (by decide) _ (by simp)
set_option maxHeartbeats 8000000 in
theorem qfC (g:Nat) (w:World) (hc:Cur w g) :
  Calls Tryz.prog 99 #[.pointer (some ⟨g,0,none⟩)] w fun e w'=>∃ t:Tsk,e = .returned (tk t) /\ Cur w' g /\ KeepsBut g w w':=by
 have hgl:=hc.lt
 go_enter Tryz.func99,Tryz.ntmps99
 go_wp2_with fail
 have hc0:=hc.keeps ((Keeps.refl w).alloc (.cells (tc Tsk.zero) 47))
 have B0:=Blk.new w (tc Tsk.zero) 47
 have kb0:=(KeepsBut.refl g w).alloc (.cells (tc Tsk.zero) 47)
 refine (qg1 g _ hc0).mono ?_
 rintro e w1 ⟨t,rfl,hc1,k1⟩
 have B1:=B0.but k1 (by omega)
 have kb1:=kb0.trans k1
 have hr1:=B1.lt
 obtain ⟨r,Hr⟩:∃ r,Hid (w.heap.size=r):=⟨_,rfl⟩
 have hrr:=Hr.out
 rw [Hr.out] at B1 ⊢
 have S:DR w (w1.alloc (.cells (tc t) 47)) g r w1.heap.size t:=⟨hc1.keeps ((Keeps.refl _).alloc _),kb1.alloc _,B1.alloc _,Blk.new _ _ _,by omega,by omega,by omega⟩
 clear B0 B1 kb0 kb1 hc0 hc1 k1 hc hrr hr1
 go_wp2_with fail
 change Calls _ _ _ (w1.alloc (.cells (tc t) 47)) _
 generalize w1.alloc (.cells (tc t) 47)=W at *
 generalize w1.heap.size=s at *
 refine (qal g _ _ S.cur (by omega) (by omega)).mono ?_
 rintro e w3 ⟨c,rfl,hx0,hx1,hc3,k3⟩
 have S:=S.but k3 hc3
 clear hc3 k3
 go_upto_block 0 with fail
 go_cut [] (fun wx=>∃ t:Tsk,DR w wx g r s t)
 case first =>
  obtain rfl | rfl | rfl | rfl | rfl | rfl | rfl | rfl | hc8:c=0∨c=1∨c=2∨c=3∨c=4∨c=5∨c=6∨c=7∨8 <= c:=by omega
  ·go_wp2_with fail
   refine (qcv (fun _=>True) g [0,1000,1001] _ _ 3 3 _ _ rfl S.cur rfl (by decide) (by decide) rfl (by simp)).mono ?_
   rintro e w4 ⟨x,rfl,-,hc4,k4⟩
   have S:=S.but k4 hc4
   clear hc4 k4
   obtain ⟨q1,q2,f1,f2⟩:=S.rules
   have HS:Hid (DR w w4 g r s t):=S
   clear S
   go_wp2_with fail
   go_meet
   exact ⟨_,HS.out.no (x)⟩
  ·go_wp2_with fail
   refine (qcv (fun _=>True) g [-1,3,4] _ _ 3 3 _ _ rfl S.cur rfl (by decide) (by decide) rfl (by simp)).mono ?_
   rintro e w4 ⟨x,rfl,-,hc4,k4⟩
   have S:=S.but k4 hc4
   clear hc4 k4
   obtain ⟨q1,q2,f1,f2⟩:=S.rules
   have HS:Hid (DR w w4 g r s t):=S
   clear S
   go_wp2_with fail
   go_meet
   exact ⟨_,HS.out.cpu (x)⟩
  ·go_wp2_with fail
   refine (qal g _ _ S.cur (by omega) (by omega)).mono ?_
   rintro e w4 ⟨x,rfl,hy0,hy1,hc4,k4⟩
   have S:=S.but k4 hc4
   clear hc4 k4
   obtain ⟨q1,q2,f1,f2⟩:=S.rules
   have HS:Hid (DR w w4 g r s t):=S
   clear S
   go_wp2_with fail
   go_meet
   exact ⟨_,HS.out.st (x)⟩
  ·go_wp2_with fail
   refine (qal g _ _ S.cur (by omega) (by omega)).mono ?_
   rintro e w4 ⟨x,rfl,hy0,hy1,hc4,k4⟩
   have S:=S.but k4 hc4
   clear hc4 k4
   obtain ⟨q1,q2,f1,f2⟩:=S.rules
   have HS:Hid (DR w w4 g r s t):=S
   clear S
   go_wp2_with fail
   go_meet
   exact ⟨_,HS.out.cls (x)⟩
  ·go_wp2_with fail
   refine (qal g _ _ S.cur (by omega) (by omega)).mono ?_
   rintro e w4 ⟨x,rfl,hy0,hy1,hc4,k4⟩
   have S:=S.but k4 hc4
   clear hc4 k4
   obtain ⟨q1,q2,f1,f2⟩:=S.rules
   have HS:Hid (DR w w4 g r s t):=S
   clear S
   go_wp2_with fail
   go_meet
   exact ⟨_,HS.out.left (x - 2)⟩
  ·go_wp2_with fail
   refine (qcv (fun _=>True) g [-1,5,100040,100041] _ _ 4 4 _ _ rfl S.cur rfl (by decide) (by decide) rfl (by simp)).mono ?_
   rintro e w4 ⟨x,rfl,-,hc4,k4⟩
   have S:=S.but k4 hc4
   clear hc4 k4
   obtain ⟨q1,q2,f1,f2⟩:=S.rules
   have HS:Hid (DR w w4 g r s t):=S
   clear S
   go_wp2_with fail
   go_meet
   exact ⟨_,HS.out.due (x)⟩
  ·go_wp2_with fail
   refine (qcv (fun _=>True) g [-1,5,100000000,100000001,99999990] _ _ 5 5 _ _ rfl S.cur rfl (by decide) (by decide) rfl (by simp)).mono ?_
   rintro e w4 ⟨x,rfl,-,hc4,k4⟩
   have S:=S.but k4 hc4
   clear hc4 k4
   obtain ⟨q1,q2,f1,f2⟩:=S.rules
   have HS:Hid (DR w w4 g r s t):=S
   clear S
   go_wp2_with fail
   go_meet
   exact ⟨_,HS.out.v (x)⟩
  ·go_wp2_with fail
   refine (qal g _ _ S.cur (by omega) (by omega)).mono ?_
   rintro e w4 ⟨x,rfl,hy0,hy1,hc4,k4⟩
   have S:=S.but k4 hc4
   clear hc4 k4
   obtain ⟨q1,q2,f1,f2⟩:=S.rules
   have HS:Hid (DR w w4 g r s t):=S
   clear S
   go_wp2_with fail
   go_meet
   exact ⟨_,HS.out.prio (x)⟩
  ·have n0:(c==0)=false:=by simp;omega
   have n1:(c==1)=false:=by simp;omega
   have n2:(c==2)=false:=by simp;omega
   have n3:(c==3)=false:=by simp;omega
   have n4:(c==4)=false:=by simp;omega
   have n5:(c==5)=false:=by simp;omega
   have n6:(c==6)=false:=by simp;omega
   have n7:(c==7)=false:=by simp;omega
   go_wp2_with fail
   go_meet
   exact ⟨_,S⟩
 case rest =>
 obtain ⟨u,S⟩:=hcut
 generalize wc=W9 at *
 obtain ⟨q1,q2,f1,f2⟩:=S.rules
 have HS:Hid (DR w W9 g r s u):=S
 clear S
 go_wp2
 have T:=HS.out.done
 change bodyPost _ _ _ _ _ (putT W9 r u)
 generalize putT W9 r u=X at T ⊢
 obtain ⟨T1,T2,T3⟩:=T
 exact bodyPost_ret (v:=tk u) (by simp [results,Tryz.results99,go_sem,T1.cells]) rfl ⟨_,rfl,T2,T3⟩
end Go.Proofs.YthpdlbcdbncnhaaGreatDoor
