/-
  A drawn task: the contracts of the model's draws.
  A drawn task that may be wrong in one field: the contract o
-/
import Derived.Test.YteagpjlgjfaclaaGreatDoorTaskNew
import Derived.Test.YteagpjlgjfaclaaGreatDoorCur
import Derived.Deep.DeepCutAuto
import Derived.Deep.CutBlock
namespace Go.Proofs.YteagpjlgjfaclaaGreatDoor
set_option maxRecDepth 100000
open Go.RowKit
theorem aq.but {g:Nat} {w w':World} {b:Nat} {C:Array Value} (h:aq w b C) (k:ab g w w') (hg:b≠g):aq w' b C :=
 ⟨Nat.lt_of_lt_of_le h.lt k.size,fun i=>(k.cells b i h.lt hg).trans (h.cells i),fun i=>(World.frozen?_of_block (w:=w) (k.block b h.lt hg)).trans (h.aO i)⟩
theorem bf.putT {w:World} {g b:Nat} (h:bf w g) (hb:g < b) (t:ar):bf (putT w b t) g:=(((((((((((((h.aI hb _ _).aI hb _ _).aI hb _ _).aI hb _ _).aI hb _ _).aI hb _ _).aI hb _ _).aI hb _ _).aI hb _ _).aI hb _ _).aI hb _ _).aI hb _ _).aI hb _ _).aI hb _ _
theorem ab.putT {g b:Nat} {a w:World} (h:ab g a w) (hp:a.heap.size <= b) (t:ar):ab g a (Go.Proofs.YteagpjlgjfaclaaGreatDoor.putT w b t):=(((((((((((((h.aI hp _).aI hp _).aI hp _).aI hp _).aI hp _).aI hp _).aI hp _).aI hp _).aI hp _).aI hp _).aI hp _).aI hp _).aI hp _).aI hp _
structure DR (w W:World) (g r s:Nat) (t:ar):Prop where
 cur:bf W g
 kb:ab g w W
 res:aq W r (tc ar.zero)
 box:aq W s (tc t)
 gr:g < r
 rs:r < s
 wr:w.heap.size <= r
theorem DR.but {w W W':World} {g r s:Nat} {t:ar} (h:DR w W g r s t) (k:ab g W W') (hc:bf W' g):DR w W' g r s t :=
 ⟨hc,h.kb.trans k,h.res.but k (by have:=h.gr;omega),h.box.but k (by have:=h.gr;have:=h.rs;omega),h.gr,h.rs,h.wr⟩
theorem DR.keeps {w W W':World} {g r s:Nat} {t:ar} (h:DR w W g r s t) (k:aa W W'):DR w W' g r s t:=h.but (.of k) (h.cur.keeps k)
theorem DR.rules {w W:World} {g r s:Nat} {t:ar} (h:DR w W g r s t):(∀ k,W.cell? ⟨s,k,none⟩=(tc t)[k]?) /\ (∀ k,W.cell? ⟨r,k,none⟩=(tc ar.zero)[k]?) /\ (∀ k,W.frozen? ⟨s,k,none⟩=false) /\ ∀ k,W.frozen? ⟨r,k,none⟩=false :=
 ⟨h.box.cells,h.res.cells,h.box.aO,h.res.aO⟩
theorem DR.put {w W:World} {g r s:Nat} {t:ar} (h:DR w W g r s t) (u:ar):DR w (putT W s u) g r s u :=
 ⟨h.cur.putT (by have:=h.gr;have:=h.rs;omega) u,h.kb.putT (by have:=h.wr;have:=h.rs;omega) u,h.res.tg (by have:=h.rs;omega) u,h.box.putT u,h.gr,h.rs,h.wr⟩
theorem DR.cell {w W:World} {g r s:Nat} {t u:ar} (h:DR w W g r s t) (k:Nat) (hk:k < 14) (v:Value) (hu:tc u=(tc t).setIfInBounds k v):DR w (W.setCell ⟨s,k,none⟩ v) g r s u :=
 ⟨h.cur.aI (by have:=h.gr;have:=h.rs;omega) _ _,h.kb.aI (by have:=h.wr;have:=h.rs;show _ <= s;omega) _,h.res.far (by have:=h.rs;omega) _,by rw [hu];exact h.box.set k hk v,h.gr,h.rs,h.wr⟩
theorem DR.st {w W:World} {g r s:Nat} {t:ar} (h:DR w W g r s t) (x:Int):DR w (W.setCell ⟨s,3,none⟩ (.int .i64 x)) g r s { t with st:=x }:=h.cell 3 (by decide) _ (by simp)
theorem DR.left {w W:World} {g r s:Nat} {t:ar} (h:DR w W g r s t) (x:Int):DR w (W.setCell ⟨s,7,none⟩ (.int .i64 x)) g r s { t with left:=x }:=h.cell 7 (by decide) _ (by simp)
theorem DR.idle {w W:World} {g r s:Nat} {t:ar} (h:DR w W g r s t) (x:Bool):DR w (W.setCell ⟨s,4,none⟩ (.bool x)) g r s { t with idle:=x }:=h.cell 4 (by decide) _ (by simp)
theorem DR.done {w W:World} {g r s:Nat} {t:ar} (h:DR w W g r s t):aq (putT W r t) r (tc t) /\ bf (putT W r t) g /\ ab g w (putT W r t) :=
 ⟨h.res.putT t,h.cur.putT h.gr t,h.kb.putT h.wr t⟩
theorem DR.new {w W:World} {g:Nat} (hc:bf W g) (hk:ab g w W) {r:Nat} (hr:aq W r (tc ar.zero)) (hg:g < r) (hw:w.heap.size <= r):DR w (W.alloc (.cells (tc ar.zero) 43)) g r W.heap.size ar.zero :=
 ⟨hc.keeps ((aa.refl _).alloc _),hk.alloc _,hr.alloc _,aq.new _ _ _,hg,hr.lt,hw⟩
set_option maxHeartbeats 8000000 in
theorem wJ (g:Nat) (w:World) (hc:bf w g) :
  Calls Tryz.prog 100 #[.pointer (some ⟨g,0,none⟩)] w fun e w'=>∃ t:ar,e = .returned (tk t) /\ bf w' g /\ ab g w w':=by
 have hgl:=hc.lt
 go_enter Tryz.func100,Tryz.ntmps100
 go_wp2_with fail
 have hc0:=hc.keeps ((aa.refl w).alloc (.cells (tc ar.zero) 43))
 have B0:=aq.new w (tc ar.zero) 43
 have pH:=(ab.refl g w).alloc (.cells (tc ar.zero) 43)
 refine (cl g _ _ hc0 (by omega) (by omega)).mono ?_
 rintro e w1 ⟨no,rfl,hn0,hn1,hc1,k1⟩
 go_wp2_with fail
 refine (cl g _ _ hc1 (by omega) (by omega)).mono ?_
 rintro e w2 ⟨cpu,rfl,hp0,hp1,hc2,k2⟩
 have B2:=B0.but (k1.trans k2) (by omega)
 have wK:=pH.trans (k1.trans k2)
 obtain ⟨r,Hr⟩:∃ r,Hid (w.heap.size=r):=⟨_,rfl⟩
 rw [Hr.out] at B2 ⊢
 have S:=DR.new hc2 wK B2 (by have:=Hr.out;omega) (by have:=Hr.out;omega)
 clear B0 B2 pH wK hc0 hc1 hc2 k1 k2 hc
 go_wp2_with fail
 change Calls _ _ _ (w2.alloc (.cells (tc ar.zero) 43)) _
 generalize w2.alloc (.cells (tc ar.zero) 43)=W at *
 generalize w2.heap.size=s at *
 refine (cl g _ _ S.cur (by omega) (by omega)).mono ?_
 rintro e w3 ⟨c,rfl,hx0,hx1,hc3,k3⟩
 have S:=S.but k3 hc3
 clear hc3 k3
 go_upto_block 0 with fail
 go_cut [] (fun wx=>∃ t:ar,DR w wx g r s t)
 case first =>
  obtain rfl | rfl | rfl:c=0∨c=1∨c=2:=by omega
  case inl =>
   go_wp2_with fail
   refine (cl g _ _ S.cur (by omega) (by omega)).mono ?_
   rintro e w4 ⟨y,rfl,hy0,hy1,hc4,k4⟩
   have S:=S.but k4 hc4
   clear hc4 k4
   go_wp2_with fail
   refine (cl g _ _ S.cur (by omega) (by omega)).mono ?_
   rintro e w5 ⟨z,rfl,hz0,hz1,eP,k5⟩
   have S:=S.but k5 eP
   clear eP k5
   go_wp2_with fail
   refine (cl g _ _ S.cur (by omega) (by omega)).mono ?_
   rintro e w6 ⟨now,rfl,hw0,hw1,hc6,k6⟩
   have S:=S.but k6 hc6
   clear hc6 k6
   go_wp2_with fail
   refine (vS _ _ _ _ _ _).mono ?_
   rintro e w7 ⟨rfl,k7⟩
   have S:=S.keeps k7
   clear k7
   obtain ⟨N,HN⟩:∃ N,Hid (j0 (1+no) cpu (1+z) (2+y) now=N):=⟨_,rfl⟩
   have tj:0 <= N.q /\ N.q <= 10:=by
    rw [<- HN.out];unfold j0;split
    ·simp [gY];omega
    ·simp [ar.zero]
   obtain ⟨hq0,hq1⟩:=tj
   rw [HN.out]
   obtain ⟨q1,q2,f1,f2⟩:=S.rules
   have HS:Hid (DR w w7 g r s ar.zero):=S
   clear S
   go_wp2_with fail
   change Calls _ _ _ (putT w7 s N) _
   have S:=HS.out.put N
   clear HS q1 q2 f1 f2
   generalize putT w7 s N=W7 at *
   refine (cl g _ _ S.cur (by omega) (by omega)).mono ?_
   rintro e w8 ⟨l,rfl,hl0,hl1,hc8,k8⟩
   have S:=S.but k8 hc8
   clear hc8 k8
   obtain ⟨q1,q2,f1,f2⟩:=S.rules
   have HS:Hid (DR w w8 g r s N):=S
   clear S
   go_wp2_with fail
   go_meet
   exact ⟨_,HS.out.left l⟩
  case inr.inl =>
   go_wp2_with fail
   refine (cl g _ _ S.cur (by omega) (by omega)).mono ?_
   rintro e w4 ⟨y,rfl,hy0,hy1,hc4,k4⟩
   have S:=S.but k4 hc4
   clear hc4 k4
   go_wp2_with fail
   refine (cl g _ _ S.cur (by omega) (by omega)).mono ?_
   rintro e w5 ⟨z,rfl,hz0,hz1,eP,k5⟩
   have S:=S.but k5 eP
   clear eP k5
   go_wp2_with fail
   refine (cl g _ _ S.cur (by omega) (by omega)).mono ?_
   rintro e w6 ⟨u,rfl,hw0,hw1,hc6,k6⟩
   have S:=S.but k6 hc6
   clear hc6 k6
   go_wp2_with fail
   refine (vT _ _ _ _ _ _).mono ?_
   rintro e w7 ⟨rfl,k7⟩
   have S:=S.keeps k7
   clear k7
   obtain ⟨N,HN⟩:∃ N,Hid (dV (fN (1+no) cpu (1+y) z u)=N):=⟨_,rfl⟩
   have tj:0 <= N.round /\ N.round <= 10:=by
    rw [<- HN.out];unfold dV;split
    ·simp [fN];omega
    ·simp [ar.zero]
   obtain ⟨hq0,hq1⟩:=tj
   rw [HN.out]
   obtain ⟨q1,q2,f1,f2⟩:=S.rules
   have HS:Hid (DR w w7 g r s ar.zero):=S
   clear S
   cases hd:decide (0 < N.round)
   ·go_wp2_with fail
    go_meet
    exact ⟨_,HS.out.put N⟩
   ·have hd':=of_decide_eq_true hd
    go_wp2_with fail
    change Calls _ _ _ (putT w7 s N) _
    have S:=HS.out.put N
    clear HS q1 q2 f1 f2
    generalize putT w7 s N=W7 at *
    refine (cl g _ _ S.cur (by omega) (by omega)).mono ?_
    rintro e w8 ⟨l,rfl,hl0,hl1,hc8,k8⟩
    have S:=S.but k8 hc8
    clear hc8 k8
    obtain ⟨q1,q2,f1,f2⟩:=S.rules
    have HS:Hid (DR w w8 g r s N):=S
    clear S
    go_wp2_with fail
    go_meet
    exact ⟨_,HS.out.left (1+l)⟩
  case inr.inr =>
   go_wp2_with fail
   refine (cl g _ _ S.cur (by omega) (by omega)).mono ?_
   rintro e w4 ⟨y,rfl,hy0,hy1,hc4,k4⟩
   have S:=S.but k4 hc4
   clear hc4 k4
   go_wp2_with fail
   refine (cl g _ _ S.cur (by omega) (by omega)).mono ?_
   rintro e w5 ⟨z,rfl,hz0,hz1,eP,k5⟩
   have S:=S.but k5 eP
   clear eP k5
   go_wp2_with fail
   refine (vR _ _ _ _ _).mono ?_
   rintro e w7 ⟨rfl,k7⟩
   have S:=S.keeps k7
   clear k7
   obtain ⟨N,HN⟩:∃ N,Hid (dV (kE (1+no) cpu (y - 4) z)=N):=⟨_,rfl⟩
   rw [HN.out]
   obtain ⟨q1,q2,f1,f2⟩:=S.rules
   have HS:Hid (DR w w7 g r s ar.zero):=S
   clear S
   go_wp2_with fail
   go_meet
   exact ⟨_,HS.out.put N⟩
 case rest =>
 obtain ⟨t,S⟩:=hcut
 generalize wc=W9 at *
 go_wp2_with fail
 refine (lL g _ _ S.cur (by omega) (by omega)).mono ?_
 rintro e x1 ⟨b1,rfl,wL,wM⟩
 have S:=S.but wM wL
 clear wL wM
 cases b1
 ·obtain ⟨q1,q2,f1,f2⟩:=S.rules
  go_wp2_with fail
  clear q1 q2 f1 f2
  generalize t=t' at S
  refine (lL g _ _ S.cur (by omega) (by omega)).mono ?_
  rintro e x2 ⟨b2,rfl,pI,pJ⟩
  have S:=S.but pJ pI
  clear pI pJ
  obtain ⟨q1,q2,f1,f2⟩:=S.rules
  have HS:Hid (DR w x2 g r s t'):=S
  clear S
  go_upto_region 17 with fail
  have S:=HS.out.idle b2
  clear HS q1 q2 f1 f2
  generalize x2.setCell ⟨s,4,none⟩ (.bool b2)=y2 at *
  generalize { t' with idle:=b2 }=u at S
  obtain ⟨q1,q2,f1,f2⟩:=S.rules
  have HS:Hid (DR w y2 g r s u):=S
  clear S
  go_wp2
  have T:=HS.out.done
  change bodyPost _ _ _ _ _ (putT y2 r u)
  generalize putT y2 r u=X at T ⊢
  obtain ⟨T1,T2,T3⟩:=T
  exact bodyPost_ret (v:=tk u) (by simp [results,Tryz.results100,go_sem,T1.cells]) rfl ⟨_,rfl,T2,T3⟩
 ·obtain ⟨q1,q2,f1,f2⟩:=S.rules
  go_wp2_with fail
  have S:=S.st 2
  clear q1 q2 f1 f2
  generalize x1.setCell ⟨s,3,none⟩ (.int .i64 2)=y1 at *
  generalize { t with st:=2 }=t' at S
  refine (lL g _ _ S.cur (by omega) (by omega)).mono ?_
  rintro e x2 ⟨b2,rfl,pI,pJ⟩
  have S:=S.but pJ pI
  clear pI pJ
  obtain ⟨q1,q2,f1,f2⟩:=S.rules
  have HS:Hid (DR w x2 g r s t'):=S
  clear S
  go_upto_region 17 with fail
  have S:=HS.out.idle b2
  clear HS q1 q2 f1 f2
  generalize x2.setCell ⟨s,4,none⟩ (.bool b2)=y2 at *
  generalize { t' with idle:=b2 }=u at S
  obtain ⟨q1,q2,f1,f2⟩:=S.rules
  have HS:Hid (DR w y2 g r s u):=S
  clear S
  go_wp2
  have T:=HS.out.done
  change bodyPost _ _ _ _ _ (putT y2 r u)
  generalize putT y2 r u=X at T ⊢
  obtain ⟨T1,T2,T3⟩:=T
  exact bodyPost_ret (v:=tk u) (by simp [results,Tryz.results100,go_sem,T1.cells]) rfl ⟨_,rfl,T2,T3⟩
theorem DR.no {w W:World} {g r s:Nat} {t:ar} (h:DR w W g r s t) (x:Int):DR w (W.setCell ⟨s,0,none⟩ (.int .i64 x)) g r s { t with no:=x }:=h.cell 0 (by decide) _ (by simp)
theorem DR.cpu {w W:World} {g r s:Nat} {t:ar} (h:DR w W g r s t) (x:Int):DR w (W.setCell ⟨s,2,none⟩ (.int .i64 x)) g r s { t with cpu:=x }:=h.cell 2 (by decide) _ (by simp)
theorem DR.cls {w W:World} {g r s:Nat} {t:ar} (h:DR w W g r s t) (x:Int):DR w (W.setCell ⟨s,1,none⟩ (.int .i64 x)) g r s { t with cls:=x }:=h.cell 1 (by decide) _ (by simp)
theorem DR.due {w W:World} {g r s:Nat} {t:ar} (h:DR w W g r s t) (x:Int):DR w (W.setCell ⟨s,8,none⟩ (.int .i64 x)) g r s { t with due:=x }:=h.cell 8 (by decide) _ (by simp)
theorem DR.v {w W:World} {g r s:Nat} {t:ar} (h:DR w W g r s t) (x:Int):DR w (W.setCell ⟨s,13,none⟩ (.int .i64 x)) g r s { t with v:=x }:=h.cell 13 (by decide) _ (by simp)
theorem DR.prio {w W:World} {g r s:Nat} {t:ar} (h:DR w W g r s t) (x:Int):DR w (W.setCell ⟨s,9,none⟩ (.int .i64 x)) g r s { t with prio:=x }:=h.cell 9 (by decide) _ (by simp)
set_option maxHeartbeats 8000000 in
theorem sA (g:Nat) (w:World) (hc:bf w g) :
  Calls Tryz.prog 54 #[.pointer (some ⟨g,0,none⟩)] w fun e w'=>∃ t:ar,e = .returned (tk t) /\ bf w' g /\ ab g w w':=by
 have hgl:=hc.lt
 go_enter Tryz.func54,Tryz.ntmps54
 go_wp2_with fail
 have hc0:=hc.keeps ((aa.refl w).alloc (.cells (tc ar.zero) 43))
 have B0:=aq.new w (tc ar.zero) 43
 have pH:=(ab.refl g w).alloc (.cells (tc ar.zero) 43)
 refine (wJ g _ hc0).mono ?_
 rintro e w1 ⟨t,rfl,hc1,k1⟩
 have B1:=B0.but k1 (by omega)
 have wN:=pH.trans k1
 have hr1:=B1.lt
 obtain ⟨r,Hr⟩:∃ r,Hid (w.heap.size=r):=⟨_,rfl⟩
 have hrr:=Hr.out
 rw [Hr.out] at B1 ⊢
 have S:DR w (w1.alloc (.cells (tc t) 43)) g r w1.heap.size t:=⟨hc1.keeps ((aa.refl _).alloc _),wN.alloc _,B1.alloc _,aq.new _ _ _,by omega,by omega,by omega⟩
 clear B0 B1 pH wN hc0 hc1 k1 hc hrr hr1
 go_wp2_with fail
 change Calls _ _ _ (w1.alloc (.cells (tc t) 43)) _
 generalize w1.alloc (.cells (tc t) 43)=W at *
 generalize w1.heap.size=s at *
 refine (cl g _ _ S.cur (by omega) (by omega)).mono ?_
 rintro e w3 ⟨c,rfl,hx0,hx1,hc3,k3⟩
 have S:=S.but k3 hc3
 clear hc3 k3
 go_upto_block 0 with fail
 go_cut [] (fun wx=>∃ t:ar,DR w wx g r s t)
 case first =>
  obtain rfl | rfl | rfl | rfl | rfl | rfl | rfl | rfl | hc8:c=0∨c=1∨c=2∨c=3∨c=4∨c=5∨c=6∨c=7∨8 <= c:=by omega
  ·go_wp2_with fail
   refine (iu (fun _=>True) g [0,1000,1001] _ _ 3 3 _ _ rfl S.cur rfl (by decide) (by decide) rfl (by simp)).mono ?_
   rintro e w4 ⟨x,rfl,-,hc4,k4⟩
   have S:=S.but k4 hc4
   clear hc4 k4
   obtain ⟨q1,q2,f1,f2⟩:=S.rules
   have HS:Hid (DR w w4 g r s t):=S
   clear S
   go_wp2_with fail
   go_meet
   exact ⟨_,HS.out.no (x)⟩
  ·go_wp2_with fail
   refine (iu (fun _=>True) g [-1,3,4] _ _ 3 3 _ _ rfl S.cur rfl (by decide) (by decide) rfl (by simp)).mono ?_
   rintro e w4 ⟨x,rfl,-,hc4,k4⟩
   have S:=S.but k4 hc4
   clear hc4 k4
   obtain ⟨q1,q2,f1,f2⟩:=S.rules
   have HS:Hid (DR w w4 g r s t):=S
   clear S
   go_wp2_with fail
   go_meet
   exact ⟨_,HS.out.cpu (x)⟩
  ·go_wp2_with fail
   refine (cl g _ _ S.cur (by omega) (by omega)).mono ?_
   rintro e w4 ⟨x,rfl,hy0,hy1,hc4,k4⟩
   have S:=S.but k4 hc4
   clear hc4 k4
   obtain ⟨q1,q2,f1,f2⟩:=S.rules
   have HS:Hid (DR w w4 g r s t):=S
   clear S
   go_wp2_with fail
   go_meet
   exact ⟨_,HS.out.st (x)⟩
  ·go_wp2_with fail
   refine (cl g _ _ S.cur (by omega) (by omega)).mono ?_
   rintro e w4 ⟨x,rfl,hy0,hy1,hc4,k4⟩
   have S:=S.but k4 hc4
   clear hc4 k4
   obtain ⟨q1,q2,f1,f2⟩:=S.rules
   have HS:Hid (DR w w4 g r s t):=S
   clear S
   go_wp2_with fail
   go_meet
   exact ⟨_,HS.out.cls (x)⟩
  ·go_wp2_with fail
   refine (cl g _ _ S.cur (by omega) (by omega)).mono ?_
   rintro e w4 ⟨x,rfl,hy0,hy1,hc4,k4⟩
   have S:=S.but k4 hc4
   clear hc4 k4
   obtain ⟨q1,q2,f1,f2⟩:=S.rules
   have HS:Hid (DR w w4 g r s t):=S
   clear S
   go_wp2_with fail
   go_meet
   exact ⟨_,HS.out.left (x - 2)⟩
  ·go_wp2_with fail
   refine (iu (fun _=>True) g [-1,5,100040,100041] _ _ 4 4 _ _ rfl S.cur rfl (by decide) (by decide) rfl (by simp)).mono ?_
   rintro e w4 ⟨x,rfl,-,hc4,k4⟩
   have S:=S.but k4 hc4
   clear hc4 k4
   obtain ⟨q1,q2,f1,f2⟩:=S.rules
   have HS:Hid (DR w w4 g r s t):=S
   clear S
   go_wp2_with fail
   go_meet
   exact ⟨_,HS.out.due (x)⟩
  ·go_wp2_with fail
   refine (iu (fun _=>True) g [-1,5,100000000,100000001,99999990] _ _ 5 5 _ _ rfl S.cur rfl (by decide) (by decide) rfl (by simp)).mono ?_
   rintro e w4 ⟨x,rfl,-,hc4,k4⟩
   have S:=S.but k4 hc4
   clear hc4 k4
   obtain ⟨q1,q2,f1,f2⟩:=S.rules
   have HS:Hid (DR w w4 g r s t):=S
   clear S
   go_wp2_with fail
   go_meet
   exact ⟨_,HS.out.v (x)⟩
  ·go_wp2_with fail
   refine (cl g _ _ S.cur (by omega) (by omega)).mono ?_
   rintro e w4 ⟨x,rfl,hy0,hy1,hc4,k4⟩
   have S:=S.but k4 hc4
   clear hc4 k4
   obtain ⟨q1,q2,f1,f2⟩:=S.rules
   have HS:Hid (DR w w4 g r s t):=S
   clear S
   go_wp2_with fail
   go_meet
   exact ⟨_,HS.out.prio (x)⟩
  ·have n0:(c==0)=false:=by simp;omega
   have n1:(c==1)=false:=by simp;omega
   have n2:(c==2)=false:=by simp;omega
   have n3:(c==3)=false:=by simp;omega
   have n4:(c==4)=false:=by simp;omega
   have n5:(c==5)=false:=by simp;omega
   have n6:(c==6)=false:=by simp;omega
   have n7:(c==7)=false:=by simp;omega
   go_wp2_with fail
   go_meet
   exact ⟨_,S⟩
 case rest =>
 obtain ⟨u,S⟩:=hcut
 generalize wc=W9 at *
 obtain ⟨q1,q2,f1,f2⟩:=S.rules
 have HS:Hid (DR w W9 g r s u):=S
 clear S
 go_wp2
 have T:=HS.out.done
 change bodyPost _ _ _ _ _ (putT W9 r u)
 generalize putT W9 r u=X at T ⊢
 obtain ⟨T1,T2,T3⟩:=T
 exact bodyPost_ret (v:=tk u) (by simp [results,Tryz.results54,go_sem,T1.cells]) rfl ⟨_,rfl,T2,T3⟩
end Go.Proofs.YteagpjlgjfaclaaGreatDoor
