/-
  New tasks: contracts of the model's functions.
  A drawn task: the contracts of the model's draws.
-/
import Derived.Test.YteagpjlgjfaclaaGreatDoorTaskSpec
import Derived.Test.YteagpjlgjfaclaaGreatDoorLate
import Derived.Test.YteagpjlgjfaclaaGreatDoorCur
import Derived.Deep.DeepCutAuto
import Derived.Deep.CutBlock
namespace Go.Proofs.YteagpjlgjfaclaaGreatDoor
set_option maxRecDepth 100000
open Go.RowKit
def eA (t:ag):ag:=if aY t then t else ag.zero
set_option maxHeartbeats 2000000 in
theorem yd (t:ag) (w:World) :
  Calls Tryz.prog 175 #[tk t] w fun e w'=>e = .returned (.tuple #[tk (eA t),.bool (aY t)]) /\ aa w w':=by
 go_enter Tryz.func175,Tryz.ntmps175
 go_wp2_with fail
 have kW:aa w ((w.alloc (.cells (tc t) 43)).alloc (.cells (tc ag.zero) 43)):=((aa.refl _).alloc _).alloc _
 have B0:=(ai.new w (tc t) 43).alloc (.cells (tc ag.zero) 43)
 have B1:=ai.new (w.alloc (.cells (tc t) 43)) (tc ag.zero) 43
 rw [show (w.alloc (.cells (tc t) 43)).heap.size=w.heap.size+1 by simp] at B1
 refine (lW t _).mono ?_
 rintro e w1 ⟨rfl,k1⟩
 have C0:=B0.keeps k1
 have C1:=B1.keeps k1
 have k2:=kW.trans k1
 clear B0 B1 k1 kW
 obtain ⟨_,r1,r2⟩:=C0
 have D1:Hid (ai w1 (w.heap.size+1) (tc ag.zero)):=C1
 obtain ⟨_,r3,r4⟩:=C1
 cases hb:aY t
 ·have Hn:Hid (eA t=ag.zero):=by show _=_;simp [eA,hb]
  have Hb:Hid (aY t=false):=hb
  go_wp2
  have D:=D1.out.putT ag.zero
  have K:=k2.putT (b:=w.heap.size+1) (by omega) ag.zero
  change bodyPost _ _ _ _ _ (putT w1 (w.heap.size+1) ag.zero)
  generalize putT w1 (w.heap.size+1) ag.zero=X at D K ⊢
  exact bodyPost_ret (v := .tuple #[tk ag.zero,.bool false]) (by simp [results,Tryz.results175,go_sem,D.cells]) rfl ⟨by rw [Hn.out,Hb.out],K⟩
 ·have Hn:Hid (eA t=t):=by show _=_;simp [eA,hb]
  have Hb:Hid (aY t=true):=hb
  go_wp2
  have D:=D1.out.putT t
  have K:=k2.putT (b:=w.heap.size+1) (by omega) t
  change bodyPost _ _ _ _ _ (putT w1 (w.heap.size+1) t)
  generalize putT w1 (w.heap.size+1) t=X at D K ⊢
  exact bodyPost_ret (v := .tuple #[tk t,.bool true]) (by simp [results,Tryz.results175,go_sem,D.cells]) rfl ⟨by rw [Hn.out,Hb.out],K⟩
def iV (no cpu q p now:Int):ag:=⟨no,1,cpu,1,false,q,p,q,now+p,0,0,0,0,0⟩
def gC (no cpu prio round seq:Int):ag:=⟨no,2,cpu,1,false,0,0,round,0,prio,round,seq,0,0⟩
def lS (no cpu nice v:Int):ag:=⟨no,3,cpu,1,false,0,0,0,0,0,0,0,nice,v⟩
def lT (no cpu q p now:Int):Bool:=aF now 0 100000&&okB q p&&aY (iV no cpu q p now)
def lg (no cpu q p now:Int):ag:=if lT no cpu q p now then iV no cpu q p now else ag.zero
set_option maxHeartbeats 2000000 in
theorem zl (no cpu q p now:Int) (w:World) :
  Calls Tryz.prog 144 #[.int .i64 no,.int .i64 cpu,.int .i64 q,.int .i64 p,.int .i64 now] w fun e w'=>e = .returned (.tuple #[tk (lg no cpu q p now),.bool (lT no cpu q p now)]) /\ aa w w':=by
 cases h1:aF now 0 100000
 ·have Hb:Hid (lT no cpu q p now=false):=by show _=_;simp [lT,h1]
  have Hn:Hid (lg no cpu q p now=ag.zero):=by show _=_;simp [lg,Hb.out]
  go_enter Tryz.func144,Tryz.ntmps144
  go_wp2_with (go_at_call 27;refine (bn _ _ _ _).mono ?_;rintro e w' ⟨rfl,rfl⟩)
  exact bodyPost_ret (v := .tuple #[tk ag.zero,.bool false]) (by simp [results,Tryz.results144,go_sem,ag.zero]) rfl ⟨by rw [Hn.out,Hb.out],(aa.refl _).alloc _⟩
 ·cases h2:okB q p
  ·have Hb:Hid (lT no cpu q p now=false):=by show _=_;simp [lT,h2]
   have Hn:Hid (lg no cpu q p now=ag.zero):=by show _=_;simp [lg,Hb.out]
   go_enter Tryz.func144,Tryz.ntmps144
   go_wp2_with (first
    | (go_at_call 27;refine (bn _ _ _ _).mono ?_;rintro e w' ⟨rfl,rfl⟩)
    | (go_at_call 72;refine (j7 _ _ _).mono ?_;rintro e w' ⟨rfl,rfl⟩))
   exact bodyPost_ret (v := .tuple #[tk ag.zero,.bool false]) (by simp [results,Tryz.results144,go_sem,ag.zero]) rfl ⟨by rw [Hn.out,Hb.out],((aa.refl _).alloc _).alloc _⟩
  ·have Hb:Hid (lT no cpu q p now=aY (iV no cpu q p now)):=by show _=_;simp [lT,h1,h2]
   have Hn:Hid (lg no cpu q p now=eA (iV no cpu q p now)):=by show _=_;simp [lg,eA,Hb.out]
   obtain ⟨i1,i2⟩:=dq.1 h1
   obtain ⟨⟨i3,i4⟩,i5,i6⟩:=lA.1 h2
   go_enter Tryz.func144,Tryz.ntmps144
   go_wp2_with (first
    | (go_at_call 27;refine (bn _ _ _ _).mono ?_;rintro e w' ⟨rfl,rfl⟩)
    | (go_at_call 72;refine (j7 _ _ _).mono ?_;rintro e w' ⟨rfl,rfl⟩))
   refine (yd (iV no cpu q p now) _).mono ?_
   rintro e w1 ⟨rfl,k1⟩
   have B:=((ai.new w (tc ag.zero) 43).alloc (.cells #[.int .i64 q,.int .i64 p] 51)).keeps k1
   have k2:aa w w1:=(((aa.refl w).alloc _).alloc _).trans k1
   clear k1
   generalize eA (iV no cpu q p now)=N at *
   generalize aY (iV no cpu q p now)=b at *
   have D1:Hid (ai w1 w.heap.size (tc ag.zero)):=B
   obtain ⟨_,r1,r2⟩:=B
   go_wp2
   have D:=D1.out.putT N
   have K:=k2.putT (b:=w.heap.size) (by omega) N
   change bodyPost _ _ _ _ _ (putT w1 w.heap.size N)
   generalize putT w1 w.heap.size N=X at D K ⊢
   exact bodyPost_ret (v := .tuple #[tk N,.bool b]) (by simp [results,Tryz.results144,go_sem,D.cells]) rfl ⟨by rw [Hn.out,Hb.out],K⟩
set_option maxHeartbeats 2000000 in
theorem zm (no cpu prio round seq:Int) (w:World) :
  Calls Tryz.prog 145 #[.int .i64 no,.int .i64 cpu,.int .i64 prio,.int .i64 round,.int .i64 seq] w fun e w'=>e = .returned (.tuple #[tk (eA (gC no cpu prio round seq)),.bool (aY (gC no cpu prio round seq))]) /\ aa w w':=by
 go_enter Tryz.func145,Tryz.ntmps145
 go_wp2_with fail
 refine (yd (gC no cpu prio round seq) _).mono ?_
 rintro e w1 ⟨rfl,k1⟩
 have B:=(ai.new w (tc ag.zero) 43).keeps k1
 have k2:aa w w1:=((aa.refl w).alloc _).trans k1
 clear k1
 obtain ⟨N,HN⟩:∃ N,Hid (eA (gC no cpu prio round seq)=N):=⟨_,rfl⟩
 obtain ⟨b,Hb⟩:∃ b,Hid (aY (gC no cpu prio round seq)=b):=⟨_,rfl⟩
 rw [HN.out,Hb.out]
 have D1:Hid (ai w1 w.heap.size (tc ag.zero)):=B
 obtain ⟨_,r1,r2⟩:=B
 go_wp2
 have D:=D1.out.putT N
 have K:=k2.putT (b:=w.heap.size) (by omega) N
 change bodyPost _ _ _ _ _ (putT w1 w.heap.size N)
 generalize putT w1 w.heap.size N=X at D K ⊢
 exact bodyPost_ret (v := .tuple #[tk N,.bool b]) (by simp [results,Tryz.results145,go_sem,D.cells]) rfl ⟨by rw [HN.out,Hb.out],K⟩
set_option maxHeartbeats 2000000 in
theorem zk (no cpu nice v:Int) (w:World) :
  Calls Tryz.prog 142 #[.int .i64 no,.int .i64 cpu,.int .i64 nice,.int .i64 v] w fun e w'=>e = .returned (.tuple #[tk (eA (lS no cpu nice v)),.bool (aY (lS no cpu nice v))]) /\ aa w w':=by
 go_enter Tryz.func142,Tryz.ntmps142
 go_wp2_with fail
 refine (yd (lS no cpu nice v) _).mono ?_
 rintro e w1 ⟨rfl,k1⟩
 have B:=(ai.new w (tc ag.zero) 43).keeps k1
 have k2:aa w w1:=((aa.refl w).alloc _).trans k1
 clear k1
 obtain ⟨N,HN⟩:∃ N,Hid (eA (lS no cpu nice v)=N):=⟨_,rfl⟩
 obtain ⟨b,Hb⟩:∃ b,Hid (aY (lS no cpu nice v)=b):=⟨_,rfl⟩
 rw [HN.out,Hb.out]
 have D1:Hid (ai w1 w.heap.size (tc ag.zero)):=B
 obtain ⟨_,r1,r2⟩:=B
 go_wp2
 have D:=D1.out.putT N
 have K:=k2.putT (b:=w.heap.size) (by omega) N
 change bodyPost _ _ _ _ _ (putT w1 w.heap.size N)
 generalize putT w1 w.heap.size N=X at D K ⊢
 exact bodyPost_ret (v := .tuple #[tk N,.bool b]) (by simp [results,Tryz.results142,go_sem,D.cells]) rfl ⟨by rw [HN.out,Hb.out],K⟩
theorem ai.but {g:Nat} {w w':World} {b:Nat} {C:Array Value} (h:ai w b C) (k:ab g w w') (hg:b≠g):ai w' b C :=
 ⟨Nat.lt_of_lt_of_le h.lt k.size,fun i=>(k.cells b i h.lt hg).trans (h.cells i),fun i=>(World.frozen?_of_block (w:=w) (k.block b h.lt hg)).trans (h.aM i)⟩
theorem bj.putT {w:World} {g b:Nat} (h:bj w g) (hb:g < b) (t:ag):bj (putT w b t) g:=(((((((((((((h.aH hb _ _).aH hb _ _).aH hb _ _).aH hb _ _).aH hb _ _).aH hb _ _).aH hb _ _).aH hb _ _).aH hb _ _).aH hb _ _).aH hb _ _).aH hb _ _).aH hb _ _).aH hb _ _
theorem ab.putT {g b:Nat} {a w:World} (h:ab g a w) (hp:a.heap.size <= b) (t:ag):ab g a (Go.Proofs.YteagpjlgjfaclaaGreatDoor.putT w b t):=(((((((((((((h.aH hp _).aH hp _).aH hp _).aH hp _).aH hp _).aH hp _).aH hp _).aH hp _).aH hp _).aH hp _).aH hp _).aH hp _).aH hp _).aH hp _
structure DR (w W:World) (g r s:Nat) (t:ag):Prop where
 cur:bj W g
 kb:ab g w W
 res:ai W r (tc ag.zero)
 box:ai W s (tc t)
 gr:g < r
 rs:r < s
 wr:w.heap.size <= r
theorem DR.but {w W W':World} {g r s:Nat} {t:ag} (h:DR w W g r s t) (k:ab g W W') (hc:bj W' g):DR w W' g r s t :=
 ⟨hc,h.kb.trans k,h.res.but k (by have:=h.gr;omega),h.box.but k (by have:=h.gr;have:=h.rs;omega),h.gr,h.rs,h.wr⟩
theorem DR.keeps {w W W':World} {g r s:Nat} {t:ag} (h:DR w W g r s t) (k:aa W W'):DR w W' g r s t:=h.but (.of k) (h.cur.keeps k)
theorem DR.rules {w W:World} {g r s:Nat} {t:ag} (h:DR w W g r s t):(∀ k,W.cell? ⟨s,k,none⟩=(tc t)[k]?) /\ (∀ k,W.cell? ⟨r,k,none⟩=(tc ag.zero)[k]?) /\ (∀ k,W.frozen? ⟨s,k,none⟩=false) /\ ∀ k,W.frozen? ⟨r,k,none⟩=false :=
 ⟨h.box.cells,h.res.cells,h.box.aM,h.res.aM⟩
theorem DR.put {w W:World} {g r s:Nat} {t:ag} (h:DR w W g r s t) (u:ag):DR w (putT W s u) g r s u :=
 ⟨h.cur.putT (by have:=h.gr;have:=h.rs;omega) u,h.kb.putT (by have:=h.wr;have:=h.rs;omega) u,h.res.yb (by have:=h.rs;omega) u,h.box.putT u,h.gr,h.rs,h.wr⟩
theorem DR.cell {w W:World} {g r s:Nat} {t u:ag} (h:DR w W g r s t) (k:Nat) (hk:k < 14) (v:Value) (hu:tc u=(tc t).setIfInBounds k v):DR w (W.setCell ⟨s,k,none⟩ v) g r s u :=
 ⟨h.cur.aH (by have:=h.gr;have:=h.rs;omega) _ _,h.kb.aH (by have:=h.wr;have:=h.rs;show _ <= s;omega) _,h.res.far (by have:=h.rs;omega) _,by rw [hu];exact h.box.set k hk v,h.gr,h.rs,h.wr⟩
theorem DR.st {w W:World} {g r s:Nat} {t:ag} (h:DR w W g r s t) (x:Int):DR w (W.setCell ⟨s,3,none⟩ (.int .i64 x)) g r s { t with st:=x }:=h.cell 3 (by decide) _ (by simp)
theorem DR.left {w W:World} {g r s:Nat} {t:ag} (h:DR w W g r s t) (x:Int):DR w (W.setCell ⟨s,7,none⟩ (.int .i64 x)) g r s { t with left:=x }:=h.cell 7 (by decide) _ (by simp)
theorem DR.idle {w W:World} {g r s:Nat} {t:ag} (h:DR w W g r s t) (x:Bool):DR w (W.setCell ⟨s,4,none⟩ (.bool x)) g r s { t with idle:=x }:=h.cell 4 (by decide) _ (by simp)
theorem DR.done {w W:World} {g r s:Nat} {t:ag} (h:DR w W g r s t):ai (putT W r t) r (tc t) /\ bj (putT W r t) g /\ ab g w (putT W r t) :=
 ⟨h.res.putT t,h.cur.putT h.gr t,h.kb.putT h.wr t⟩
theorem DR.new {w W:World} {g:Nat} (hc:bj W g) (hk:ab g w W) {r:Nat} (hr:ai W r (tc ag.zero)) (hg:g < r) (hw:w.heap.size <= r):DR w (W.alloc (.cells (tc ag.zero) 43)) g r W.heap.size ag.zero :=
 ⟨hc.keeps ((aa.refl _).alloc _),hk.alloc _,hr.alloc _,ai.new _ _ _,hg,hr.lt,hw⟩
set_option maxHeartbeats 8000000 in
theorem zX (g:Nat) (w:World) (hc:bj w g) :
  Calls Tryz.prog 100 #[.pointer (some ⟨g,0,none⟩)] w fun e w'=>∃ t:ag,e = .returned (tk t) /\ bj w' g /\ ab g w w':=by
 have hgl:=hc.lt
 go_enter Tryz.func100,Tryz.ntmps100
 go_wp2_with fail
 have hc0:=hc.keeps ((aa.refl w).alloc (.cells (tc ag.zero) 43))
 have B0:=ai.new w (tc ag.zero) 43
 have re:=(ab.refl g w).alloc (.cells (tc ag.zero) 43)
 refine (cF g _ _ hc0 (by omega) (by omega)).mono ?_
 rintro e w1 ⟨no,rfl,hn0,hn1,hc1,k1⟩
 go_wp2_with fail
 refine (cF g _ _ hc1 (by omega) (by omega)).mono ?_
 rintro e w2 ⟨cpu,rfl,hp0,hp1,hc2,k2⟩
 have B2:=B0.but (k1.trans k2) (by omega)
 have Es:=re.trans (k1.trans k2)
 obtain ⟨r,Hr⟩:∃ r,Hid (w.heap.size=r):=⟨_,rfl⟩
 rw [Hr.out] at B2 ⊢
 have S:=DR.new hc2 Es B2 (by have:=Hr.out;omega) (by have:=Hr.out;omega)
 clear B0 B2 re Es hc0 hc1 hc2 k1 k2 hc
 go_wp2_with fail
 change Calls _ _ _ (w2.alloc (.cells (tc ag.zero) 43)) _
 generalize w2.alloc (.cells (tc ag.zero) 43)=W at *
 generalize w2.heap.size=s at *
 refine (cF g _ _ S.cur (by omega) (by omega)).mono ?_
 rintro e w3 ⟨c,rfl,hx0,hx1,hc3,k3⟩
 have S:=S.but k3 hc3
 clear hc3 k3
 go_upto_block 0 with fail
 go_cut [] (fun wx=>∃ t:ag,DR w wx g r s t)
 case first =>
  obtain rfl | rfl | rfl:c=0∨c=1∨c=2:=by omega
  case inl =>
   go_wp2_with fail
   refine (cF g _ _ S.cur (by omega) (by omega)).mono ?_
   rintro e w4 ⟨y,rfl,hy0,hy1,hc4,k4⟩
   have S:=S.but k4 hc4
   clear hc4 k4
   go_wp2_with fail
   refine (cF g _ _ S.cur (by omega) (by omega)).mono ?_
   rintro e w5 ⟨z,rfl,hz0,hz1,fD,k5⟩
   have S:=S.but k5 fD
   clear fD k5
   go_wp2_with fail
   refine (cF g _ _ S.cur (by omega) (by omega)).mono ?_
   rintro e w6 ⟨now,rfl,hw0,hw1,hc6,k6⟩
   have S:=S.but k6 hc6
   clear hc6 k6
   go_wp2_with fail
   refine (zl _ _ _ _ _ _).mono ?_
   rintro e w7 ⟨rfl,k7⟩
   have S:=S.keeps k7
   clear k7
   obtain ⟨N,HN⟩:∃ N,Hid (lg (1+no) cpu (1+z) (2+y) now=N):=⟨_,rfl⟩
   have ye:0 <= N.q /\ N.q <= 10:=by
    rw [<- HN.out];unfold lg;split
    ·simp [iV];omega
    ·simp [ag.zero]
   obtain ⟨hq0,hq1⟩:=ye
   rw [HN.out]
   obtain ⟨q1,q2,f1,f2⟩:=S.rules
   have HS:Hid (DR w w7 g r s ag.zero):=S
   clear S
   go_wp2_with fail
   change Calls _ _ _ (putT w7 s N) _
   have S:=HS.out.put N
   clear HS q1 q2 f1 f2
   generalize putT w7 s N=W7 at *
   refine (cF g _ _ S.cur (by omega) (by omega)).mono ?_
   rintro e w8 ⟨l,rfl,hl0,hl1,hc8,k8⟩
   have S:=S.but k8 hc8
   clear hc8 k8
   obtain ⟨q1,q2,f1,f2⟩:=S.rules
   have HS:Hid (DR w w8 g r s N):=S
   clear S
   go_wp2_with fail
   go_meet
   exact ⟨_,HS.out.left l⟩
  case inr.inl =>
   go_wp2_with fail
   refine (cF g _ _ S.cur (by omega) (by omega)).mono ?_
   rintro e w4 ⟨y,rfl,hy0,hy1,hc4,k4⟩
   have S:=S.but k4 hc4
   clear hc4 k4
   go_wp2_with fail
   refine (cF g _ _ S.cur (by omega) (by omega)).mono ?_
   rintro e w5 ⟨z,rfl,hz0,hz1,fD,k5⟩
   have S:=S.but k5 fD
   clear fD k5
   go_wp2_with fail
   refine (cF g _ _ S.cur (by omega) (by omega)).mono ?_
   rintro e w6 ⟨u,rfl,hw0,hw1,hc6,k6⟩
   have S:=S.but k6 hc6
   clear hc6 k6
   go_wp2_with fail
   refine (zm _ _ _ _ _ _).mono ?_
   rintro e w7 ⟨rfl,k7⟩
   have S:=S.keeps k7
   clear k7
   obtain ⟨N,HN⟩:∃ N,Hid (eA (gC (1+no) cpu (1+y) z u)=N):=⟨_,rfl⟩
   have ye:0 <= N.round /\ N.round <= 10:=by
    rw [<- HN.out];unfold eA;split
    ·simp [gC];omega
    ·simp [ag.zero]
   obtain ⟨hq0,hq1⟩:=ye
   rw [HN.out]
   obtain ⟨q1,q2,f1,f2⟩:=S.rules
   have HS:Hid (DR w w7 g r s ag.zero):=S
   clear S
   cases hd:decide (0 < N.round)
   ·go_wp2_with fail
    go_meet
    exact ⟨_,HS.out.put N⟩
   ·have hd':=of_decide_eq_true hd
    go_wp2_with fail
    change Calls _ _ _ (putT w7 s N) _
    have S:=HS.out.put N
    clear HS q1 q2 f1 f2
    generalize putT w7 s N=W7 at *
    refine (cF g _ _ S.cur (by omega) (by omega)).mono ?_
    rintro e w8 ⟨l,rfl,hl0,hl1,hc8,k8⟩
    have S:=S.but k8 hc8
    clear hc8 k8
    obtain ⟨q1,q2,f1,f2⟩:=S.rules
    have HS:Hid (DR w w8 g r s N):=S
    clear S
    go_wp2_with fail
    go_meet
    exact ⟨_,HS.out.left (1+l)⟩
  case inr.inr =>
   go_wp2_with fail
   refine (cF g _ _ S.cur (by omega) (by omega)).mono ?_
   rintro e w4 ⟨y,rfl,hy0,hy1,hc4,k4⟩
   have S:=S.but k4 hc4
   clear hc4 k4
   go_wp2_with fail
   refine (cF g _ _ S.cur (by omega) (by omega)).mono ?_
   rintro e w5 ⟨z,rfl,hz0,hz1,fD,k5⟩
   have S:=S.but k5 fD
   clear fD k5
   go_wp2_with fail
   refine (zk _ _ _ _ _).mono ?_
   rintro e w7 ⟨rfl,k7⟩
   have S:=S.keeps k7
   clear k7
   obtain ⟨N,HN⟩:∃ N,Hid (eA (lS (1+no) cpu (y - 4) z)=N):=⟨_,rfl⟩
   rw [HN.out]
   obtain ⟨q1,q2,f1,f2⟩:=S.rules
   have HS:Hid (DR w w7 g r s ag.zero):=S
   clear S
   go_wp2_with fail
   go_meet
   exact ⟨_,HS.out.put N⟩
 case rest =>
 obtain ⟨t,S⟩:=hcut
 generalize wc=W9 at *
 go_wp2_with fail
 refine (mZ g _ _ S.cur (by omega) (by omega)).mono ?_
 rintro e x1 ⟨b1,rfl,Et,Eu⟩
 have S:=S.but Eu Et
 clear Et Eu
 cases b1
 ·obtain ⟨q1,q2,f1,f2⟩:=S.rules
  go_wp2_with fail
  clear q1 q2 f1 f2
  generalize t=t' at S
  refine (mZ g _ _ S.cur (by omega) (by omega)).mono ?_
  rintro e x2 ⟨b2,rfl,sD,sE⟩
  have S:=S.but sE sD
  clear sD sE
  obtain ⟨q1,q2,f1,f2⟩:=S.rules
  have HS:Hid (DR w x2 g r s t'):=S
  clear S
  go_upto_region 17 with fail
  have S:=HS.out.idle b2
  clear HS q1 q2 f1 f2
  generalize x2.setCell ⟨s,4,none⟩ (.bool b2)=y2 at *
  generalize { t' with idle:=b2 }=u at S
  obtain ⟨q1,q2,f1,f2⟩:=S.rules
  have HS:Hid (DR w y2 g r s u):=S
  clear S
  go_wp2
  have T:=HS.out.done
  change bodyPost _ _ _ _ _ (putT y2 r u)
  generalize putT y2 r u=X at T ⊢
  obtain ⟨T1,T2,T3⟩:=T
  exact bodyPost_ret (v:=tk u) (by simp [results,Tryz.results100,go_sem,T1.cells]) rfl ⟨_,rfl,T2,T3⟩
 ·obtain ⟨q1,q2,f1,f2⟩:=S.rules
  go_wp2_with fail
  have S:=S.st 2
  clear q1 q2 f1 f2
  generalize x1.setCell ⟨s,3,none⟩ (.int .i64 2)=y1 at *
  generalize { t with st:=2 }=t' at S
  refine (mZ g _ _ S.cur (by omega) (by omega)).mono ?_
  rintro e x2 ⟨b2,rfl,sD,sE⟩
  have S:=S.but sE sD
  clear sD sE
  obtain ⟨q1,q2,f1,f2⟩:=S.rules
  have HS:Hid (DR w x2 g r s t'):=S
  clear S
  go_upto_region 17 with fail
  have S:=HS.out.idle b2
  clear HS q1 q2 f1 f2
  generalize x2.setCell ⟨s,4,none⟩ (.bool b2)=y2 at *
  generalize { t' with idle:=b2 }=u at S
  obtain ⟨q1,q2,f1,f2⟩:=S.rules
  have HS:Hid (DR w y2 g r s u):=S
  clear S
  go_wp2
  have T:=HS.out.done
  change bodyPost _ _ _ _ _ (putT y2 r u)
  generalize putT y2 r u=X at T ⊢
  obtain ⟨T1,T2,T3⟩:=T
  exact bodyPost_ret (v:=tk u) (by simp [results,Tryz.results100,go_sem,T1.cells]) rfl ⟨_,rfl,T2,T3⟩
end Go.Proofs.YteagpjlgjfaclaaGreatDoor
