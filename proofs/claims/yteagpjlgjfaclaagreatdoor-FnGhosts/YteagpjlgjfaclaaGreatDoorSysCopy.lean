/-
  The system: a copy of it.
  The system: the laws' own helpers.
  The system: the laws' own copy of it.
  The system: two that are alike.
  The system: its rows are marked, and looked at again.
  The system is marked, and looked at again.
  A system of one's own: a task is stored over another one; a
  A system of one's own, in a variable: calls that turn it, s
  A system of one's own in a variable, and what it was when t
-/
import Derived.Test.YteagpjlgjfaclaaGreatDoorSysSet
import Derived.Test.YteagpjlgjfaclaaGreatDoorLockCopy
import Derived.Test.YteagpjlgjfaclaaGreatDoorFairList
import Derived.Test.YteagpjlgjfaclaaGreatDoorLockAsk
namespace Go.Proofs.YteagpjlgjfaclaaGreatDoor
set_option maxRecDepth 100000
open Go.RowKit
section
attribute [local go_sem] aa.refl aa.alloc aa.drew aa.drewN
abbrev Sv.zero:Sv:=⟨⟨none,0,0⟩,⟨none,0,0⟩,⟨none,0,0⟩,⟨none,0,0⟩,⟨none,0,0⟩⟩
theorem Own.fresh {α:Type} (e:TypeId) (sz:Nat) (c:α->Array Value) {w W:World} {n:Nat} (h:W.heap.size=n) (hw:w=W.alloc (.cells #[] e)):Own e sz c w n (.slice (Option.some ⟨n,0,none⟩) 0 0) []:=by
 subst hw h
 exact Own.new e sz c W (Nat.le_refl _)
theorem Own.form {α:Type} {e:TypeId} {sz:Nat} {c:α->Array Value} {w:World} {base:Nat} {v:Value} {xs:List α} (h:Own e sz c w base v xs) (hc:∀ x,(c x).size=sz):∃ a cap,v = .slice a xs.length cap:=by
 obtain ⟨a,cap,e,-,-,-⟩:=h.slice hc
 exact ⟨a,cap,e⟩
theorem aq.aside {g:Nat} {w w':World} {b:Nat} {C:Array Value} (h:aq w b C) (k:ab g w w') (hg:b≠g):aq w' b C :=
 ⟨Nat.lt_of_lt_of_le h.lt k.size,fun i=>(k.cells b i h.lt hg).trans (h.cells i),fun i=>(World.frozen?_of_block (w:=w) (k.block b h.lt hg)).trans (h.aO i)⟩
theorem ab.gK {g:Nat} {a:World}:∀ (L:List Value) (w:World) (k:Nat),ab g a w->ab g a (Go.Proofs.YteagpjlgjfaclaaGreatDoor.putC w g k L)
 | [],_,_,h=>h
 | v::r,_,k,h=>ab.gK r _ (k+1) (h.setCell k v)
theorem rX {X w':World} {e:TypeId} {b k n:Nat} {C:Array Value} (hn:X.heap.size=n) (B:aq X b C) (hk:k < C.size) (g:(X.alloc (.cells #[] e)).grownBy w' (some n)) (u:Value) :
  aq w' b C /\ ab b X (w'.setCell ⟨b,k,none⟩ u) /\ aq (w'.setCell ⟨b,k,none⟩ u) b (C.setIfInBounds k u):=by
 have hl:=B.lt
 have B1:aq w' b C:=(B.alloc _).grown g (by intro q hq;cases hq;omega)
 exact ⟨B1,((ab.of ((aa.refl X).alloc _)).grown g (by intro q hq;cases hq;omega)).setCell k u,B1.set k hk u⟩
set_option maxHeartbeats 8000000 in
theorem nZ {w:World} {v:Sv} {s:Sy} (h:aA w v s) :
  Calls Tryz.prog 40 #[.agg (ae s v)] w fun e w'=>∃ v' vs,e = .returned (.agg (ae s v')) /\ ay w' w.heap.size v' vs s /\ aa w w':=by
 have hz:=h.size
 have q1:Hid (s.tasks.length <= 2097152):=by show _ <= _;unfold bE at hz;omega
 have q2:Hid (s.af.length <= 2097152):=by show _ <= _;unfold bE at hz;omega
 have q3:Hid (s.ax.length <= 2097152):=by show _ <= _;unfold bE at hz;omega
 have q4:Hid (s.trace.length <= 2097152):=by show _ <= _;unfold bE at hz;omega
 clear hz
 obtain ⟨W,HW⟩:∃ W,W=(w.alloc (.cells (ae s v) 30)).alloc (.cells (ae Sy.zero Sv.zero) 30):=⟨_,rfl⟩
 have kW:aa w W:=by rw [HW];exact ((aa.refl w).alloc _).alloc _
 have hsz:W.heap.size=w.heap.size+2:=by rw [HW];simp
 have B0:Hid (aq W w.heap.size (ae s v)):=by show aq _ _ _;rw [HW];exact (aq.new _ _ _).alloc _
 have R0:Hid (aq W (w.heap.size+1) (ae Sy.zero Sv.zero)):=by
  show aq _ _ _
  rw [HW]
  have:=aq.new (w.alloc (.cells (ae s v) 30)) (ae Sy.zero Sv.zero) 30
  simpa using this
 have hS:Hid (aA W v s):=h.keeps kW
 go_enter Tryz.func40,Tryz.ntmps40
 go_wp2_with (at_builtin;(refine pq rfl _ _ 24 rfl (w.heap.size+2) 43 (tk ar.zero) 14 112 tc Tryz.underlying24 (by kernel_rfl) rfl (by decide) cF gV (.slice (some ⟨w.heap.size+2,0,none⟩) 0 0) rfl (Own.fresh (W:=W) 43 14 tc hsz (by rw [HW];rfl)) (by simp) s.tasks v.t (by rw [HW] at hS;exact (hS.out.tc.keeps ((aa.refl _).alloc _))) (by rw [HW] at hS;exact (hS.out.lay.t.keeps ((aa.refl _).alloc _))) h.lay.tl rfl q1.out (by decide) ?_))
 intro v1 w1 O1 g1 f1
 obtain ⟨a1,c1,rfl⟩:=O1.form cF
 have g1':(W.alloc (.cells #[] 43)).grownBy w1 (some (w.heap.size+2)):=by rw [HW];exact g1
 obtain ⟨X1,rY,Ab⟩:=rX hsz B0.out (k:=2) (by simp) g1' (.slice a1 s.tasks.length c1)
 have F1:Hid (∀ q,(Value.slice a1 s.tasks.length c1).ownBlock=some q->w.heap.size+2 <= q):=fun q hq=>(O1.cr q hq).1
 have uG:Hid (Own 43 14 tc (w1.setCell ⟨w.heap.size,2,none⟩ (.slice a1 s.tasks.length c1)) (w.heap.size+2) (.slice a1 s.tasks.length c1) s.tasks):=O1.cy ((ab.refl w.heap.size w1).setCell 2 _) (by omega)
 have Ac:Hid (aq (w1.setCell ⟨w.heap.size,2,none⟩ (.slice a1 s.tasks.length c1)) (w.heap.size+1) (ae Sy.zero Sv.zero)):=R0.out.aside rY (by omega)
 have uH:aa w (w1.setCell ⟨w.heap.size,2,none⟩ (.slice a1 s.tasks.length c1)):=rY.keeps kW (Nat.le_refl _)
 have Ad:Hid (aq (w1.setCell ⟨w.heap.size,2,none⟩ (.slice a1 s.tasks.length c1)) w.heap.size (ae s { v with t:=⟨a1,s.tasks.length,c1⟩ })):=Ab
 have hz1:Hid (w.heap.size+2 <= (w1.setCell ⟨w.heap.size,2,none⟩ (.slice a1 s.tasks.length c1)).heap.size):=by show _ <= _;have:=rY.size;omega
 obtain ⟨_,x1,x2⟩:=X1
 clear g1 g1' f1 O1 rY Ab B0 R0 kW hS HW hsz
 go_wp2_with fail
 generalize w1.setCell ⟨w.heap.size,2,none⟩ (.slice a1 s.tasks.length c1)=Y1 at *
 have CP:=uk v.l.a v.l.cap s.ak Y1 (by have:=h.size;unfold bE at this;omega) (h.keeps uH).lay.l
 rw [h.lay.ll] at CP
 refine CP.mono ?_
 rintro e w2 ⟨lv,vs,rfl,ML,k2⟩
 obtain ⟨a2,c2,rfl,-,-⟩:=ML.gT
 clear CP x1 x2
 obtain ⟨Y2,nt⟩:∃ Y2,Y2=w2.setCell ⟨w.heap.size,3,none⟩ (.slice a2 s.ak.length c2):=⟨_,rfl⟩
 have X2:=Ad.out.keeps k2
 have rZ:ab w.heap.size Y1 Y2:=by rw [nt];exact (ab.of k2).setCell 3 _
 have Ae:Hid (aq Y2 w.heap.size (ae s { v with t:=⟨a1,s.tasks.length,c1⟩,l:=⟨a2,s.ak.length,c2⟩ })):=by show aq _ _ _;rw [nt];exact X2.set 3 (by simp) _
 have Af:Hid (aq Y2 (w.heap.size+1) (ae Sy.zero Sv.zero)):=Ac.out.aside rZ (by omega)
 have uI:aa w Y2:=rZ.keeps uH (Nat.le_refl _)
 have I4:Hid (Own 43 14 tc Y2 (w.heap.size+2) (.slice a1 s.tasks.length c1) s.tasks):=uG.out.cy rZ (by omega)
 have B1:Hid (∀ q,(Value.slice a1 s.tasks.length c1).ownBlock=some q->q < Y1.heap.size):=fun q hq=>(uG.out.cr q hq).2
 have hz2:Y2.heap.size=w2.heap.size:=by rw [nt];simp
 have gu:Hid (Y1.heap.size <= w2.heap.size):=k2.size
 have M2:Hid (Mine Y2 Y1.heap.size w2.heap.size (.slice a2 s.ak.length c2) vs s.ak):=by
  show Mine _ _ _ _ _ _
  refine ML.same fun q hq _ hq2 => ?_
  rw [nt]
  exact gA (by have:=hz1.out;omega)
 obtain ⟨_,x1,x2⟩:=X2
 clear uG Ac Ad ML rZ k2 uH
 have hS0:=h.keeps uI
 have uJ:=hS0.gc.keeps ((aa.refl Y2).alloc (.cells #[] 87))
 have uK:cm 4 cP (Y2.alloc (.cells #[] 87)) v.g.a s.af:=((h.keeps uI).lay.g).keeps ((aa.refl _).alloc _)
 rw [nt] at uJ uK
 go_wp2_with (at_builtin;(refine pq rfl _ _ 26 rfl w2.heap.size 87 (.agg (cP Gh.zero)) 4 32 cP Tryz.underlying26 (by kernel_rfl) rfl (by decide) ia nR (.slice (some ⟨w2.heap.size,0,none⟩) 0 0) rfl (Own.fresh (W:=Y2) 87 4 cP hz2 (by rw [nt])) (by simp) s.af v.g uJ uK h.lay.gl rfl q2.out (by decide) ?_))
 intro v3 w3 O3 g3 f3
 obtain ⟨a3,c3,rfl⟩:=O3.form ia
 have g3':(Y2.alloc (.cells #[] 87)).grownBy w3 (some w2.heap.size):=by rw [nt];exact g3
 obtain ⟨X3,qq,uL⟩:=rX hz2 Ae.out (k:=4) (by simp) g3' (.slice a3 s.af.length c3)
 obtain ⟨Y3,oL⟩:∃ Y,Y=w3.setCell ⟨w.heap.size,4,none⟩ (.slice a3 s.af.length c3):=⟨_,rfl⟩
 rw [<- oL] at qq uL
 have Ag:Hid (aq Y3 w.heap.size (ae s { v with t:=⟨a1,s.tasks.length,c1⟩,l:=⟨a2,s.ak.length,c2⟩,g:=⟨a3,s.af.length,c3⟩ })):=uL
 have Ah:Hid (aq Y3 (w.heap.size+1) (ae Sy.zero Sv.zero)):=Af.out.aside qq (by omega)
 have uM:aa w Y3:=qq.keeps uI (Nat.le_refl _)
 have hz3:Y3.heap.size=w3.heap.size:=by rw [oL];simp
 have gL:Hid (w2.heap.size <= w3.heap.size):=by show _ <= _;have e1:=g3'.size;have e2:=hz2;simp at e1;omega
 have uN:Hid (Own 43 14 tc Y3 (w.heap.size+2) (.slice a1 s.tasks.length c1) s.tasks):=I4.out.cy qq (by have:=hz1.out;have:=gu.out;have:=gL.out;omega)
 have M3:Hid (Mine Y3 Y1.heap.size w2.heap.size (.slice a2 s.ak.length c2) vs s.ak):=by
  show Mine _ _ _ _ _ _
  refine M2.out.same fun q hq hq1 hq2=>qq.block q hq2 (by have:=hz1.out;omega)
 have N3:Hid (Own 87 4 cP Y3 w2.heap.size (.slice a3 s.af.length c3) s.af):=by
  show Own _ _ _ _ _ _ _
  rw [oL]
  exact O3.cy ((ab.refl w.heap.size w3).setCell 4 _) (by have:=hz1.out;have:=gu.out;omega)
 obtain ⟨_,x1,x2⟩:=X3
 clear g3 g3' f3 O3 uL Ae Af uJ uK hS0
 have hS1:=h.keeps uM
 have uO:=hS1.fc.keeps ((aa.refl Y3).alloc (.cells #[] 3))
 have uP:cm 1 ic (Y3.alloc (.cells #[] 3)) v.f.a s.ax:=((h.keeps uM).lay.f.lies).keeps ((aa.refl _).alloc _)
 rw [oL] at uO uP
 go_wp2_with (at_builtin;(refine pq rfl _ _ 27 rfl w3.heap.size 3 (.int .i64 0) 1 8 ic Tryz.underlying27 (by kernel_rfl) rfl (by decide) fq kV (.slice (some ⟨w3.heap.size,0,none⟩) 0 0) rfl (Own.fresh (W:=Y3) 3 1 ic hz3 (by rw [oL])) (by simp) s.ax v.f uO uP h.lay.fl rfl q3.out (by decide) ?_))
 intro v4 w4 O4 g4 f4
 obtain ⟨a4,c4,rfl⟩:=O4.form fq
 have g4':(Y3.alloc (.cells #[] 3)).grownBy w4 (some w3.heap.size):=by rw [oL];exact g4
 obtain ⟨X4,oM,uQ⟩:=rX hz3 Ag.out (k:=5) (by simp) g4' (.slice a4 s.ax.length c4)
 obtain ⟨Y4,oN⟩:∃ Y,Y=w4.setCell ⟨w.heap.size,5,none⟩ (.slice a4 s.ax.length c4):=⟨_,rfl⟩
 rw [<- oN] at oM uQ
 have Ai:Hid (aq Y4 w.heap.size (ae s { v with t:=⟨a1,s.tasks.length,c1⟩,l:=⟨a2,s.ak.length,c2⟩,g:=⟨a3,s.af.length,c3⟩,f:=⟨a4,s.ax.length,c4⟩ })):=uQ
 have Aj:Hid (aq Y4 (w.heap.size+1) (ae Sy.zero Sv.zero)):=Ah.out.aside oM (by omega)
 have uR:aa w Y4:=oM.keeps uM (Nat.le_refl _)
 have uS:Y4.heap.size=w4.heap.size:=by rw [oN];simp
 have iL:Hid (w3.heap.size <= w4.heap.size):=by show _ <= _;have e1:=g4'.size;have e2:=hz3;simp at e1;omega
 have uT:Hid (Own 43 14 tc Y4 (w.heap.size+2) (.slice a1 s.tasks.length c1) s.tasks):=uN.out.cy oM (by have:=hz1.out;have:=gu.out;have:=gL.out;have:=iL.out;omega)
 have I5:Hid (Own 87 4 cP Y4 w2.heap.size (.slice a3 s.af.length c3) s.af):=N3.out.cy oM (by have:=hz1.out;have:=gu.out;have:=gL.out;have:=iL.out;omega)
 have M4:Hid (Mine Y4 Y1.heap.size w2.heap.size (.slice a2 s.ak.length c2) vs s.ak):=by
  show Mine _ _ _ _ _ _
  refine M3.out.same fun q hq hq1 hq2=>oM.block q hq2 (by have:=hz1.out;omega)
 have N4:Hid (Own 3 1 ic Y4 w3.heap.size (.slice a4 s.ax.length c4) s.ax):=by
  show Own _ _ _ _ _ _ _
  rw [oN]
  exact O4.cy ((ab.refl w.heap.size w4).setCell 5 _) (by have:=hz1.out;have:=gu.out;have:=gL.out;omega)
 obtain ⟨_,x1,x2⟩:=X4
 clear g4 g4' f4 O4 uQ Ag Ah uO uP hS1
 have hS2:=h.keeps uR
 have uU:=hS2.rc.keeps ((aa.refl Y4).alloc (.cells #[] 104))
 have uV:cm 3 dX (Y4.alloc (.cells #[] 104)) v.r.a s.trace:=((h.keeps uR).lay.r).keeps ((aa.refl _).alloc _)
 rw [oN] at uU uV
 go_wp2_with (at_builtin;(refine pq rfl _ _ 28 rfl w4.heap.size 104 (.agg (dX Tn.zero)) 3 24 dX Tryz.underlying28 (by kernel_rfl) rfl (by decide) iv nT (.slice (some ⟨w4.heap.size,0,none⟩) 0 0) rfl (Own.fresh (W:=Y4) 104 3 dX uS (by rw [oN])) (by simp) s.trace v.r uU uV h.lay.rl rfl q4.out (by decide) ?_))
 intro v5 w5 O5 g5 f5
 obtain ⟨a5,c5,rfl⟩:=O5.form iv
 have uW:(Y4.alloc (.cells #[] 104)).grownBy w5 (some w4.heap.size):=by rw [oN];exact g5
 obtain ⟨X5,nu,uX⟩:=rX uS Ai.out (k:=8) (by simp) uW (.slice a5 s.trace.length c5)
 obtain ⟨Y5,qs⟩:∃ Y,Y=w5.setCell ⟨w.heap.size,8,none⟩ (.slice a5 s.trace.length c5):=⟨_,rfl⟩
 rw [<- qs] at nu uX
 have KI:Hid (aq Y5 w.heap.size (ae s { v with t:=⟨a1,s.tasks.length,c1⟩,l:=⟨a2,s.ak.length,c2⟩,g:=⟨a3,s.af.length,c3⟩,f:=⟨a4,s.ax.length,c4⟩,r:=⟨a5,s.trace.length,c5⟩ })):=uX
 have Ak:Hid (aq Y5 (w.heap.size+1) (ae Sy.zero Sv.zero)):=Aj.out.aside nu (by omega)
 have I6:aa w Y5:=nu.keeps uR (Nat.le_refl _)
 have KJ:Y5.heap.size=w5.heap.size:=by rw [qs];simp
 have lJ:Hid (w4.heap.size <= w5.heap.size):=by show _ <= _;have e1:=uW.size;have e2:=uS;simp at e1;omega
 have uY:Hid (Own 43 14 tc Y5 (w.heap.size+2) (.slice a1 s.tasks.length c1) s.tasks):=uT.out.cy nu (by have:=hz1.out;have:=gu.out;have:=gL.out;have:=iL.out;have:=lJ.out;omega)
 have I7:Hid (Own 87 4 cP Y5 w2.heap.size (.slice a3 s.af.length c3) s.af):=I5.out.cy nu (by have:=hz1.out;have:=gu.out;have:=gL.out;have:=iL.out;have:=lJ.out;omega)
 have I8:Hid (Own 3 1 ic Y5 w3.heap.size (.slice a4 s.ax.length c4) s.ax):=N4.out.cy nu (by have:=hz1.out;have:=gu.out;have:=gL.out;have:=iL.out;have:=lJ.out;omega)
 have M5:Hid (Mine Y5 Y1.heap.size w2.heap.size (.slice a2 s.ak.length c2) vs s.ak):=by
  show Mine _ _ _ _ _ _
  refine M4.out.same fun q hq hq1 hq2=>nu.block q hq2 (by have:=hz1.out;omega)
 have N5:Hid (Own 104 3 dX Y5 w4.heap.size (.slice a5 s.trace.length c5) s.trace):=by
  show Own _ _ _ _ _ _ _
  rw [qs]
  exact O5.cy ((ab.refl w.heap.size w5).setCell 8 _) (by have:=hz1.out;have:=gu.out;have:=gL.out;have:=iL.out;omega)
 obtain ⟨_,x1,x2⟩:=X5
 clear g5 uW f5 O5 uX Ai Aj uU uV hS2
 have RZ:=Ak.out
 rw [qs] at RZ
 obtain ⟨_,y1,y2⟩:=RZ
 go_wp2
 have D:=Ak.out.putC (ae s ⟨⟨a1,s.tasks.length,c1⟩,⟨a2,s.ak.length,c2⟩,⟨a3,s.af.length,c3⟩,⟨a4,s.ax.length,c4⟩,⟨a5,s.trace.length,c5⟩⟩).toList rfl
 have KZ:=aa.putC (b:=w.heap.size+1) (by omega) (ae s ⟨⟨a1,s.tasks.length,c1⟩,⟨a2,s.ak.length,c2⟩,⟨a3,s.af.length,c3⟩,⟨a4,s.ax.length,c4⟩,⟨a5,s.trace.length,c5⟩⟩).toList 0 I6
 have oO:ab (w.heap.size+1) Y5 (putC Y5 (w.heap.size+1) 0 (ae s ⟨⟨a1,s.tasks.length,c1⟩,⟨a2,s.ak.length,c2⟩,⟨a3,s.af.length,c3⟩,⟨a4,s.ax.length,c4⟩,⟨a5,s.trace.length,c5⟩⟩).toList):=ab.gK _ _ _ (ab.refl _ _)
 change bodyPost _ _ _ _ _ (putC (w5.setCell ⟨w.heap.size,8,none⟩ (.slice a5 s.trace.length c5)) (w.heap.size+1) 0 (ae s ⟨⟨a1,s.tasks.length,c1⟩,⟨a2,s.ak.length,c2⟩,⟨a3,s.af.length,c3⟩,⟨a4,s.ax.length,c4⟩,⟨a5,s.trace.length,c5⟩⟩).toList)
 rw [<- qs]
 have e1:=hz1.out
 have e2:=gu.out
 have e3:=gL.out
 have e4:=iL.out
 have e5:=lJ.out
 have e6:=oO.size
 have S0:ay (putC Y5 (w.heap.size+1) 0 (ae s ⟨⟨a1,s.tasks.length,c1⟩,⟨a2,s.ak.length,c2⟩,⟨a3,s.af.length,c3⟩,⟨a4,s.ax.length,c4⟩,⟨a5,s.trace.length,c5⟩⟩).toList) w.heap.size ⟨⟨a1,s.tasks.length,c1⟩,⟨a2,s.ak.length,c2⟩,⟨a3,s.af.length,c3⟩,⟨a4,s.ax.length,c4⟩,⟨a5,s.trace.length,c5⟩⟩ vs s:=by
  refine ⟨(uY.out.cy oO (by omega)).base (by omega),(M5.out.same fun q hq _ hq2=>oO.block q hq2 (by omega)).widen (by omega) (by omega),(I7.out.cy oO (by omega)).base (by omega),(I8.out.cy oO (by omega)).base (by omega),(N5.out.cy oO (by omega)).base (by omega),?_⟩
  refine x6 (w.heap.size+2) Y1.heap.size w2.heap.size w3.heap.size w4.heap.size w5.heap.size (fun q hq=>⟨F1.out q hq,B1.out q hq⟩) ?_ (fun q hq => ?_) (fun q hq => ?_) (fun q hq => ?_) (by omega) (by omega) (by omega)
  ·rintro q (hq | ⟨x,hx,hq⟩)
   ·exact ⟨(M5.out.own.cr q hq).1,M5.out.out q hq⟩
   ·obtain ⟨j,hj⟩:=List.mem_iff_getElem?.1 hx
    exact ⟨(M5.out.aG (.inr ⟨x,hx,hq⟩)).1,(M5.out.fx j x q hj hq).1⟩
  ·have:=N3.out.cr q hq
   exact ⟨this.1,by omega⟩
  ·have:=N4.out.cr q hq
   exact ⟨this.1,by omega⟩
  ·have:=N5.out.cr q hq
   exact ⟨this.1,by omega⟩
 generalize putC Y5 (w.heap.size+1) 0 (ae s ⟨⟨a1,s.tasks.length,c1⟩,⟨a2,s.ak.length,c2⟩,⟨a3,s.af.length,c3⟩,⟨a4,s.ax.length,c4⟩,⟨a5,s.trace.length,c5⟩⟩).toList=Z at D KZ S0 ⊢
 exact bodyPost_ret (v := .agg (ae s ⟨⟨a1,s.tasks.length,c1⟩,⟨a2,s.ak.length,c2⟩,⟨a3,s.af.length,c3⟩,⟨a4,s.ax.length,c4⟩,⟨a5,s.trace.length,c5⟩⟩)) (by simp [results,Tryz.results40,go_sem,D.cells]) rfl ⟨⟨⟨a1,s.tasks.length,c1⟩,⟨a2,s.ak.length,c2⟩,⟨a3,s.af.length,c3⟩,⟨a4,s.ax.length,c4⟩,⟨a5,s.trace.length,c5⟩⟩,vs,rfl,S0,KZ⟩
theorem KK {X w':World} {b k:Nat} {C:Array Value} (h:aa X w') (B:aq X b C) (hk:k < C.size) (u:Value):aq w' b C /\ ab b X (w'.setCell ⟨b,k,none⟩ u) /\ aq (w'.setCell ⟨b,k,none⟩ u) b (C.setIfInBounds k u) :=
 ⟨B.keeps h,(ab.of h).setCell k u,(B.keeps h).set k hk u⟩
theorem px {w:World} {b:Nat}:∀ (L:List Value) (x:World) (k:Nat),w.grownBy x (some b)->w.grownBy (putC x b k L) (some b)
 | [],_,_,h=>h
 | v::r,x,k,h=>px r _ (k+1) ⟨h.os,h.tape,h.output,Nat.le_trans h.size (by simp),fun q hq hne=>(gA (by intro e;subst e;exact hne rfl)).trans (h.block q hq hne)⟩
structure aB (P:Nat->Prop) (w w':World):Prop where
 os:w'.os=w.os
 tape:w'.tape=w.tape
 output:w'.output=w.output
 size:w.heap.size <= w'.heap.size
 block:∀ b,b < w.heap.size->¬ P b->w'.heap[b]?=w.heap[b]?
theorem aB.refl (P:Nat->Prop) (w:World):aB P w w:=⟨rfl,rfl,rfl,Nat.le_refl _,fun _ _ _=>rfl⟩
theorem aB.trans {P:Nat->Prop} {a b c:World} (h:aB P a b) (k:aB P b c):aB P a c :=
 ⟨k.os.trans h.os,k.tape.trans h.tape,k.output.trans h.output,Nat.le_trans h.size k.size,fun q hq hn=>(k.block q (Nat.lt_of_lt_of_le hq h.size) hn).trans (h.block q hq hn)⟩
theorem aB.mono {P Q:Nat->Prop} {a b:World} (h:aB P a b) (k:∀ q,P q->Q q):aB Q a b:=⟨h.os,h.tape,h.output,h.size,fun q hq hn=>h.block q hq fun hp=>hn (k q hp)⟩
theorem aB.grown {a b:World} {row:Option Nat} (h:a.grownBy b row):aB (fun q=>row=some q) a b:=⟨h.os,h.tape,h.output,h.size,fun q hq hn=>h.block q hq fun e=>hn e.symm⟩
theorem aB.keeps {P:Nat->Prop} {w a b:World} (h:aB P a b) (k:aa w a) (hp:∀ q,P q->w.heap.size <= q):aa w b :=
 Below.trans k ⟨h.os,h.tape,h.output,h.size,fun i hi=>h.block i (Nat.lt_of_lt_of_le hi k.size) fun hq=>by have:=hp i hq;omega⟩
end
def oz (s:Sy):Prop:=∀ t∈s.tasks,0 <= t.cpu /\ t.cpu < (s.ax.length:Int)
theorem ay.aside {w w':World} {lo:Nat} {v:Sv} {vs:List Lv} {s:Sy} (h:ay w lo v vs s) (hz:w.heap.size <= w'.heap.size) (k:∀ i b,aX v vs i b->w'.heap[b]?=w.heap[b]?):ay w' lo v vs s :=
 ⟨h.t.same fun b e=>k 0 b e,(h.l.hY fun b e=>k 1 b e).widen (Nat.le_refl _) hz,h.g.same fun b e=>k 2 b e,h.f.same fun b e=>k 3 b e,h.r.same fun b e=>k 4 b e,h.ap⟩
theorem ay.far {w:World} {lo:Nat} {v:Sv} {vs:List Lv} {s:Sy} (h:ay w lo v vs s) {c o:Nat} (hc:∀ i,¬ aX v vs i c) (x:Value):ay (w.setCell ⟨c,o,none⟩ x) lo v vs s :=
 h.aside (by simp) fun i b hb=>gA (by intro e;subst e;exact hc i hb)
theorem ay.aT {lo:Nat} {v:Sv} {vs:List Lv} {s:Sy} {c:Nat} (hc:∀ i,¬ aX v vs i c):∀ (L:List Value) {w:World} (k:Nat),ay w lo v vs s->ay (putC w c k L) lo v vs s
 | [],_,_,h=>h
 | x::r,_,k,h=>ay.aT hc r (k+1) (h.far hc x)
theorem ay.storeT {w:World} {lo:Nat} {v:Sv} {vs:List Lv} {s:Sy} (h:ay w lo v vs s) {rb:Nat} (ha:v.t.a=some ⟨rb,0,none⟩) {k:Nat} (hk:k < s.tasks.length) (x:ar) :
  ay (putC w rb (k*14) (tc x).toList) lo v vs { s with tasks:=s.tasks.set k x } /\ aB (aX v vs 0) w (putC w rb (k*14) (tc x).toList):=by
 have hn:=(h.t.row cF).1
 have hv:v.t.val = .slice (some ⟨rb,0,none⟩) s.tasks.length v.t.cap:=by rw [Rw.val,ha,hn]
 have O:=h.t
 rw [hv] at O
 have G:w.grownBy (putC w rb (k*14) (tc x).toList) (some rb):=px _ _ _ (World.grownBy.refl _ _)
 have ho:v.t.val.ownBlock=some rb:=by rw [hv];rfl
 refine ⟨h.lg G.size (fun b hb hn=>G.block b hb (fun e=>hn (by show v.t.val.ownBlock=some b;rw [ho,e]))) v.t _ ?_ (fun b e => .inl e),?_⟩
 ·have:=O.put cF hk x
  rw [List.length_set] at this
  rw [hv]
  exact this
 ·exact (aB.grown G).mono fun q hq=>by show v.t.val.ownBlock=some q;rw [ho];exact hq
abbrev zc:Array Value:=#[.int .i64 0,.int .i64 0,.slice none 0 0,.slice none 0 0,.slice none 0 0,.slice none 0 0,.int .i64 0,.int .i64 0,.slice none 0 0]
structure Goes (w:World) (lo:Nat) (v:Sv) (vs:List Lv) (w':World) (v':Sv) (vs':List Lv) (s':Sy):Prop where
 own:ay w' lo v' vs' s'
 turn:aB (fun b=>∃ i,aX v vs i b) w w'
 old:∀ i b,aX v' vs' i b->(∃ j,aX v vs j b)∨w.heap.size <= b
theorem Goes.refl {w:World} {lo:Nat} {v:Sv} {vs:List Lv} {s:Sy} (h:ay w lo v vs s):Goes w lo v vs w v vs s:=⟨h,aB.refl _ _,fun i _ hb => .inl ⟨i,hb⟩⟩
theorem Goes.trans {w w' w'':World} {lo:Nat} {v v' v'':Sv} {vs vs' vs'':List Lv} {s' s'':Sy} (h:Goes w lo v vs w' v' vs' s') (k:Goes w' lo v' vs' w'' v'' vs'' s''):Goes w lo v vs w'' v'' vs'' s'':=by
 refine ⟨k.own,⟨k.turn.os.trans h.turn.os,k.turn.tape.trans h.turn.tape,k.turn.output.trans h.turn.output,Nat.le_trans h.turn.size k.turn.size,fun b hb hn => ?_⟩,fun i b hb => ?_⟩
 ·refine (k.turn.block b (Nat.lt_of_lt_of_le hb h.turn.size) ?_).trans (h.turn.block b hb hn)
  rintro ⟨i,hi⟩
  rcases h.old i b hi with h1 | h1
  ·exact hn h1
  ·omega
 ·rcases k.old i b hb with ⟨j,hj⟩ | h1
  ·exact h.old j b hj
  ·exact .inr (Nat.le_trans h.turn.size h1)
theorem Goes.fresh {w w':World} {lo:Nat} {v v':Sv} {vs vs':List Lv} {s':Sy} (h:ay w' w.heap.size v' vs' s') (k:aa w w') (hl:lo <= w.heap.size):Goes w lo v vs w' v' vs' s' :=
 ⟨h.base hl,⟨k.os,k.tape,k.output,k.size,fun b hb _=>Below.block k b hb⟩,fun _ _ hb => .inr (h.aG hb).1⟩
theorem Goes.ahead {w0 w w':World} {lo:Nat} {v v':Sv} {vs vs':List Lv} {s':Sy} (k:aa w0 w) (h:Goes w lo v vs w' v' vs' s'):Goes w0 lo v vs w' v' vs' s':=by
 refine ⟨h.own,⟨h.turn.os.trans k.os,h.turn.tape.trans k.tape,h.turn.output.trans k.output,Nat.le_trans k.size h.turn.size,fun b hb hn=>(h.turn.block b (Nat.lt_of_lt_of_le hb k.size) hn).trans (Below.block k b hb)⟩,fun i b hb => ?_⟩
 rcases h.old i b hb with h1 | h1
 ·exact .inl h1
 ·exact .inr (Nat.le_trans k.size h1)
theorem Goes.behind {w w' w'':World} {lo:Nat} {v v':Sv} {vs vs':List Lv} {s':Sy} (h:Goes w lo v vs w' v' vs' s') (k:aa w' w''):Goes w lo v vs w'' v' vs' s' :=
 ⟨h.own.keeps k,⟨k.os.trans h.turn.os,k.tape.trans h.turn.tape,k.output.trans h.turn.output,Nat.le_trans h.turn.size k.size,fun b hb hn=>(Below.block k b (Nat.lt_of_lt_of_le hb h.turn.size)).trans (h.turn.block b hb hn)⟩,h.old⟩
theorem Goes.keeps {w0 w w':World} {lo:Nat} {v v':Sv} {vs vs':List Lv} {s s':Sy} (h:Goes w lo v vs w' v' vs' s') (h0:ay w lo v vs s) (k:aa w0 w) (hl:w0.heap.size <= lo):aa w0 w' :=
 h.turn.keeps k fun _ ⟨_,hi⟩=>Nat.le_trans hl (h0.aG hi).1
theorem Goes.blk {w w':World} {lo:Nat} {v v':Sv} {vs vs':List Lv} {s':Sy} (h:Goes w lo v vs w' v' vs' s') {b:Nat} {C:Array Value} (hb:aq w b C) (hn:∀ i,¬ aX v vs i b):aq w' b C:=by
 have e:=h.turn.block b hb.lt (fun ⟨i,hi⟩=>hn i hi)
 exact ⟨Nat.lt_of_lt_of_le hb.lt h.turn.size,fun k=>(World.cell?_of_block (w:=w) e).trans (hb.cells k),fun k=>(World.frozen?_of_block (w:=w) e).trans (hb.aO k)⟩
theorem Goes.far {w w':World} {lo:Nat} {v v':Sv} {vs vs':List Lv} {s':Sy} (h:Goes w lo v vs w' v' vs' s') {b:Nat} (hb:b < w.heap.size) (hn:∀ i,¬ aX v vs i b):∀ i,¬ aX v' vs' i b:=by
 intro i hi
 rcases h.old i b hi with ⟨j,hj⟩ | h1
 ·exact hn j hj
 ·omega
structure br (w:World) (lo ob:Nat) (v:Sv) (vs:List Lv) (s:Sy):Prop where
 box:aq w ob (ae s v)
 own:ay w lo v vs s
 fu:lo <= ob
 far:∀ i,¬ aX v vs i ob
theorem br.keeps {w w':World} {lo ob:Nat} {v:Sv} {vs:List Lv} {s:Sy} (h:br w lo ob v vs s) (k:aa w w'):br w' lo ob v vs s:=⟨h.box.keeps k,h.own.keeps k,h.fu,h.far⟩
theorem br.new {w:World} {lo:Nat} {v:Sv} {vs:List Lv} {s:Sy} (h:ay w lo v vs s) (hl:lo <= w.heap.size):br (w.alloc (.cells (ae s v) 30)) lo w.heap.size v vs s :=
 ⟨aq.new _ _ _,h.keeps ((aa.refl _).alloc _),hl,fun i hi=>by have:=(h.aG hi).2;omega⟩
theorem br.put {w w':World} {lo ob:Nat} {v v':Sv} {vs vs':List Lv} {s s':Sy} (h:br w lo ob v vs s) (g:Goes w lo v vs w' v' vs' s'):br (putC w' ob 0 (ae s' v').toList) lo ob v' vs' s':=by
 have hf:=g.far h.box.lt h.far
 exact ⟨(g.blk h.box h.far).putC (ae s' v').toList rfl,ay.aT hf _ _ g.own,h.fu,hf⟩
theorem br.task {w:World} {lo ob:Nat} {v:Sv} {vs:List Lv} {s:Sy} (h:br w lo ob v vs s) {rb:Nat} (ha:v.t.a=some ⟨rb,0,none⟩) {k:Nat} (hk:k < s.tasks.length) (x:ar):br (putC w rb (k*14) (tc x).toList) lo ob v vs { s with tasks:=s.tasks.set k x }:=by
 have ho:aX v vs 0 rb:=by show v.t.val.ownBlock=some rb;rw [Rw.val,ha];rfl
 have hne:rb≠ob:=fun e=>h.far 0 (by rw [<- e];exact ho)
 exact ⟨aq.aT hne _ _ h.box,(h.own.storeT ha hk x).1,h.fu,h.far⟩
theorem br.fe {w0 w:World} {lo ob:Nat} {v:Sv} {vs:List Lv} {s:Sy} (h:br w lo ob v vs s) {rb:Nat} (ha:v.t.a=some ⟨rb,0,none⟩) (k:Nat) (L:List Value) (k0:aa w0 w) (hl:w0.heap.size <= lo):aa w0 (putC w rb k L):=by
 have ho:aX v vs 0 rb:=by show v.t.val.ownBlock=some rb;rw [Rw.val,ha];rfl
 exact aa.putC (b:=rb) (Nat.le_trans hl (h.own.aG ho).1) L k k0
theorem br.elsewhere {w:World} {lo ob:Nat} {v:Sv} {vs:List Lv} {s:Sy} (h:br w lo ob v vs s) {c:Nat} (hc:∀ i,¬ aX v vs i c) (hne:c≠ob) (L:List Value) (k:Nat):br (putC w c k L) lo ob v vs s :=
 ⟨aq.aT hne L k h.box,ay.aT hc L k h.own,h.fu,h.far⟩
theorem ay.aW {w:World} {lo:Nat} {v:Sv} {vs:List Lv} {s:Sy} (h:ay w lo v vs s) {k:Nat} (hk:k < s.tasks.length):∃ rb,v.t.a=some ⟨rb,0,none⟩:=by
 obtain ⟨b,cap,e⟩:=h.t.blk (by omega)
 simp only [Rw.val,Value.slice.injEq] at e
 exact ⟨b,e.1⟩
theorem ay.aJ {w:World} {lo:Nat} {v:Sv} {vs:List Lv} {s:Sy} (h:ay w lo v vs s) {rb:Nat} (ha:v.t.a=some ⟨rb,0,none⟩) {k:Nat} {t:ar} (ht:s.tasks[k]?=some t):(∀ j,j < 14->w.cell? ⟨rb,k*14+j,none⟩=(tc t)[j]?) /\ ∀ j,w.frozen? ⟨rb,j,none⟩=false:=by
 have hn:=(h.t.row cF).1
 have hv:v.t.val = .slice (some ⟨rb,0,none⟩) s.tasks.length v.t.cap:=by rw [Rw.val,ha,hn]
 have O:=h.t
 rw [hv] at O
 exact ⟨fun j hj=>O.cellAt cF ht hj,fun j=>O.frozenAt j⟩
theorem Goes.step {w0 w w':World} {lo:Nat} {v0 v v':Sv} {bX vs vs':List Lv} {s s':Sy} (h:Goes w0 lo v0 bX w v vs s) (own:ay w' lo v' vs' s') (t:aB (fun b=>(∃ i,aX v vs i b)∨w0.heap.size <= b) w w') (old:∀ i b,aX v' vs' i b->(∃ j,aX v vs j b)∨w0.heap.size <= b):Goes w0 lo v0 bX w' v' vs' s':=by
 refine ⟨own,⟨t.os.trans h.turn.os,t.tape.trans h.turn.tape,t.output.trans h.turn.output,Nat.le_trans h.turn.size t.size,fun b hb hn => ?_⟩,fun i b hb => ?_⟩
 ·refine (t.block b (Nat.lt_of_lt_of_le hb h.turn.size) ?_).trans (h.turn.block b hb hn)
  rintro (⟨i,hi⟩ | h1)
  ·rcases h.old i b hi with h1 | h1
   ·exact hn h1
   ·omega
  ·omega
 ·rcases old i b hb with ⟨j,hj⟩ | h1
  ·exact h.old j b hj
  ·exact .inr h1
theorem aB.putC {P:Nat->Prop} {c:Nat} (hc:P c) (L:List Value) {a w:World} (k:Nat) (h:aB P a w):aB P a (Go.Proofs.YteagpjlgjfaclaaGreatDoor.putC w c k L) :=
 h.trans ((aB.grown (px L w k (World.grownBy.refl w (some c)))).mono fun q e=>by cases e;exact hc)
theorem aB.of {P:Nat->Prop} {a b:World} (k:aa a b):aB P a b:=⟨k.os,k.tape,k.output,k.size,fun q hq _=>Below.block k q hq⟩
structure aN (w0:World) (lo:Nat) (v0:Sv) (bX:List Lv) (w:World) (ob:Nat) (v:Sv) (vs:List Lv) (s:Sy):Prop where
 var:br w lo ob v vs s
 goes:Goes w0 lo v0 bX w v vs s
 new:w0.heap.size <= ob
section
variable {w0 w:World} {lo ob:Nat} {v0 v:Sv} {bX vs:List Lv} {s:Sy}
theorem aN.start {w:World} {lo:Nat} {v:Sv} {vs:List Lv} {s:Sy} (h:ay w lo v vs s) (hl:lo <= w.heap.size):aN w lo v vs (w.alloc (.cells (ae s v) 30)) w.heap.size v vs s :=
 ⟨br.new h hl,(Goes.refl h).behind ((aa.refl _).alloc _),Nat.le_refl _⟩
theorem aN.keeps {w':World} (h:aN w0 lo v0 bX w ob v vs s) (k:aa w w'):aN w0 lo v0 bX w' ob v vs s:=⟨h.var.keeps k,h.goes.behind k,h.new⟩
theorem aN.elsewhere (h:aN w0 lo v0 bX w ob v vs s) {c:Nat} (hc:∀ i,¬ aX v vs i c) (hne:c≠ob) (hn:w0.heap.size <= c) (L:List Value) (k:Nat):aN w0 lo v0 bX (putC w c k L) ob v vs s :=
 ⟨h.var.elsewhere hc hne L k,h.goes.step (ay.aT hc L k h.var.own) (aB.putC (.inr hn) L k (aB.refl _ _)) fun i _ hb => .inl ⟨i,hb⟩,h.new⟩
theorem aN.task (h:aN w0 lo v0 bX w ob v vs s) {rb:Nat} (ha:v.t.a=some ⟨rb,0,none⟩) {k:Nat} (hk:k < s.tasks.length) (x:ar):aN w0 lo v0 bX (putC w rb (k*14) (tc x).toList) ob v vs { s with tasks:=s.tasks.set k x }:=by
 have ho:aX v vs 0 rb:=by show v.t.val.ownBlock=some rb;rw [Rw.val,ha];rfl
 exact ⟨h.var.task ha hk x,h.goes.step (h.var.task ha hk x).own (aB.putC (.inl ⟨0,ho⟩) _ _ (aB.refl _ _)) fun i _ hb => .inl ⟨i,hb⟩,h.new⟩
theorem aN.num (h:aN w0 lo v0 bX w ob v vs s) (now az seq missed:Int) {k:Nat} {x:Value} (e:(ae s v).setIfInBounds k x=ae { s with now:=now,az:=az,seq:=seq,missed:=missed } v) (hk:k < 9):aN w0 lo v0 bX (w.setCell ⟨ob,k,none⟩ x) ob v vs { s with now:=now,az:=az,seq:=seq,missed:=missed }:=by
 have B:=h.var.box.set k (by simpa using hk) x
 rw [e] at B
 have O:ay (w.setCell ⟨ob,k,none⟩ x) lo v vs { s with now:=now,az:=az,seq:=seq,missed:=missed }:=(h.var.own.far h.var.far x).nums now az seq missed
 exact ⟨⟨B,O,h.var.fu,h.var.far⟩,h.goes.step O (aB.putC (.inr h.new) [x] k (aB.refl _ _)) fun i _ hb => .inl ⟨i,hb⟩,h.new⟩
theorem aN.trace {w1 w2:World} (h:aN w0 lo v0 bX w ob v vs s) (k:aa w w1) {x:Rw} {xs:List Tn} (O:Own 104 3 dX w2 lo x.val xs) (g:w1.grownBy w2 v.r.val.ownBlock) (f:∀ q,x.val.ownBlock=some q->v.r.val.ownBlock=some q∨w1.heap.size <= q) :
  aN w0 lo v0 bX (w2.setCell ⟨ob,8,none⟩ x.val) ob { v with r:=x } vs { s with trace:=xs }:=by
 have h1:=h.keeps k
 have hr:∀ q,v.r.val.ownBlock=some q->aX v vs 4 q:=fun q e=>e
 have S2:ay w2 lo { v with r:=x } vs { s with trace:=xs }:=h1.var.own.pg g.size (fun b hb hn=>g.block b hb (fun e=>hn e.symm)) x xs O f
 have Al:=h1.var.box.lt
 have eO:∀ i,¬ aX { v with r:=x } vs i ob:=by
  intro i hi
  match i,hi with
  | 0,hi=>exact h.var.far 0 hi
  | 1,hi=>exact h.var.far 1 hi
  | 2,hi=>exact h.var.far 2 hi
  | 3,hi=>exact h.var.far 3 hi
  | 4,hi =>
   rcases f ob hi with h2 | h2
   ·exact h.var.far 4 h2
   ·omega
 have B2:aq w2 ob (ae s v):=h1.var.box.grown g (fun q e e2=>h.var.far 4 (by rw [<- e2];exact hr q e))
 have O3:ay (w2.setCell ⟨ob,8,none⟩ x.val) lo { v with r:=x } vs { s with trace:=xs }:=S2.far eO _
 refine ⟨⟨B2.set 8 (by simp) x.val,O3,h.var.fu,eO⟩,h1.goes.step O3 (aB.putC (.inr h.new) [x.val] 8 ((aB.grown g).mono fun q e => .inl ⟨4,e⟩)) fun i b hb => ?_,h.new⟩
 match i,hb with
 | 0,hb=>exact .inl ⟨0,hb⟩
 | 1,hb=>exact .inl ⟨1,hb⟩
 | 2,hb=>exact .inl ⟨2,hb⟩
 | 3,hb=>exact .inl ⟨3,hb⟩
 | 4,hb =>
  rcases f b hb with h2 | h2
  ·exact .inl ⟨4,h2⟩
  ·exact .inr (Nat.le_trans (Nat.le_trans h.goes.turn.size k.size) h2)
theorem aN.af {w1 w2:World} (h:aN w0 lo v0 bX w ob v vs s) (k:aa w w1) {x:Rw} {xs:List Gh} (O:Own 87 4 cP w2 lo x.val xs) (g:w1.grownBy w2 v.g.val.ownBlock) (f:∀ q,x.val.ownBlock=some q->v.g.val.ownBlock=some q∨w1.heap.size <= q) :
  aN w0 lo v0 bX (w2.setCell ⟨ob,4,none⟩ x.val) ob { v with g:=x } vs { s with af:=xs }:=by
 have h1:=h.keeps k
 have hr:∀ q,v.g.val.ownBlock=some q->aX v vs 2 q:=fun q e=>e
 have S2:ay w2 lo { v with g:=x } vs { s with af:=xs }:=h1.var.own.pf g.size (fun b hb hn=>g.block b hb (fun e=>hn e.symm)) x xs O f
 have Al:=h1.var.box.lt
 have eO:∀ i,¬ aX { v with g:=x } vs i ob:=by
  intro i hi
  match i,hi with
  | 0,hi=>exact h.var.far 0 hi
  | 1,hi=>exact h.var.far 1 hi
  | 2,hi =>
   rcases f ob hi with h2 | h2
   ·exact h.var.far 2 h2
   ·omega
  | 3,hi=>exact h.var.far 3 hi
  | 4,hi=>exact h.var.far 4 hi
 have B2:aq w2 ob (ae s v):=h1.var.box.grown g (fun q e e2=>h.var.far 2 (by rw [<- e2];exact hr q e))
 have O3:ay (w2.setCell ⟨ob,4,none⟩ x.val) lo { v with g:=x } vs { s with af:=xs }:=S2.far eO _
 refine ⟨⟨B2.set 4 (by simp) x.val,O3,h.var.fu,eO⟩,h1.goes.step O3 (aB.putC (.inr h.new) [x.val] 4 ((aB.grown g).mono fun q e => .inl ⟨2,e⟩)) fun i b hb => ?_,h.new⟩
 match i,hb with
 | 0,hb=>exact .inl ⟨0,hb⟩
 | 1,hb=>exact .inl ⟨1,hb⟩
 | 2,hb =>
  rcases f b hb with h2 | h2
  ·exact .inl ⟨2,h2⟩
  ·exact .inr (Nat.le_trans (Nat.le_trans h.goes.turn.size k.size) h2)
 | 3,hb=>exact .inl ⟨3,hb⟩
 | 4,hb=>exact .inl ⟨4,hb⟩
theorem aN.tasks {w1 w2:World} (h:aN w0 lo v0 bX w ob v vs s) (k:aa w w1) {x:Rw} {xs:List ar} (O:Own 43 14 tc w2 lo x.val xs) (g:w1.grownBy w2 v.t.val.ownBlock) (f:∀ q,x.val.ownBlock=some q->v.t.val.ownBlock=some q∨w1.heap.size <= q) :
  aN w0 lo v0 bX (w2.setCell ⟨ob,2,none⟩ x.val) ob { v with t:=x } vs { s with tasks:=xs }:=by
 have h1:=h.keeps k
 have hr:∀ q,v.t.val.ownBlock=some q->aX v vs 0 q:=fun q e=>e
 have S2:ay w2 lo { v with t:=x } vs { s with tasks:=xs }:=h1.var.own.lg g.size (fun b hb hn=>g.block b hb (fun e=>hn e.symm)) x xs O f
 have Al:=h1.var.box.lt
 have eO:∀ i,¬ aX { v with t:=x } vs i ob:=by
  intro i hi
  match i,hi with
  | 0,hi =>
   rcases f ob hi with h2 | h2
   ·exact h.var.far 0 h2
   ·omega
  | 1,hi=>exact h.var.far 1 hi
  | 2,hi=>exact h.var.far 2 hi
  | 3,hi=>exact h.var.far 3 hi
  | 4,hi=>exact h.var.far 4 hi
 have B2:aq w2 ob (ae s v):=h1.var.box.grown g (fun q e e2=>h.var.far 0 (by rw [<- e2];exact hr q e))
 have O3:ay (w2.setCell ⟨ob,2,none⟩ x.val) lo { v with t:=x } vs { s with tasks:=xs }:=S2.far eO _
 refine ⟨⟨B2.set 2 (by simp) x.val,O3,h.var.fu,eO⟩,h1.goes.step O3 (aB.putC (.inr h.new) [x.val] 2 ((aB.grown g).mono fun q e => .inl ⟨0,e⟩)) fun i b hb => ?_,h.new⟩
 match i,hb with
 | 0,hb =>
  rcases f b hb with h2 | h2
  ·exact .inl ⟨0,h2⟩
  ·exact .inr (Nat.le_trans (Nat.le_trans h.goes.turn.size k.size) h2)
 | 1,hb=>exact .inl ⟨1,hb⟩
 | 2,hb=>exact .inl ⟨2,hb⟩
 | 3,hb=>exact .inl ⟨3,hb⟩
 | 4,hb=>exact .inl ⟨4,hb⟩
theorem aN.floor (h:aN w0 lo v0 bX w ob v vs s) {fb:Nat} (ha:v.f.a=some ⟨fb,0,none⟩) {k:Nat} {y:Int} (hk:s.ax[k]?=some y) (x:Int):aN w0 lo v0 bX (w.setCell ⟨fb,k,none⟩ (.int .i64 x)) ob v vs { s with ax:=s.ax.set k x }:=by
 have ho:aX v vs 3 fb:=by show v.f.val.ownBlock=some fb;rw [Rw.val,ha];rfl
 have hne:fb≠ob:=fun e=>h.var.far 3 (by rw [<- e];exact ho)
 have hn:=(h.var.own.f.row fq).1
 have hv:v.f.val = .slice (some ⟨fb,0,none⟩) s.ax.length v.f.cap:=by rw [Rw.val,ha,hn]
 have O:=h.var.own.f
 rw [hv] at O
 have O2:aS (w.setCell ⟨fb,k,none⟩ (.int .i64 x)) lo v.f.val (s.ax.set k x):=by
  rw [hv]
  have:=O.setAt fq (i:=k) (j:=0) (x:=y) (y:=x) (u := .int .i64 x) hk (by omega) rfl
  simpa using this
 have G:w.grownBy (w.setCell ⟨fb,k,none⟩ (.int .i64 x)) (some fb):=px [.int .i64 x] w k (World.grownBy.refl w (some fb))
 have OS:ay (w.setCell ⟨fb,k,none⟩ (.int .i64 x)) lo v vs { s with ax:=s.ax.set k x }:=h.var.own.ph G.size (fun b hb hnn=>G.block b hb (fun e=>hnn (by cases e;exact ho))) v.f _ O2 (fun b e => .inl e)
 exact ⟨⟨h.var.box.far hne _,OS,h.var.fu,h.var.far⟩,h.goes.step OS ((aB.grown G).mono fun q e=>by cases e;exact .inl ⟨3,ho⟩) fun i _ hb => .inl ⟨i,hb⟩,h.new⟩
theorem aN.put {w':World} {v':Sv} {vs':List Lv} {s':Sy} (h:aN w0 lo v0 bX w ob v vs s) (g:Goes w lo v vs w' v' vs' s'):aN w0 lo v0 bX (putC w' ob 0 (ae s' v').toList) ob v' vs' s':=by
 have V:=h.var.put g
 refine ⟨V,(h.goes.trans g).step V.own (aB.putC (.inr h.new) _ 0 (aB.refl _ _)) fun i _ hb => .inl ⟨i,hb⟩,h.new⟩
theorem aN.ep {z:World} {s0:Sy} (h:aN w0 lo v0 bX w ob v vs s) (h0:ay w0 lo v0 bX s0) (k:aa z w0) (hl:z.heap.size <= lo):aa z w:=h.goes.keeps h0 k hl
theorem ay.gW {w:World} {lo:Nat} {v:Sv} {vs:List Lv} {s:Sy} (h:ay w lo v vs s) {k:Nat} (hk:k < s.ax.length):∃ fb,v.f.a=some ⟨fb,0,none⟩:=by
 obtain ⟨b,cap,e⟩:=h.f.blk (by omega)
 simp only [Rw.val,Value.slice.injEq] at e
 exact ⟨b,e.1⟩
theorem ay.eU {w:World} {lo:Nat} {v:Sv} {vs:List Lv} {s:Sy} (h:ay w lo v vs s) {fb:Nat} (ha:v.f.a=some ⟨fb,0,none⟩) {k:Nat} {x:Int} (hx:s.ax[k]?=some x):w.cell? ⟨fb,k,none⟩=some (.int .i64 x) /\ (∀ j,w.frozen? ⟨fb,j,none⟩=false) /\ fb < w.heap.size /\ lo <= fb:=by
 have hn:=(h.f.row fq).1
 have hv:v.f.val = .slice (some ⟨fb,0,none⟩) s.ax.length v.f.cap:=by rw [Rw.val,ha,hn]
 have O:=h.f
 rw [hv] at O
 have h1:=O.cellAt fq (i:=k) (k:=0) hx (by omega)
 have h2:=O.cr fb rfl
 exact ⟨by simpa using h1,fun j=>O.frozenAt j,h2.2,h2.1⟩
end
end Go.Proofs.YteagpjlgjfaclaaGreatDoor
