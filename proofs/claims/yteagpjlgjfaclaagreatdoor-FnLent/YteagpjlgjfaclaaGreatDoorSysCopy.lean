/-
  The system: a copy of it.
  The system: the laws' own helpers.
  The system: the laws' own copy of it.
  The system: two that are alike.
  The system: its rows are marked, and looked at again.
  The system is marked, and looked at again.
  A system of one's own: a task is stored over another one; a
  A system of one's own, in a variable: calls that turn it, s
  A system of one's own in a variable, and what it was when t
-/
import Derived.Test.YteagpjlgjfaclaaGreatDoorSysBase
import Derived.Test.YteagpjlgjfaclaaGreatDoorLockCopy
import Derived.Test.YteagpjlgjfaclaaGreatDoorLoneLeaves
namespace Go.Proofs.YteagpjlgjfaclaaGreatDoor
set_option maxRecDepth 100000
open Go.RowKit
section
attribute [local go_sem] aa.refl aa.alloc aa.drew aa.drewN
abbrev Sv.zero:Sv:=⟨⟨none,0,0⟩,⟨none,0,0⟩,⟨none,0,0⟩,⟨none,0,0⟩,⟨none,0,0⟩⟩
theorem Own.fresh {α:Type} (e:TypeId) (sz:Nat) (c:α->Array Value) {w W:World} {n:Nat} (h:W.heap.size=n) (hw:w=W.alloc (.cells #[] e)):Own e sz c w n (.slice (Option.some ⟨n,0,none⟩) 0 0) []:=by
 subst hw h
 exact Own.new e sz c W (Nat.le_refl _)
theorem Own.form {α:Type} {e:TypeId} {sz:Nat} {c:α->Array Value} {w:World} {base:Nat} {v:Value} {xs:List α} (h:Own e sz c w base v xs) (hc:∀ x,(c x).size=sz):∃ a cap,v = .slice a xs.length cap:=by
 obtain ⟨a,cap,e,-,-,-⟩:=h.slice hc
 exact ⟨a,cap,e⟩
theorem ai.aside {g:Nat} {w w':World} {b:Nat} {C:Array Value} (h:ai w b C) (k:ab g w w') (hg:b≠g):ai w' b C :=
 ⟨Nat.lt_of_lt_of_le h.lt k.size,fun i=>(k.cells b i h.lt hg).trans (h.cells i),fun i=>(World.frozen?_of_block (w:=w) (k.block b h.lt hg)).trans (h.aM i)⟩
theorem ab.iv {g:Nat} {a:World}:∀ (L:List Value) (w:World) (k:Nat),ab g a w->ab g a (Go.Proofs.YteagpjlgjfaclaaGreatDoor.putC w g k L)
 | [],_,_,h=>h
 | v::r,_,k,h=>ab.iv r _ (k+1) (h.setCell k v)
theorem t8 {X w':World} {e:TypeId} {b k n:Nat} {C:Array Value} (hn:X.heap.size=n) (B:ai X b C) (hk:k < C.size) (g:(X.alloc (.cells #[] e)).grownBy w' (some n)) (u:Value) :
  ai w' b C /\ ab b X (w'.setCell ⟨b,k,none⟩ u) /\ ai (w'.setCell ⟨b,k,none⟩ u) b (C.setIfInBounds k u):=by
 have hl:=B.lt
 have B1:ai w' b C:=(B.alloc _).grown g (by intro q hq;cases hq;omega)
 exact ⟨B1,((ab.of ((aa.refl X).alloc _)).grown g (by intro q hq;cases hq;omega)).setCell k u,B1.set k hk u⟩
set_option maxHeartbeats 8000000 in
theorem pK {w:World} {v:Sv} {s:Sy} (h:aA w v s) :
  Calls Tryz.prog 40 #[.agg (ae s v)] w fun e w'=>∃ v' vs,e = .returned (.agg (ae s v')) /\ ay w' w.heap.size v' vs s /\ aa w w':=by
 have hz:=h.size
 have q1:Hid (s.tasks.length <= 2097152):=by show _ <= _;unfold bV at hz;omega
 have q2:Hid (s.ah.length <= 2097152):=by show _ <= _;unfold bV at hz;omega
 have q3:Hid (s.ax.length <= 2097152):=by show _ <= _;unfold bV at hz;omega
 have q4:Hid (s.trace.length <= 2097152):=by show _ <= _;unfold bV at hz;omega
 clear hz
 obtain ⟨W,HW⟩:∃ W,W=(w.alloc (.cells (ae s v) 30)).alloc (.cells (ae Sy.zero Sv.zero) 30):=⟨_,rfl⟩
 have kW:aa w W:=by rw [HW];exact ((aa.refl w).alloc _).alloc _
 have hsz:W.heap.size=w.heap.size+2:=by rw [HW];simp
 have B0:Hid (ai W w.heap.size (ae s v)):=by show ai _ _ _;rw [HW];exact (ai.new _ _ _).alloc _
 have R0:Hid (ai W (w.heap.size+1) (ae Sy.zero Sv.zero)):=by
  show ai _ _ _
  rw [HW]
  have:=ai.new (w.alloc (.cells (ae s v) 30)) (ae Sy.zero Sv.zero) 30
  simpa using this
 have hS:Hid (aA W v s):=h.keeps kW
 go_enter Tryz.func40,Tryz.ntmps40
 go_wp2_with (at_builtin;(refine ql rfl _ _ 24 rfl (w.heap.size+2) 43 (tk ag.zero) 14 112 tc Tryz.underlying24 (by kernel_rfl) rfl (by decide) dC ja (.slice (some ⟨w.heap.size+2,0,none⟩) 0 0) rfl (Own.fresh (W:=W) 43 14 tc hsz (by rw [HW];rfl)) (by simp) s.tasks v.t (by rw [HW] at hS;exact (hS.out.tc.keeps ((aa.refl _).alloc _))) (by rw [HW] at hS;exact (hS.out.lay.t.keeps ((aa.refl _).alloc _))) h.lay.tl rfl q1.out (by decide) ?_))
 intro v1 w1 O1 g1 f1
 obtain ⟨a1,c1,rfl⟩:=O1.form dC
 have g1':(W.alloc (.cells #[] 43)).grownBy w1 (some (w.heap.size+2)):=by rw [HW];exact g1
 obtain ⟨X1,t9,Dm⟩:=t8 hsz B0.out (k:=2) (by simp) g1' (.slice a1 s.tasks.length c1)
 have F1:Hid (∀ q,(Value.slice a1 s.tasks.length c1).ownBlock=some q->w.heap.size+2 <= q):=fun q hq=>(O1.cD q hq).1
 have wU:Hid (Own 43 14 tc (w1.setCell ⟨w.heap.size,2,none⟩ (.slice a1 s.tasks.length c1)) (w.heap.size+2) (.slice a1 s.tasks.length c1) s.tasks):=O1.cE ((ab.refl w.heap.size w1).setCell 2 _) (by omega)
 have Dn:Hid (ai (w1.setCell ⟨w.heap.size,2,none⟩ (.slice a1 s.tasks.length c1)) (w.heap.size+1) (ae Sy.zero Sv.zero)):=R0.out.aside t9 (by omega)
 have wV:aa w (w1.setCell ⟨w.heap.size,2,none⟩ (.slice a1 s.tasks.length c1)):=t9.keeps kW (Nat.le_refl _)
 have Dp:Hid (ai (w1.setCell ⟨w.heap.size,2,none⟩ (.slice a1 s.tasks.length c1)) w.heap.size (ae s { v with t:=⟨a1,s.tasks.length,c1⟩ })):=Dm
 have hz1:Hid (w.heap.size+2 <= (w1.setCell ⟨w.heap.size,2,none⟩ (.slice a1 s.tasks.length c1)).heap.size):=by show _ <= _;have:=t9.size;omega
 obtain ⟨_,x1,x2⟩:=X1
 clear g1 g1' f1 O1 t9 Dm B0 R0 kW hS HW hsz
 go_wp2_with fail
 generalize w1.setCell ⟨w.heap.size,2,none⟩ (.slice a1 s.tasks.length c1)=Y1 at *
 have CP:=wv v.l.a v.l.cap s.af Y1 (by have:=h.size;unfold bV at this;omega) (h.keeps wV).lay.l
 rw [h.lay.ll] at CP
 refine CP.mono ?_
 rintro e w2 ⟨lv,vs,rfl,ML,k2⟩
 obtain ⟨a2,c2,rfl,-,-⟩:=ML.gP
 clear CP x1 x2
 obtain ⟨Y2,oU⟩:∃ Y2,Y2=w2.setCell ⟨w.heap.size,3,none⟩ (.slice a2 s.af.length c2):=⟨_,rfl⟩
 have X2:=Dp.out.keeps k2
 have ua:ab w.heap.size Y1 Y2:=by rw [oU];exact (ab.of k2).setCell 3 _
 have Dq:Hid (ai Y2 w.heap.size (ae s { v with t:=⟨a1,s.tasks.length,c1⟩,l:=⟨a2,s.af.length,c2⟩ })):=by show ai _ _ _;rw [oU];exact X2.set 3 (by simp) _
 have Dr:Hid (ai Y2 (w.heap.size+1) (ae Sy.zero Sv.zero)):=Dn.out.aside ua (by omega)
 have wW:aa w Y2:=ua.keeps wV (Nat.le_refl _)
 have NO:Hid (Own 43 14 tc Y2 (w.heap.size+2) (.slice a1 s.tasks.length c1) s.tasks):=wU.out.cE ua (by omega)
 have B1:Hid (∀ q,(Value.slice a1 s.tasks.length c1).ownBlock=some q->q < Y1.heap.size):=fun q hq=>(wU.out.cD q hq).2
 have hz2:Y2.heap.size=w2.heap.size:=by rw [oU];simp
 have g8:Hid (Y1.heap.size <= w2.heap.size):=k2.size
 have M2:Hid (Mine Y2 Y1.heap.size w2.heap.size (.slice a2 s.af.length c2) vs s.af):=by
  show Mine _ _ _ _ _ _
  refine ML.same fun q hq _ hq2 => ?_
  rw [oU]
  exact gz (by have:=hz1.out;omega)
 obtain ⟨_,x1,x2⟩:=X2
 clear wU Dn Dp ML ua k2 wV
 have hS0:=h.keeps wW
 have wX:=hS0.gc.keeps ((aa.refl Y2).alloc (.cells #[] 87))
 have wY:cH 4 dM (Y2.alloc (.cells #[] 87)) v.g.a s.ah:=((h.keeps wW).lay.g).keeps ((aa.refl _).alloc _)
 rw [oU] at wX wY
 go_wp2_with (at_builtin;(refine ql rfl _ _ 26 rfl w2.heap.size 87 (.agg (dM Gh.zero)) 4 32 dM Tryz.underlying26 (by kernel_rfl) rfl (by decide) jS qD (.slice (some ⟨w2.heap.size,0,none⟩) 0 0) rfl (Own.fresh (W:=Y2) 87 4 dM hz2 (by rw [oU])) (by simp) s.ah v.g wX wY h.lay.gl rfl q2.out (by decide) ?_))
 intro v3 w3 O3 g3 f3
 obtain ⟨a3,c3,rfl⟩:=O3.form jS
 have g3':(Y2.alloc (.cells #[] 87)).grownBy w3 (some w2.heap.size):=by rw [oU];exact g3
 obtain ⟨X3,sg,wZ⟩:=t8 hz2 Dq.out (k:=4) (by simp) g3' (.slice a3 s.ah.length c3)
 obtain ⟨Y3,qc⟩:∃ Y,Y=w3.setCell ⟨w.heap.size,4,none⟩ (.slice a3 s.ah.length c3):=⟨_,rfl⟩
 rw [<- qc] at sg wZ
 have Ds:Hid (ai Y3 w.heap.size (ae s { v with t:=⟨a1,s.tasks.length,c1⟩,l:=⟨a2,s.af.length,c2⟩,g:=⟨a3,s.ah.length,c3⟩ })):=wZ
 have Dt:Hid (ai Y3 (w.heap.size+1) (ae Sy.zero Sv.zero)):=Dr.out.aside sg (by omega)
 have xd:aa w Y3:=sg.keeps wW (Nat.le_refl _)
 have hz3:Y3.heap.size=w3.heap.size:=by rw [qc];simp
 have iA:Hid (w2.heap.size <= w3.heap.size):=by show _ <= _;have e1:=g3'.size;have e2:=hz2;simp at e1;omega
 have xf:Hid (Own 43 14 tc Y3 (w.heap.size+2) (.slice a1 s.tasks.length c1) s.tasks):=NO.out.cE sg (by have:=hz1.out;have:=g8.out;have:=iA.out;omega)
 have M3:Hid (Mine Y3 Y1.heap.size w2.heap.size (.slice a2 s.af.length c2) vs s.af):=by
  show Mine _ _ _ _ _ _
  refine M2.out.same fun q hq hq1 hq2=>sg.block q hq2 (by have:=hz1.out;omega)
 have N3:Hid (Own 87 4 dM Y3 w2.heap.size (.slice a3 s.ah.length c3) s.ah):=by
  show Own _ _ _ _ _ _ _
  rw [qc]
  exact O3.cE ((ab.refl w.heap.size w3).setCell 4 _) (by have:=hz1.out;have:=g8.out;omega)
 obtain ⟨_,x1,x2⟩:=X3
 clear g3 g3' f3 O3 wZ Dq Dr wX wY hS0
 have hS1:=h.keeps xd
 have xg:=hS1.fc.keeps ((aa.refl Y3).alloc (.cells #[] 3))
 have xh:cH 1 ic (Y3.alloc (.cells #[] 3)) v.f.a s.ax:=((h.keeps xd).lay.f.lies).keeps ((aa.refl _).alloc _)
 rw [qc] at xg xh
 go_wp2_with (at_builtin;(refine ql rfl _ _ 27 rfl w3.heap.size 3 (.int .i64 0) 1 8 ic Tryz.underlying27 (by kernel_rfl) rfl (by decide) fW lN (.slice (some ⟨w3.heap.size,0,none⟩) 0 0) rfl (Own.fresh (W:=Y3) 3 1 ic hz3 (by rw [qc])) (by simp) s.ax v.f xg xh h.lay.fl rfl q3.out (by decide) ?_))
 intro v4 w4 O4 g4 f4
 obtain ⟨a4,c4,rfl⟩:=O4.form fW
 have g4':(Y3.alloc (.cells #[] 3)).grownBy w4 (some w3.heap.size):=by rw [qc];exact g4
 obtain ⟨X4,qd,xi⟩:=t8 hz3 Ds.out (k:=5) (by simp) g4' (.slice a4 s.ax.length c4)
 obtain ⟨Y4,qe⟩:∃ Y,Y=w4.setCell ⟨w.heap.size,5,none⟩ (.slice a4 s.ax.length c4):=⟨_,rfl⟩
 rw [<- qe] at qd xi
 have Du:Hid (ai Y4 w.heap.size (ae s { v with t:=⟨a1,s.tasks.length,c1⟩,l:=⟨a2,s.af.length,c2⟩,g:=⟨a3,s.ah.length,c3⟩,f:=⟨a4,s.ax.length,c4⟩ })):=xi
 have Dv:Hid (ai Y4 (w.heap.size+1) (ae Sy.zero Sv.zero)):=Dt.out.aside qd (by omega)
 have xj:aa w Y4:=qd.keeps xd (Nat.le_refl _)
 have xk:Y4.heap.size=w4.heap.size:=by rw [qe];simp
 have jv:Hid (w3.heap.size <= w4.heap.size):=by show _ <= _;have e1:=g4'.size;have e2:=hz3;simp at e1;omega
 have xl:Hid (Own 43 14 tc Y4 (w.heap.size+2) (.slice a1 s.tasks.length c1) s.tasks):=xf.out.cE qd (by have:=hz1.out;have:=g8.out;have:=iA.out;have:=jv.out;omega)
 have NP:Hid (Own 87 4 dM Y4 w2.heap.size (.slice a3 s.ah.length c3) s.ah):=N3.out.cE qd (by have:=hz1.out;have:=g8.out;have:=iA.out;have:=jv.out;omega)
 have M4:Hid (Mine Y4 Y1.heap.size w2.heap.size (.slice a2 s.af.length c2) vs s.af):=by
  show Mine _ _ _ _ _ _
  refine M3.out.same fun q hq hq1 hq2=>qd.block q hq2 (by have:=hz1.out;omega)
 have N4:Hid (Own 3 1 ic Y4 w3.heap.size (.slice a4 s.ax.length c4) s.ax):=by
  show Own _ _ _ _ _ _ _
  rw [qe]
  exact O4.cE ((ab.refl w.heap.size w4).setCell 5 _) (by have:=hz1.out;have:=g8.out;have:=iA.out;omega)
 obtain ⟨_,x1,x2⟩:=X4
 clear g4 g4' f4 O4 xi Ds Dt xg xh hS1
 have hS2:=h.keeps xj
 have xm:=hS2.rc.keeps ((aa.refl Y4).alloc (.cells #[] 104))
 have xp:cH 3 eC (Y4.alloc (.cells #[] 104)) v.r.a s.trace:=((h.keeps xj).lay.r).keeps ((aa.refl _).alloc _)
 rw [qe] at xm xp
 go_wp2_with (at_builtin;(refine ql rfl _ _ 28 rfl w4.heap.size 104 (.agg (eC Tn.zero)) 3 24 eC Tryz.underlying28 (by kernel_rfl) rfl (by decide) jc pC (.slice (some ⟨w4.heap.size,0,none⟩) 0 0) rfl (Own.fresh (W:=Y4) 104 3 eC xk (by rw [qe])) (by simp) s.trace v.r xm xp h.lay.rl rfl q4.out (by decide) ?_))
 intro v5 w5 O5 g5 f5
 obtain ⟨a5,c5,rfl⟩:=O5.form jc
 have xq:(Y4.alloc (.cells #[] 104)).grownBy w5 (some w4.heap.size):=by rw [qe];exact g5
 obtain ⟨X5,oV,xr⟩:=t8 xk Du.out (k:=8) (by simp) xq (.slice a5 s.trace.length c5)
 obtain ⟨Y5,si⟩:∃ Y,Y=w5.setCell ⟨w.heap.size,8,none⟩ (.slice a5 s.trace.length c5):=⟨_,rfl⟩
 rw [<- si] at oV xr
 have PV:Hid (ai Y5 w.heap.size (ae s { v with t:=⟨a1,s.tasks.length,c1⟩,l:=⟨a2,s.af.length,c2⟩,g:=⟨a3,s.ah.length,c3⟩,f:=⟨a4,s.ax.length,c4⟩,r:=⟨a5,s.trace.length,c5⟩ })):=xr
 have Dw:Hid (ai Y5 (w.heap.size+1) (ae Sy.zero Sv.zero)):=Dv.out.aside oV (by omega)
 have NQ:aa w Y5:=oV.keeps xj (Nat.le_refl _)
 have PW:Y5.heap.size=w5.heap.size:=by rw [si];simp
 have mS:Hid (w4.heap.size <= w5.heap.size):=by show _ <= _;have e1:=xq.size;have e2:=xk;simp at e1;omega
 have xt:Hid (Own 43 14 tc Y5 (w.heap.size+2) (.slice a1 s.tasks.length c1) s.tasks):=xl.out.cE oV (by have:=hz1.out;have:=g8.out;have:=iA.out;have:=jv.out;have:=mS.out;omega)
 have NR:Hid (Own 87 4 dM Y5 w2.heap.size (.slice a3 s.ah.length c3) s.ah):=NP.out.cE oV (by have:=hz1.out;have:=g8.out;have:=iA.out;have:=jv.out;have:=mS.out;omega)
 have NS:Hid (Own 3 1 ic Y5 w3.heap.size (.slice a4 s.ax.length c4) s.ax):=N4.out.cE oV (by have:=hz1.out;have:=g8.out;have:=iA.out;have:=jv.out;have:=mS.out;omega)
 have M5:Hid (Mine Y5 Y1.heap.size w2.heap.size (.slice a2 s.af.length c2) vs s.af):=by
  show Mine _ _ _ _ _ _
  refine M4.out.same fun q hq hq1 hq2=>oV.block q hq2 (by have:=hz1.out;omega)
 have N5:Hid (Own 104 3 eC Y5 w4.heap.size (.slice a5 s.trace.length c5) s.trace):=by
  show Own _ _ _ _ _ _ _
  rw [si]
  exact O5.cE ((ab.refl w.heap.size w5).setCell 8 _) (by have:=hz1.out;have:=g8.out;have:=iA.out;have:=jv.out;omega)
 obtain ⟨_,x1,x2⟩:=X5
 clear g5 xq f5 O5 xr Du Dv xm xp hS2
 have RZ:=Dw.out
 rw [si] at RZ
 obtain ⟨_,y1,y2⟩:=RZ
 go_wp2
 have D:=Dw.out.putC (ae s ⟨⟨a1,s.tasks.length,c1⟩,⟨a2,s.af.length,c2⟩,⟨a3,s.ah.length,c3⟩,⟨a4,s.ax.length,c4⟩,⟨a5,s.trace.length,c5⟩⟩).toList rfl
 have KZ:=aa.putC (b:=w.heap.size+1) (by omega) (ae s ⟨⟨a1,s.tasks.length,c1⟩,⟨a2,s.af.length,c2⟩,⟨a3,s.ah.length,c3⟩,⟨a4,s.ax.length,c4⟩,⟨a5,s.trace.length,c5⟩⟩).toList 0 NQ
 have qf:ab (w.heap.size+1) Y5 (putC Y5 (w.heap.size+1) 0 (ae s ⟨⟨a1,s.tasks.length,c1⟩,⟨a2,s.af.length,c2⟩,⟨a3,s.ah.length,c3⟩,⟨a4,s.ax.length,c4⟩,⟨a5,s.trace.length,c5⟩⟩).toList):=ab.iv _ _ _ (ab.refl _ _)
 change bodyPost _ _ _ _ _ (putC (w5.setCell ⟨w.heap.size,8,none⟩ (.slice a5 s.trace.length c5)) (w.heap.size+1) 0 (ae s ⟨⟨a1,s.tasks.length,c1⟩,⟨a2,s.af.length,c2⟩,⟨a3,s.ah.length,c3⟩,⟨a4,s.ax.length,c4⟩,⟨a5,s.trace.length,c5⟩⟩).toList)
 rw [<- si]
 have e1:=hz1.out
 have e2:=g8.out
 have e3:=iA.out
 have e4:=jv.out
 have e5:=mS.out
 have e6:=qf.size
 have S0:ay (putC Y5 (w.heap.size+1) 0 (ae s ⟨⟨a1,s.tasks.length,c1⟩,⟨a2,s.af.length,c2⟩,⟨a3,s.ah.length,c3⟩,⟨a4,s.ax.length,c4⟩,⟨a5,s.trace.length,c5⟩⟩).toList) w.heap.size ⟨⟨a1,s.tasks.length,c1⟩,⟨a2,s.af.length,c2⟩,⟨a3,s.ah.length,c3⟩,⟨a4,s.ax.length,c4⟩,⟨a5,s.trace.length,c5⟩⟩ vs s:=by
  refine ⟨(xt.out.cE qf (by omega)).base (by omega),(M5.out.same fun q hq _ hq2=>qf.block q hq2 (by omega)).widen (by omega) (by omega),(NR.out.cE qf (by omega)).base (by omega),(NS.out.cE qf (by omega)).base (by omega),(N5.out.cE qf (by omega)).base (by omega),?_⟩
  refine AM (w.heap.size+2) Y1.heap.size w2.heap.size w3.heap.size w4.heap.size w5.heap.size (fun q hq=>⟨F1.out q hq,B1.out q hq⟩) ?_ (fun q hq => ?_) (fun q hq => ?_) (fun q hq => ?_) (by omega) (by omega) (by omega)
  ·rintro q (hq | ⟨x,hx,hq⟩)
   ·exact ⟨(M5.out.own.cD q hq).1,M5.out.out q hq⟩
   ·obtain ⟨j,hj⟩:=List.mem_iff_getElem?.1 hx
    exact ⟨(M5.out.aG (.inr ⟨x,hx,hq⟩)).1,(M5.out.gj j x q hj hq).1⟩
  ·have:=N3.out.cD q hq
   exact ⟨this.1,by omega⟩
  ·have:=N4.out.cD q hq
   exact ⟨this.1,by omega⟩
  ·have:=N5.out.cD q hq
   exact ⟨this.1,by omega⟩
 generalize putC Y5 (w.heap.size+1) 0 (ae s ⟨⟨a1,s.tasks.length,c1⟩,⟨a2,s.af.length,c2⟩,⟨a3,s.ah.length,c3⟩,⟨a4,s.ax.length,c4⟩,⟨a5,s.trace.length,c5⟩⟩).toList=Z at D KZ S0 ⊢
 exact bodyPost_ret (v := .agg (ae s ⟨⟨a1,s.tasks.length,c1⟩,⟨a2,s.af.length,c2⟩,⟨a3,s.ah.length,c3⟩,⟨a4,s.ax.length,c4⟩,⟨a5,s.trace.length,c5⟩⟩)) (by simp [results,Tryz.results40,go_sem,D.cells]) rfl ⟨⟨⟨a1,s.tasks.length,c1⟩,⟨a2,s.af.length,c2⟩,⟨a3,s.ah.length,c3⟩,⟨a4,s.ax.length,c4⟩,⟨a5,s.trace.length,c5⟩⟩,vs,rfl,S0,KZ⟩
theorem PX {X w':World} {b k:Nat} {C:Array Value} (h:aa X w') (B:ai X b C) (hk:k < C.size) (u:Value):ai w' b C /\ ab b X (w'.setCell ⟨b,k,none⟩ u) /\ ai (w'.setCell ⟨b,k,none⟩ u) b (C.setIfInBounds k u) :=
 ⟨B.keeps h,(ab.of h).setCell k u,(B.keeps h).set k hk u⟩
theorem qk {w:World} {b:Nat}:∀ (L:List Value) (x:World) (k:Nat),w.grownBy x (some b)->w.grownBy (putC x b k L) (some b)
 | [],_,_,h=>h
 | v::r,x,k,h=>qk r _ (k+1) ⟨h.os,h.tape,h.output,Nat.le_trans h.size (by simp),fun q hq hne=>(gz (by intro e;subst e;exact hne rfl)).trans (h.block q hq hne)⟩
structure aK (P:Nat->Prop) (w w':World):Prop where
 os:w'.os=w.os
 tape:w'.tape=w.tape
 output:w'.output=w.output
 size:w.heap.size <= w'.heap.size
 block:∀ b,b < w.heap.size->¬ P b->w'.heap[b]?=w.heap[b]?
theorem aK.refl (P:Nat->Prop) (w:World):aK P w w:=⟨rfl,rfl,rfl,Nat.le_refl _,fun _ _ _=>rfl⟩
theorem aK.trans {P:Nat->Prop} {a b c:World} (h:aK P a b) (k:aK P b c):aK P a c :=
 ⟨k.os.trans h.os,k.tape.trans h.tape,k.output.trans h.output,Nat.le_trans h.size k.size,fun q hq hn=>(k.block q (Nat.lt_of_lt_of_le hq h.size) hn).trans (h.block q hq hn)⟩
theorem aK.mono {P Q:Nat->Prop} {a b:World} (h:aK P a b) (k:∀ q,P q->Q q):aK Q a b:=⟨h.os,h.tape,h.output,h.size,fun q hq hn=>h.block q hq fun hp=>hn (k q hp)⟩
theorem aK.grown {a b:World} {row:Option Nat} (h:a.grownBy b row):aK (fun q=>row=some q) a b:=⟨h.os,h.tape,h.output,h.size,fun q hq hn=>h.block q hq fun e=>hn e.symm⟩
theorem aK.keeps {P:Nat->Prop} {w a b:World} (h:aK P a b) (k:aa w a) (hp:∀ q,P q->w.heap.size <= q):aa w b :=
 Below.trans k ⟨h.os,h.tape,h.output,h.size,fun i hi=>h.block i (Nat.lt_of_lt_of_le hi k.size) fun hq=>by have:=hp i hq;omega⟩
end
def qg (s:Sy):Prop:=∀ t∈s.tasks,0 <= t.cpu /\ t.cpu < (s.ax.length:Int)
theorem ay.aside {w w':World} {lo:Nat} {v:Sv} {vs:List Lv} {s:Sy} (h:ay w lo v vs s) (hz:w.heap.size <= w'.heap.size) (k:∀ i b,bp v vs i b->w'.heap[b]?=w.heap[b]?):ay w' lo v vs s :=
 ⟨h.t.same fun b e=>k 0 b e,(h.l.iU fun b e=>k 1 b e).widen (Nat.le_refl _) hz,h.g.same fun b e=>k 2 b e,h.f.same fun b e=>k 3 b e,h.r.same fun b e=>k 4 b e,h.ap⟩
theorem ay.far {w:World} {lo:Nat} {v:Sv} {vs:List Lv} {s:Sy} (h:ay w lo v vs s) {c o:Nat} (hc:∀ i,¬ bp v vs i c) (x:Value):ay (w.setCell ⟨c,o,none⟩ x) lo v vs s :=
 h.aside (by simp) fun i b hb=>gz (by intro e;subst e;exact hc i hb)
theorem ay.aU {lo:Nat} {v:Sv} {vs:List Lv} {s:Sy} {c:Nat} (hc:∀ i,¬ bp v vs i c):∀ (L:List Value) {w:World} (k:Nat),ay w lo v vs s->ay (putC w c k L) lo v vs s
 | [],_,_,h=>h
 | x::r,_,k,h=>ay.aU hc r (k+1) (h.far hc x)
theorem ay.storeT {w:World} {lo:Nat} {v:Sv} {vs:List Lv} {s:Sy} (h:ay w lo v vs s) {rb:Nat} (ha:v.t.a=some ⟨rb,0,none⟩) {k:Nat} (hk:k < s.tasks.length) (x:ag) :
  ay (putC w rb (k*14) (tc x).toList) lo v vs { s with tasks:=s.tasks.set k x } /\ aK (bp v vs 0) w (putC w rb (k*14) (tc x).toList):=by
 have hn:=(h.t.row dC).1
 have hv:v.t.val = .slice (some ⟨rb,0,none⟩) s.tasks.length v.t.cap:=by rw [Rw.val,ha,hn]
 have O:=h.t
 rw [hv] at O
 have G:w.grownBy (putC w rb (k*14) (tc x).toList) (some rb):=qk _ _ _ (World.grownBy.refl _ _)
 have ho:v.t.val.ownBlock=some rb:=by rw [hv];rfl
 refine ⟨h.mj G.size (fun b hb hn=>G.block b hb (fun e=>hn (by show v.t.val.ownBlock=some b;rw [ho,e]))) v.t _ ?_ (fun b e => .inl e),?_⟩
 ·have:=O.put dC hk x
  rw [List.length_set] at this
  rw [hv]
  exact this
 ·exact (aK.grown G).mono fun q hq=>by show v.t.val.ownBlock=some q;rw [ho];exact hq
abbrev zc:Array Value:=#[.int .i64 0,.int .i64 0,.slice none 0 0,.slice none 0 0,.slice none 0 0,.slice none 0 0,.int .i64 0,.int .i64 0,.slice none 0 0]
structure Goes (w:World) (lo:Nat) (v:Sv) (vs:List Lv) (w':World) (v':Sv) (vs':List Lv) (s':Sy):Prop where
 own:ay w' lo v' vs' s'
 turn:aK (fun b=>∃ i,bp v vs i b) w w'
 old:∀ i b,bp v' vs' i b->(∃ j,bp v vs j b)∨w.heap.size <= b
theorem Goes.refl {w:World} {lo:Nat} {v:Sv} {vs:List Lv} {s:Sy} (h:ay w lo v vs s):Goes w lo v vs w v vs s:=⟨h,aK.refl _ _,fun i _ hb => .inl ⟨i,hb⟩⟩
theorem Goes.trans {w w' w'':World} {lo:Nat} {v v' v'':Sv} {vs vs' vs'':List Lv} {s' s'':Sy} (h:Goes w lo v vs w' v' vs' s') (k:Goes w' lo v' vs' w'' v'' vs'' s''):Goes w lo v vs w'' v'' vs'' s'':=by
 refine ⟨k.own,⟨k.turn.os.trans h.turn.os,k.turn.tape.trans h.turn.tape,k.turn.output.trans h.turn.output,Nat.le_trans h.turn.size k.turn.size,fun b hb hn => ?_⟩,fun i b hb => ?_⟩
 ·refine (k.turn.block b (Nat.lt_of_lt_of_le hb h.turn.size) ?_).trans (h.turn.block b hb hn)
  rintro ⟨i,hi⟩
  rcases h.old i b hi with h1 | h1
  ·exact hn h1
  ·omega
 ·rcases k.old i b hb with ⟨j,hj⟩ | h1
  ·exact h.old j b hj
  ·exact .inr (Nat.le_trans h.turn.size h1)
theorem Goes.fresh {w w':World} {lo:Nat} {v v':Sv} {vs vs':List Lv} {s':Sy} (h:ay w' w.heap.size v' vs' s') (k:aa w w') (hl:lo <= w.heap.size):Goes w lo v vs w' v' vs' s' :=
 ⟨h.base hl,⟨k.os,k.tape,k.output,k.size,fun b hb _=>Below.block k b hb⟩,fun _ _ hb => .inr (h.aG hb).1⟩
theorem Goes.ahead {w0 w w':World} {lo:Nat} {v v':Sv} {vs vs':List Lv} {s':Sy} (k:aa w0 w) (h:Goes w lo v vs w' v' vs' s'):Goes w0 lo v vs w' v' vs' s':=by
 refine ⟨h.own,⟨h.turn.os.trans k.os,h.turn.tape.trans k.tape,h.turn.output.trans k.output,Nat.le_trans k.size h.turn.size,fun b hb hn=>(h.turn.block b (Nat.lt_of_lt_of_le hb k.size) hn).trans (Below.block k b hb)⟩,fun i b hb => ?_⟩
 rcases h.old i b hb with h1 | h1
 ·exact .inl h1
 ·exact .inr (Nat.le_trans k.size h1)
theorem Goes.behind {w w' w'':World} {lo:Nat} {v v':Sv} {vs vs':List Lv} {s':Sy} (h:Goes w lo v vs w' v' vs' s') (k:aa w' w''):Goes w lo v vs w'' v' vs' s' :=
 ⟨h.own.keeps k,⟨k.os.trans h.turn.os,k.tape.trans h.turn.tape,k.output.trans h.turn.output,Nat.le_trans h.turn.size k.size,fun b hb hn=>(Below.block k b (Nat.lt_of_lt_of_le hb h.turn.size)).trans (h.turn.block b hb hn)⟩,h.old⟩
theorem Goes.keeps {w0 w w':World} {lo:Nat} {v v':Sv} {vs vs':List Lv} {s s':Sy} (h:Goes w lo v vs w' v' vs' s') (h0:ay w lo v vs s) (k:aa w0 w) (hl:w0.heap.size <= lo):aa w0 w' :=
 h.turn.keeps k fun _ ⟨_,hi⟩=>Nat.le_trans hl (h0.aG hi).1
theorem Goes.blk {w w':World} {lo:Nat} {v v':Sv} {vs vs':List Lv} {s':Sy} (h:Goes w lo v vs w' v' vs' s') {b:Nat} {C:Array Value} (hb:ai w b C) (hn:∀ i,¬ bp v vs i b):ai w' b C:=by
 have e:=h.turn.block b hb.lt (fun ⟨i,hi⟩=>hn i hi)
 exact ⟨Nat.lt_of_lt_of_le hb.lt h.turn.size,fun k=>(World.cell?_of_block (w:=w) e).trans (hb.cells k),fun k=>(World.frozen?_of_block (w:=w) e).trans (hb.aM k)⟩
theorem Goes.far {w w':World} {lo:Nat} {v v':Sv} {vs vs':List Lv} {s':Sy} (h:Goes w lo v vs w' v' vs' s') {b:Nat} (hb:b < w.heap.size) (hn:∀ i,¬ bp v vs i b):∀ i,¬ bp v' vs' i b:=by
 intro i hi
 rcases h.old i b hi with ⟨j,hj⟩ | h1
 ·exact hn j hj
 ·omega
structure bB (w:World) (lo ob:Nat) (v:Sv) (vs:List Lv) (s:Sy):Prop where
 box:ai w ob (ae s v)
 own:ay w lo v vs s
 gI:lo <= ob
 far:∀ i,¬ bp v vs i ob
theorem bB.keeps {w w':World} {lo ob:Nat} {v:Sv} {vs:List Lv} {s:Sy} (h:bB w lo ob v vs s) (k:aa w w'):bB w' lo ob v vs s:=⟨h.box.keeps k,h.own.keeps k,h.gI,h.far⟩
theorem bB.new {w:World} {lo:Nat} {v:Sv} {vs:List Lv} {s:Sy} (h:ay w lo v vs s) (hl:lo <= w.heap.size):bB (w.alloc (.cells (ae s v) 30)) lo w.heap.size v vs s :=
 ⟨ai.new _ _ _,h.keeps ((aa.refl _).alloc _),hl,fun i hi=>by have:=(h.aG hi).2;omega⟩
theorem bB.put {w w':World} {lo ob:Nat} {v v':Sv} {vs vs':List Lv} {s s':Sy} (h:bB w lo ob v vs s) (g:Goes w lo v vs w' v' vs' s'):bB (putC w' ob 0 (ae s' v').toList) lo ob v' vs' s':=by
 have hf:=g.far h.box.lt h.far
 exact ⟨(g.blk h.box h.far).putC (ae s' v').toList rfl,ay.aU hf _ _ g.own,h.gI,hf⟩
theorem bB.task {w:World} {lo ob:Nat} {v:Sv} {vs:List Lv} {s:Sy} (h:bB w lo ob v vs s) {rb:Nat} (ha:v.t.a=some ⟨rb,0,none⟩) {k:Nat} (hk:k < s.tasks.length) (x:ag):bB (putC w rb (k*14) (tc x).toList) lo ob v vs { s with tasks:=s.tasks.set k x }:=by
 have ho:bp v vs 0 rb:=by show v.t.val.ownBlock=some rb;rw [Rw.val,ha];rfl
 have hne:rb≠ob:=fun e=>h.far 0 (by rw [<- e];exact ho)
 exact ⟨ai.aU hne _ _ h.box,(h.own.storeT ha hk x).1,h.gI,h.far⟩
theorem bB.fV {w0 w:World} {lo ob:Nat} {v:Sv} {vs:List Lv} {s:Sy} (h:bB w lo ob v vs s) {rb:Nat} (ha:v.t.a=some ⟨rb,0,none⟩) (k:Nat) (L:List Value) (k0:aa w0 w) (hl:w0.heap.size <= lo):aa w0 (putC w rb k L):=by
 have ho:bp v vs 0 rb:=by show v.t.val.ownBlock=some rb;rw [Rw.val,ha];rfl
 exact aa.putC (b:=rb) (Nat.le_trans hl (h.own.aG ho).1) L k k0
theorem bB.elsewhere {w:World} {lo ob:Nat} {v:Sv} {vs:List Lv} {s:Sy} (h:bB w lo ob v vs s) {c:Nat} (hc:∀ i,¬ bp v vs i c) (hne:c≠ob) (L:List Value) (k:Nat):bB (putC w c k L) lo ob v vs s :=
 ⟨ai.aU hne L k h.box,ay.aU hc L k h.own,h.gI,h.far⟩
theorem ay.bm {w:World} {lo:Nat} {v:Sv} {vs:List Lv} {s:Sy} (h:ay w lo v vs s) {k:Nat} (hk:k < s.tasks.length):∃ rb,v.t.a=some ⟨rb,0,none⟩:=by
 obtain ⟨b,cap,e⟩:=h.t.blk (by omega)
 simp only [Rw.val,Value.slice.injEq] at e
 exact ⟨b,e.1⟩
theorem ay.aI {w:World} {lo:Nat} {v:Sv} {vs:List Lv} {s:Sy} (h:ay w lo v vs s) {rb:Nat} (ha:v.t.a=some ⟨rb,0,none⟩) {k:Nat} {t:ag} (ht:s.tasks[k]?=some t):(∀ j,j < 14->w.cell? ⟨rb,k*14+j,none⟩=(tc t)[j]?) /\ ∀ j,w.frozen? ⟨rb,j,none⟩=false:=by
 have hn:=(h.t.row dC).1
 have hv:v.t.val = .slice (some ⟨rb,0,none⟩) s.tasks.length v.t.cap:=by rw [Rw.val,ha,hn]
 have O:=h.t
 rw [hv] at O
 exact ⟨fun j hj=>O.cellAt dC ht hj,fun j=>O.frozenAt j⟩
theorem Goes.step {w0 w w':World} {lo:Nat} {v0 v v':Sv} {cf vs vs':List Lv} {s s':Sy} (h:Goes w0 lo v0 cf w v vs s) (own:ay w' lo v' vs' s') (t:aK (fun b=>(∃ i,bp v vs i b)∨w0.heap.size <= b) w w') (old:∀ i b,bp v' vs' i b->(∃ j,bp v vs j b)∨w0.heap.size <= b):Goes w0 lo v0 cf w' v' vs' s':=by
 refine ⟨own,⟨t.os.trans h.turn.os,t.tape.trans h.turn.tape,t.output.trans h.turn.output,Nat.le_trans h.turn.size t.size,fun b hb hn => ?_⟩,fun i b hb => ?_⟩
 ·refine (t.block b (Nat.lt_of_lt_of_le hb h.turn.size) ?_).trans (h.turn.block b hb hn)
  rintro (⟨i,hi⟩ | h1)
  ·rcases h.old i b hi with h1 | h1
   ·exact hn h1
   ·omega
  ·omega
 ·rcases old i b hb with ⟨j,hj⟩ | h1
  ·exact h.old j b hj
  ·exact .inr h1
theorem aK.putC {P:Nat->Prop} {c:Nat} (hc:P c) (L:List Value) {a w:World} (k:Nat) (h:aK P a w):aK P a (Go.Proofs.YteagpjlgjfaclaaGreatDoor.putC w c k L) :=
 h.trans ((aK.grown (qk L w k (World.grownBy.refl w (some c)))).mono fun q e=>by cases e;exact hc)
theorem aK.of {P:Nat->Prop} {a b:World} (k:aa a b):aK P a b:=⟨k.os,k.tape,k.output,k.size,fun q hq _=>Below.block k q hq⟩
structure aP (w0:World) (lo:Nat) (v0:Sv) (cf:List Lv) (w:World) (ob:Nat) (v:Sv) (vs:List Lv) (s:Sy):Prop where
 var:bB w lo ob v vs s
 goes:Goes w0 lo v0 cf w v vs s
 new:w0.heap.size <= ob
section
variable {w0 w:World} {lo ob:Nat} {v0 v:Sv} {cf vs:List Lv} {s:Sy}
theorem aP.start {w:World} {lo:Nat} {v:Sv} {vs:List Lv} {s:Sy} (h:ay w lo v vs s) (hl:lo <= w.heap.size):aP w lo v vs (w.alloc (.cells (ae s v) 30)) w.heap.size v vs s :=
 ⟨bB.new h hl,(Goes.refl h).behind ((aa.refl _).alloc _),Nat.le_refl _⟩
theorem aP.keeps {w':World} (h:aP w0 lo v0 cf w ob v vs s) (k:aa w w'):aP w0 lo v0 cf w' ob v vs s:=⟨h.var.keeps k,h.goes.behind k,h.new⟩
theorem aP.elsewhere (h:aP w0 lo v0 cf w ob v vs s) {c:Nat} (hc:∀ i,¬ bp v vs i c) (hne:c≠ob) (hn:w0.heap.size <= c) (L:List Value) (k:Nat):aP w0 lo v0 cf (putC w c k L) ob v vs s :=
 ⟨h.var.elsewhere hc hne L k,h.goes.step (ay.aU hc L k h.var.own) (aK.putC (.inr hn) L k (aK.refl _ _)) fun i _ hb => .inl ⟨i,hb⟩,h.new⟩
theorem aP.task (h:aP w0 lo v0 cf w ob v vs s) {rb:Nat} (ha:v.t.a=some ⟨rb,0,none⟩) {k:Nat} (hk:k < s.tasks.length) (x:ag):aP w0 lo v0 cf (putC w rb (k*14) (tc x).toList) ob v vs { s with tasks:=s.tasks.set k x }:=by
 have ho:bp v vs 0 rb:=by show v.t.val.ownBlock=some rb;rw [Rw.val,ha];rfl
 exact ⟨h.var.task ha hk x,h.goes.step (h.var.task ha hk x).own (aK.putC (.inl ⟨0,ho⟩) _ _ (aK.refl _ _)) fun i _ hb => .inl ⟨i,hb⟩,h.new⟩
theorem aP.num (h:aP w0 lo v0 cf w ob v vs s) (now az seq missed:Int) {k:Nat} {x:Value} (e:(ae s v).setIfInBounds k x=ae { s with now:=now,az:=az,seq:=seq,missed:=missed } v) (hk:k < 9):aP w0 lo v0 cf (w.setCell ⟨ob,k,none⟩ x) ob v vs { s with now:=now,az:=az,seq:=seq,missed:=missed }:=by
 have B:=h.var.box.set k (by simpa using hk) x
 rw [e] at B
 have O:ay (w.setCell ⟨ob,k,none⟩ x) lo v vs { s with now:=now,az:=az,seq:=seq,missed:=missed }:=(h.var.own.far h.var.far x).nums now az seq missed
 exact ⟨⟨B,O,h.var.gI,h.var.far⟩,h.goes.step O (aK.putC (.inr h.new) [x] k (aK.refl _ _)) fun i _ hb => .inl ⟨i,hb⟩,h.new⟩
theorem aP.trace {w1 w2:World} (h:aP w0 lo v0 cf w ob v vs s) (k:aa w w1) {x:Rw} {xs:List Tn} (O:Own 104 3 eC w2 lo x.val xs) (g:w1.grownBy w2 v.r.val.ownBlock) (f:∀ q,x.val.ownBlock=some q->v.r.val.ownBlock=some q∨w1.heap.size <= q) :
  aP w0 lo v0 cf (w2.setCell ⟨ob,8,none⟩ x.val) ob { v with r:=x } vs { s with trace:=xs }:=by
 have h1:=h.keeps k
 have hr:∀ q,v.r.val.ownBlock=some q->bp v vs 4 q:=fun q e=>e
 have S2:ay w2 lo { v with r:=x } vs { s with trace:=xs }:=h1.var.own.qA g.size (fun b hb hn=>g.block b hb (fun e=>hn e.symm)) x xs O f
 have Dx:=h1.var.box.lt
 have fC:∀ i,¬ bp { v with r:=x } vs i ob:=by
  intro i hi
  match i,hi with
  | 0,hi=>exact h.var.far 0 hi
  | 1,hi=>exact h.var.far 1 hi
  | 2,hi=>exact h.var.far 2 hi
  | 3,hi=>exact h.var.far 3 hi
  | 4,hi =>
   rcases f ob hi with h2 | h2
   ·exact h.var.far 4 h2
   ·omega
 have B2:ai w2 ob (ae s v):=h1.var.box.grown g (fun q e e2=>h.var.far 4 (by rw [<- e2];exact hr q e))
 have O3:ay (w2.setCell ⟨ob,8,none⟩ x.val) lo { v with r:=x } vs { s with trace:=xs }:=S2.far fC _
 refine ⟨⟨B2.set 8 (by simp) x.val,O3,h.var.gI,fC⟩,h1.goes.step O3 (aK.putC (.inr h.new) [x.val] 8 ((aK.grown g).mono fun q e => .inl ⟨4,e⟩)) fun i b hb => ?_,h.new⟩
 match i,hb with
 | 0,hb=>exact .inl ⟨0,hb⟩
 | 1,hb=>exact .inl ⟨1,hb⟩
 | 2,hb=>exact .inl ⟨2,hb⟩
 | 3,hb=>exact .inl ⟨3,hb⟩
 | 4,hb =>
  rcases f b hb with h2 | h2
  ·exact .inl ⟨4,h2⟩
  ·exact .inr (Nat.le_trans (Nat.le_trans h.goes.turn.size k.size) h2)
theorem aP.ah {w1 w2:World} (h:aP w0 lo v0 cf w ob v vs s) (k:aa w w1) {x:Rw} {xs:List Gh} (O:Own 87 4 dM w2 lo x.val xs) (g:w1.grownBy w2 v.g.val.ownBlock) (f:∀ q,x.val.ownBlock=some q->v.g.val.ownBlock=some q∨w1.heap.size <= q) :
  aP w0 lo v0 cf (w2.setCell ⟨ob,4,none⟩ x.val) ob { v with g:=x } vs { s with ah:=xs }:=by
 have h1:=h.keeps k
 have hr:∀ q,v.g.val.ownBlock=some q->bp v vs 2 q:=fun q e=>e
 have S2:ay w2 lo { v with g:=x } vs { s with ah:=xs }:=h1.var.own.qz g.size (fun b hb hn=>g.block b hb (fun e=>hn e.symm)) x xs O f
 have Dx:=h1.var.box.lt
 have fC:∀ i,¬ bp { v with g:=x } vs i ob:=by
  intro i hi
  match i,hi with
  | 0,hi=>exact h.var.far 0 hi
  | 1,hi=>exact h.var.far 1 hi
  | 2,hi =>
   rcases f ob hi with h2 | h2
   ·exact h.var.far 2 h2
   ·omega
  | 3,hi=>exact h.var.far 3 hi
  | 4,hi=>exact h.var.far 4 hi
 have B2:ai w2 ob (ae s v):=h1.var.box.grown g (fun q e e2=>h.var.far 2 (by rw [<- e2];exact hr q e))
 have O3:ay (w2.setCell ⟨ob,4,none⟩ x.val) lo { v with g:=x } vs { s with ah:=xs }:=S2.far fC _
 refine ⟨⟨B2.set 4 (by simp) x.val,O3,h.var.gI,fC⟩,h1.goes.step O3 (aK.putC (.inr h.new) [x.val] 4 ((aK.grown g).mono fun q e => .inl ⟨2,e⟩)) fun i b hb => ?_,h.new⟩
 match i,hb with
 | 0,hb=>exact .inl ⟨0,hb⟩
 | 1,hb=>exact .inl ⟨1,hb⟩
 | 2,hb =>
  rcases f b hb with h2 | h2
  ·exact .inl ⟨2,h2⟩
  ·exact .inr (Nat.le_trans (Nat.le_trans h.goes.turn.size k.size) h2)
 | 3,hb=>exact .inl ⟨3,hb⟩
 | 4,hb=>exact .inl ⟨4,hb⟩
theorem aP.tasks {w1 w2:World} (h:aP w0 lo v0 cf w ob v vs s) (k:aa w w1) {x:Rw} {xs:List ag} (O:Own 43 14 tc w2 lo x.val xs) (g:w1.grownBy w2 v.t.val.ownBlock) (f:∀ q,x.val.ownBlock=some q->v.t.val.ownBlock=some q∨w1.heap.size <= q) :
  aP w0 lo v0 cf (w2.setCell ⟨ob,2,none⟩ x.val) ob { v with t:=x } vs { s with tasks:=xs }:=by
 have h1:=h.keeps k
 have hr:∀ q,v.t.val.ownBlock=some q->bp v vs 0 q:=fun q e=>e
 have S2:ay w2 lo { v with t:=x } vs { s with tasks:=xs }:=h1.var.own.mj g.size (fun b hb hn=>g.block b hb (fun e=>hn e.symm)) x xs O f
 have Dx:=h1.var.box.lt
 have fC:∀ i,¬ bp { v with t:=x } vs i ob:=by
  intro i hi
  match i,hi with
  | 0,hi =>
   rcases f ob hi with h2 | h2
   ·exact h.var.far 0 h2
   ·omega
  | 1,hi=>exact h.var.far 1 hi
  | 2,hi=>exact h.var.far 2 hi
  | 3,hi=>exact h.var.far 3 hi
  | 4,hi=>exact h.var.far 4 hi
 have B2:ai w2 ob (ae s v):=h1.var.box.grown g (fun q e e2=>h.var.far 0 (by rw [<- e2];exact hr q e))
 have O3:ay (w2.setCell ⟨ob,2,none⟩ x.val) lo { v with t:=x } vs { s with tasks:=xs }:=S2.far fC _
 refine ⟨⟨B2.set 2 (by simp) x.val,O3,h.var.gI,fC⟩,h1.goes.step O3 (aK.putC (.inr h.new) [x.val] 2 ((aK.grown g).mono fun q e => .inl ⟨0,e⟩)) fun i b hb => ?_,h.new⟩
 match i,hb with
 | 0,hb =>
  rcases f b hb with h2 | h2
  ·exact .inl ⟨0,h2⟩
  ·exact .inr (Nat.le_trans (Nat.le_trans h.goes.turn.size k.size) h2)
 | 1,hb=>exact .inl ⟨1,hb⟩
 | 2,hb=>exact .inl ⟨2,hb⟩
 | 3,hb=>exact .inl ⟨3,hb⟩
 | 4,hb=>exact .inl ⟨4,hb⟩
theorem aP.floor (h:aP w0 lo v0 cf w ob v vs s) {fb:Nat} (ha:v.f.a=some ⟨fb,0,none⟩) {k:Nat} {y:Int} (hk:s.ax[k]?=some y) (x:Int):aP w0 lo v0 cf (w.setCell ⟨fb,k,none⟩ (.int .i64 x)) ob v vs { s with ax:=s.ax.set k x }:=by
 have ho:bp v vs 3 fb:=by show v.f.val.ownBlock=some fb;rw [Rw.val,ha];rfl
 have hne:fb≠ob:=fun e=>h.var.far 3 (by rw [<- e];exact ho)
 have hn:=(h.var.own.f.row fW).1
 have hv:v.f.val = .slice (some ⟨fb,0,none⟩) s.ax.length v.f.cap:=by rw [Rw.val,ha,hn]
 have O:=h.var.own.f
 rw [hv] at O
 have O2:aS (w.setCell ⟨fb,k,none⟩ (.int .i64 x)) lo v.f.val (s.ax.set k x):=by
  rw [hv]
  have:=O.setAt fW (i:=k) (j:=0) (x:=y) (y:=x) (u := .int .i64 x) hk (by omega) rfl
  simpa using this
 have G:w.grownBy (w.setCell ⟨fb,k,none⟩ (.int .i64 x)) (some fb):=qk [.int .i64 x] w k (World.grownBy.refl w (some fb))
 have OS:ay (w.setCell ⟨fb,k,none⟩ (.int .i64 x)) lo v vs { s with ax:=s.ax.set k x }:=h.var.own.qC G.size (fun b hb hnn=>G.block b hb (fun e=>hnn (by cases e;exact ho))) v.f _ O2 (fun b e => .inl e)
 exact ⟨⟨h.var.box.far hne _,OS,h.var.gI,h.var.far⟩,h.goes.step OS ((aK.grown G).mono fun q e=>by cases e;exact .inl ⟨3,ho⟩) fun i _ hb => .inl ⟨i,hb⟩,h.new⟩
theorem aP.put {w':World} {v':Sv} {vs':List Lv} {s':Sy} (h:aP w0 lo v0 cf w ob v vs s) (g:Goes w lo v vs w' v' vs' s'):aP w0 lo v0 cf (putC w' ob 0 (ae s' v').toList) ob v' vs' s':=by
 have V:=h.var.put g
 refine ⟨V,(h.goes.trans g).step V.own (aK.putC (.inr h.new) _ 0 (aK.refl _ _)) fun i _ hb => .inl ⟨i,hb⟩,h.new⟩
theorem aP.eP {z:World} {s0:Sy} (h:aP w0 lo v0 cf w ob v vs s) (h0:ay w0 lo v0 cf s0) (k:aa z w0) (hl:z.heap.size <= lo):aa z w:=h.goes.keeps h0 k hl
theorem ay.iH {w:World} {lo:Nat} {v:Sv} {vs:List Lv} {s:Sy} (h:ay w lo v vs s) {k:Nat} (hk:k < s.ax.length):∃ fb,v.f.a=some ⟨fb,0,none⟩:=by
 obtain ⟨b,cap,e⟩:=h.f.blk (by omega)
 simp only [Rw.val,Value.slice.injEq] at e
 exact ⟨b,e.1⟩
theorem ay.fN {w:World} {lo:Nat} {v:Sv} {vs:List Lv} {s:Sy} (h:ay w lo v vs s) {fb:Nat} (ha:v.f.a=some ⟨fb,0,none⟩) {k:Nat} {x:Int} (hx:s.ax[k]?=some x):w.cell? ⟨fb,k,none⟩=some (.int .i64 x) /\ (∀ j,w.frozen? ⟨fb,j,none⟩=false) /\ fb < w.heap.size /\ lo <= fb:=by
 have hn:=(h.f.row fW).1
 have hv:v.f.val = .slice (some ⟨fb,0,none⟩) s.ax.length v.f.cap:=by rw [Rw.val,ha,hn]
 have O:=h.f
 rw [hv] at O
 have h1:=O.cellAt fW (i:=k) (k:=0) hx (by omega)
 have h2:=O.cD fb rfl
 exact ⟨by simpa using h1,fun j=>O.frozenAt j,h2.2,h2.1⟩
end
end Go.Proofs.YteagpjlgjfaclaaGreatDoor
