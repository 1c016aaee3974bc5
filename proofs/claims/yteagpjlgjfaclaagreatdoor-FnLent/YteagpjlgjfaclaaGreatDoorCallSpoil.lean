/-
  A drawn call that is turned in one place now and then.
  Fixed priorities, the program's side: who is before whom.
-/
import Derived.Test.YteagpjlgjfaclaaGreatDoorCallDraw1
import Derived.Test.YteagpjlgjfaclaaGreatDoorFixHeap2
import Derived.Laws.StructEq
import Derived.Deep.RegionHeld3
namespace Go.Proofs.YteagpjlgjfaclaaGreatDoor
set_option maxRecDepth 100000
open Go.RowKit
def Ge (g:Nat) (w:World) (e:Ending) (w':World):Prop:=∃ c:Cl,e = .returned (ck c) /\ bj w' g /\ ab g w w'
theorem pI {g rb:Nat} {w wn:World} (c:Cl) (R:ai wn rb dX) (hg:g < w.heap.size) (hr:w.heap.size <= rb) (hc:bj wn g) (k:ab g w wn) :
  ai (putC wn rb 0 (cc c).toList) rb (cc c) /\ bj (putC wn rb 0 (cc c).toList) g /\ ab g w (putC wn rb 0 (cc c).toList) :=
 gK R hg hr k hc (ab.refl g wn) c
set_option maxHeartbeats 8000000 in
theorem zn {w:World} {g:Nat} (hc:bj w g) (c:Cl) :
  Calls Tryz.prog 23 #[.pointer (some ⟨g,0,none⟩),ck c] w (Ge g w):=by
 have hgl:=hc.lt
 have kZ:aa w ((w.alloc (.cells (cc c) 32)).alloc (.cells dX 32)):=((aa.refl w).alloc _).alloc _
 have B0:Hid (ai ((w.alloc (.cells (cc c) 32)).alloc (.cells dX 32)) w.heap.size (cc c)):=(ai.new _ _ _).alloc _
 have R0:Hid (ai ((w.alloc (.cells (cc c) 32)).alloc (.cells dX 32)) (w.heap.size+1) dX):=by
  have:=ai.new (w.alloc (.cells (cc c) 32)) dX 32
  show ai _ _ _
  simpa using this
 have HC:=hc.keeps kZ
 have KZ:Hid (ab g w ((w.alloc (.cells (cc c) 32)).alloc (.cells dX 32))) := .of kZ
 clear hc kZ
 go_enter Tryz.func23,Tryz.ntmps23
 go_upto_region 1 with fail
 change Code.wp _ _ _ _ ((w.alloc (.cells (cc c) 32)).alloc (.cells dX 32))
 generalize (w.alloc (.cells (cc c) 32)).alloc (.cells dX 32)=Z at *
 go_upto_region 2 with (go_at_call 49;refine (cF g _ _ HC (by omega) (by omega)).mono ?_;rintro e w1 ⟨m,rfl,m0,m1,hc1,k1⟩)
 have fj:w.heap.size≠g:=by omega
 have hrb:w.heap.size+1≠g:=by omega
 have B1:Hid (ai w1 w.heap.size (cc c)):=B0.out.but k1 fj
 have R1:Hid (ai w1 (w.heap.size+1) dX):=R0.out.but k1 hrb
 have K1:Hid (ab g w w1):=KZ.out.trans k1
 clear B0 R0 KZ k1 HC
 by_cases h0:m=0
 ·subst h0
  go_upto_region 12 with (go_at_call 49;refine (cF g _ _ hc1 (by omega) (by omega)).mono ?_;rintro e w2 ⟨x,rfl,x0,x1,hc2,k2⟩;obtain ⟨_,z1,z2⟩:=B1.out.but k2 fj)
  change Code.wp _ _ _ _ (w2.setCell ⟨w.heap.size,0,none⟩ (.int .i64 x))
  have BY:Hid (ai (w2.setCell ⟨w.heap.size,0,none⟩ (.int .i64 x)) w.heap.size (cc ⟨x,c.no,c.cpu,c.a,c.b⟩)):=(B1.out.but k2 fj).set 0 (by show 0 < 5;omega) _
  have RY:Hid (ai (w2.setCell ⟨w.heap.size,0,none⟩ (.int .i64 x)) (w.heap.size+1) dX):=(R1.out.but k2 hrb).far (by omega) _
  have CY:=hc2.aH (b:=w.heap.size) (by omega) 0 (.int .i64 x)
  have KY:Hid (ab g w (w2.setCell ⟨w.heap.size,0,none⟩ (.int .i64 x))):=(K1.out.trans k2).aH (p:=⟨w.heap.size,0,none⟩) (Nat.le_refl _) _
  clear z1 z2 B1 R1 K1 k2 hc2
  generalize (w2.setCell ⟨w.heap.size,0,none⟩ (.int .i64 x))=Y at *
  obtain ⟨_,y1,y2⟩:=BY.out
  obtain ⟨_,y3,y4⟩:=RY.out
  dsimp only [cc] at y1
  dsimp only [dX] at y3
  obtain ⟨D,CQ,KQ⟩:=pI ⟨x,c.no,c.cpu,c.a,c.b⟩ RY.out hgl (by omega) CY KY.out
  go_wp2
  change bodyPost _ _ _ _ _ (putC Y (w.heap.size+1) 0 (cc ⟨x,c.no,c.cpu,c.a,c.b⟩).toList)
  generalize putC Y (w.heap.size+1) 0 (cc ⟨x,c.no,c.cpu,c.a,c.b⟩).toList=Q at D CQ KQ ⊢
  exact bodyPost_ret (v:=ck ⟨x,c.no,c.cpu,c.a,c.b⟩) (by simp [results,Tryz.results23,go_sem,D.cells]) rfl ⟨⟨x,c.no,c.cpu,c.a,c.b⟩,rfl,CQ,KQ⟩
 by_cases h1:m=1
 ·subst h1
  go_upto_region 12 with (go_at_call 50;refine (jb (fun _=>True) g [0,-1,1000,1001] _ _ _ _ _ w1 rfl hc1 rfl (by decide) (by decide) rfl (fun _ _=>trivial)).mono ?_;rintro e w2 ⟨x,rfl,-,hc2,k2⟩;obtain ⟨_,z1,z2⟩:=B1.out.but k2 fj)
  change Code.wp _ _ _ _ (w2.setCell ⟨w.heap.size,1,none⟩ (.int .i64 x))
  have BY:Hid (ai (w2.setCell ⟨w.heap.size,1,none⟩ (.int .i64 x)) w.heap.size (cc ⟨c.kind,x,c.cpu,c.a,c.b⟩)):=(B1.out.but k2 fj).set 1 (by show 1 < 5;omega) _
  have RY:Hid (ai (w2.setCell ⟨w.heap.size,1,none⟩ (.int .i64 x)) (w.heap.size+1) dX):=(R1.out.but k2 hrb).far (by omega) _
  have CY:=hc2.aH (b:=w.heap.size) (by omega) 1 (.int .i64 x)
  have KY:Hid (ab g w (w2.setCell ⟨w.heap.size,1,none⟩ (.int .i64 x))):=(K1.out.trans k2).aH (p:=⟨w.heap.size,1,none⟩) (Nat.le_refl _) _
  clear z1 z2 B1 R1 K1 k2 hc2
  generalize (w2.setCell ⟨w.heap.size,1,none⟩ (.int .i64 x))=Y at *
  obtain ⟨_,y1,y2⟩:=BY.out
  obtain ⟨_,y3,y4⟩:=RY.out
  dsimp only [cc] at y1
  dsimp only [dX] at y3
  obtain ⟨D,CQ,KQ⟩:=pI ⟨c.kind,x,c.cpu,c.a,c.b⟩ RY.out hgl (by omega) CY KY.out
  go_wp2
  change bodyPost _ _ _ _ _ (putC Y (w.heap.size+1) 0 (cc ⟨c.kind,x,c.cpu,c.a,c.b⟩).toList)
  generalize putC Y (w.heap.size+1) 0 (cc ⟨c.kind,x,c.cpu,c.a,c.b⟩).toList=Q at D CQ KQ ⊢
  exact bodyPost_ret (v:=ck ⟨c.kind,x,c.cpu,c.a,c.b⟩) (by simp [results,Tryz.results23,go_sem,D.cells]) rfl ⟨⟨c.kind,x,c.cpu,c.a,c.b⟩,rfl,CQ,KQ⟩
 by_cases h2:m=2
 ·subst h2
  go_upto_region 12 with (go_at_call 50;refine (jb (fun _=>True) g [-1,3,4,9223372036854775807] _ _ _ _ _ w1 rfl hc1 rfl (by decide) (by decide) rfl (fun _ _=>trivial)).mono ?_;rintro e w2 ⟨x,rfl,-,hc2,k2⟩;obtain ⟨_,z1,z2⟩:=B1.out.but k2 fj)
  change Code.wp _ _ _ _ (w2.setCell ⟨w.heap.size,2,none⟩ (.int .i64 x))
  have BY:Hid (ai (w2.setCell ⟨w.heap.size,2,none⟩ (.int .i64 x)) w.heap.size (cc ⟨c.kind,c.no,x,c.a,c.b⟩)):=(B1.out.but k2 fj).set 2 (by show 2 < 5;omega) _
  have RY:Hid (ai (w2.setCell ⟨w.heap.size,2,none⟩ (.int .i64 x)) (w.heap.size+1) dX):=(R1.out.but k2 hrb).far (by omega) _
  have CY:=hc2.aH (b:=w.heap.size) (by omega) 2 (.int .i64 x)
  have KY:Hid (ab g w (w2.setCell ⟨w.heap.size,2,none⟩ (.int .i64 x))):=(K1.out.trans k2).aH (p:=⟨w.heap.size,2,none⟩) (Nat.le_refl _) _
  clear z1 z2 B1 R1 K1 k2 hc2
  generalize (w2.setCell ⟨w.heap.size,2,none⟩ (.int .i64 x))=Y at *
  obtain ⟨_,y1,y2⟩:=BY.out
  obtain ⟨_,y3,y4⟩:=RY.out
  dsimp only [cc] at y1
  dsimp only [dX] at y3
  obtain ⟨D,CQ,KQ⟩:=pI ⟨c.kind,c.no,x,c.a,c.b⟩ RY.out hgl (by omega) CY KY.out
  go_wp2
  change bodyPost _ _ _ _ _ (putC Y (w.heap.size+1) 0 (cc ⟨c.kind,c.no,x,c.a,c.b⟩).toList)
  generalize putC Y (w.heap.size+1) 0 (cc ⟨c.kind,c.no,x,c.a,c.b⟩).toList=Q at D CQ KQ ⊢
  exact bodyPost_ret (v:=ck ⟨c.kind,c.no,x,c.a,c.b⟩) (by simp [results,Tryz.results23,go_sem,D.cells]) rfl ⟨⟨c.kind,c.no,x,c.a,c.b⟩,rfl,CQ,KQ⟩
 by_cases h3:m=3
 ·subst h3
  go_upto_region 12 with (go_at_call 50;refine (jb (fun _=>True) g [-5,0,5,41,51,9223372036854775807] _ _ _ _ _ w1 rfl hc1 rfl (by decide) (by decide) rfl (fun _ _=>trivial)).mono ?_;rintro e w2 ⟨x,rfl,-,hc2,k2⟩;obtain ⟨_,z1,z2⟩:=B1.out.but k2 fj)
  change Code.wp _ _ _ _ (w2.setCell ⟨w.heap.size,3,none⟩ (.int .i64 x))
  have BY:Hid (ai (w2.setCell ⟨w.heap.size,3,none⟩ (.int .i64 x)) w.heap.size (cc ⟨c.kind,c.no,c.cpu,x,c.b⟩)):=(B1.out.but k2 fj).set 3 (by show 3 < 5;omega) _
  have RY:Hid (ai (w2.setCell ⟨w.heap.size,3,none⟩ (.int .i64 x)) (w.heap.size+1) dX):=(R1.out.but k2 hrb).far (by omega) _
  have CY:=hc2.aH (b:=w.heap.size) (by omega) 3 (.int .i64 x)
  have KY:Hid (ab g w (w2.setCell ⟨w.heap.size,3,none⟩ (.int .i64 x))):=(K1.out.trans k2).aH (p:=⟨w.heap.size,3,none⟩) (Nat.le_refl _) _
  clear z1 z2 B1 R1 K1 k2 hc2
  generalize (w2.setCell ⟨w.heap.size,3,none⟩ (.int .i64 x))=Y at *
  obtain ⟨_,y1,y2⟩:=BY.out
  obtain ⟨_,y3,y4⟩:=RY.out
  dsimp only [cc] at y1
  dsimp only [dX] at y3
  obtain ⟨D,CQ,KQ⟩:=pI ⟨c.kind,c.no,c.cpu,x,c.b⟩ RY.out hgl (by omega) CY KY.out
  go_wp2
  change bodyPost _ _ _ _ _ (putC Y (w.heap.size+1) 0 (cc ⟨c.kind,c.no,c.cpu,x,c.b⟩).toList)
  generalize putC Y (w.heap.size+1) 0 (cc ⟨c.kind,c.no,c.cpu,x,c.b⟩).toList=Q at D CQ KQ ⊢
  exact bodyPost_ret (v:=ck ⟨c.kind,c.no,c.cpu,x,c.b⟩) (by simp [results,Tryz.results23,go_sem,D.cells]) rfl ⟨⟨c.kind,c.no,c.cpu,x,c.b⟩,rfl,CQ,KQ⟩
 by_cases h4:m=4
 ·subst h4
  go_upto_region 12 with (go_at_call 50;refine (jb (fun _=>True) g [-1,0,11,41] _ _ _ _ _ w1 rfl hc1 rfl (by decide) (by decide) rfl (fun _ _=>trivial)).mono ?_;rintro e w2 ⟨x,rfl,-,hc2,k2⟩;obtain ⟨_,z1,z2⟩:=B1.out.but k2 fj)
  change Code.wp _ _ _ _ (w2.setCell ⟨w.heap.size,4,none⟩ (.int .i64 x))
  have BY:Hid (ai (w2.setCell ⟨w.heap.size,4,none⟩ (.int .i64 x)) w.heap.size (cc ⟨c.kind,c.no,c.cpu,c.a,x⟩)):=(B1.out.but k2 fj).set 4 (by show 4 < 5;omega) _
  have RY:Hid (ai (w2.setCell ⟨w.heap.size,4,none⟩ (.int .i64 x)) (w.heap.size+1) dX):=(R1.out.but k2 hrb).far (by omega) _
  have CY:=hc2.aH (b:=w.heap.size) (by omega) 4 (.int .i64 x)
  have KY:Hid (ab g w (w2.setCell ⟨w.heap.size,4,none⟩ (.int .i64 x))):=(K1.out.trans k2).aH (p:=⟨w.heap.size,4,none⟩) (Nat.le_refl _) _
  clear z1 z2 B1 R1 K1 k2 hc2
  generalize (w2.setCell ⟨w.heap.size,4,none⟩ (.int .i64 x))=Y at *
  obtain ⟨_,y1,y2⟩:=BY.out
  obtain ⟨_,y3,y4⟩:=RY.out
  dsimp only [cc] at y1
  dsimp only [dX] at y3
  obtain ⟨D,CQ,KQ⟩:=pI ⟨c.kind,c.no,c.cpu,c.a,x⟩ RY.out hgl (by omega) CY KY.out
  go_wp2
  change bodyPost _ _ _ _ _ (putC Y (w.heap.size+1) 0 (cc ⟨c.kind,c.no,c.cpu,c.a,x⟩).toList)
  generalize putC Y (w.heap.size+1) 0 (cc ⟨c.kind,c.no,c.cpu,c.a,x⟩).toList=Q at D CQ KQ ⊢
  exact bodyPost_ret (v:=ck ⟨c.kind,c.no,c.cpu,c.a,x⟩) (by simp [results,Tryz.results23,go_sem,D.cells]) rfl ⟨⟨c.kind,c.no,c.cpu,c.a,x⟩,rfl,CQ,KQ⟩
 have e0:(m==0)=false:=by simp;omega
 have e1:(m==1)=false:=by simp;omega
 have e2:(m==2)=false:=by simp;omega
 have e3:(m==3)=false:=by simp;omega
 have e4:(m==4)=false:=by simp;omega
 go_upto_region 12 with fail
 have BY:=B1
 have RY:=R1
 have CY:=hc1
 have KY:=K1
 generalize w1=Y at *
 clear B1 R1 K1 hc1
 obtain ⟨_,y1,y2⟩:=BY.out
 obtain ⟨_,y3,y4⟩:=RY.out
 dsimp only [cc] at y1
 dsimp only [dX] at y3
 obtain ⟨D,CQ,KQ⟩:=pI c RY.out hgl (by omega) CY KY.out
 go_wp2
 change bodyPost _ _ _ _ _ (putC Y (w.heap.size+1) 0 (cc c).toList)
 generalize putC Y (w.heap.size+1) 0 (cc c).toList=Q at D CQ KQ ⊢
 exact bodyPost_ret (v:=ck c) (by simp [results,Tryz.results23,go_sem,D.cells]) rfl ⟨c,rfl,CQ,KQ⟩
section
attribute [local go_sem] aa.refl aa.alloc aa.drew aa.drewN
def km (a b:ag):Bool:=a.no==b.no&&(a.cls==b.cls&&(a.cpu==b.cpu&&(a.st==b.st&&(a.idle==b.idle&&(a.prio==b.prio&&(a.round==b.round&&(a.left==b.left&&(a.seq==b.seq))))))))
theorem Gf (d:Nat) (w:World) (a b:ag):(Op.equalIn (d+4) 171 (.agg (aT a)) (.agg (aT b))).run Tryz.prog w = .ok (km a b) w:=by
 rw [run_equalIn_agg _ _ _ _ _ (by kernel_rfl) (by kernel_rfl)]
 go_simp
 unfold km
 by_cases h0:a.no=b.no
 case neg=>simp only [if_neg h0,beq_eq_false_iff_ne.2 h0,Bool.false_and]
 simp only [if_pos h0,beq_iff_eq.2 h0,Bool.true_and]
 by_cases h1:a.cls=b.cls
 case neg=>simp only [if_neg h1,beq_eq_false_iff_ne.2 h1,Bool.false_and]
 simp only [if_pos h1,beq_iff_eq.2 h1,Bool.true_and]
 by_cases h2:a.cpu=b.cpu
 case neg=>simp only [if_neg h2,beq_eq_false_iff_ne.2 h2,Bool.false_and]
 simp only [if_pos h2,beq_iff_eq.2 h2,Bool.true_and]
 by_cases h3:a.st=b.st
 case neg=>simp only [if_neg h3,beq_eq_false_iff_ne.2 h3,Bool.false_and]
 simp only [if_pos h3,beq_iff_eq.2 h3,Bool.true_and]
 by_cases h4:a.idle=b.idle
 case neg=>simp only [if_neg h4,beq_eq_false_iff_ne.2 h4,Bool.false_and]
 simp only [if_pos h4,beq_iff_eq.2 h4,Bool.true_and]
 by_cases h5:a.prio=b.prio
 case neg=>simp only [if_neg h5,beq_eq_false_iff_ne.2 h5,Bool.false_and]
 simp only [if_pos h5,beq_iff_eq.2 h5,Bool.true_and]
 by_cases h6:a.round=b.round
 case neg=>simp only [if_neg h6,beq_eq_false_iff_ne.2 h6,Bool.false_and]
 simp only [if_pos h6,beq_iff_eq.2 h6,Bool.true_and]
 by_cases h7:a.left=b.left
 case neg=>simp only [if_neg h7,beq_eq_false_iff_ne.2 h7,Bool.false_and]
 simp only [if_pos h7,beq_iff_eq.2 h7,Bool.true_and]
 by_cases h8:a.seq=b.seq
 ·simp only [if_pos h8,beq_iff_eq.2 h8]
 ·simp only [if_neg h8,beq_eq_false_iff_ne.2 h8]
theorem Gg (w:World) (a b:ag):(binOp .neq 171 (.agg (aT a)) (.agg (aT b))).run Tryz.prog w = .ok (.bool (!km a b)) w:=by
 rw [run_neq_struct,Gf 9996];rfl
theorem Gi (x y:ag):(!km (gQ x y) y)=fg x y:=by
 cases h:fg x y
 ·simp [gQ,h,km]
 ·simp only [gQ,h,if_true]
  rw [Bool.not_eq_true',Bool.eq_false_iff]
  intro e
  simp only [km,Bool.and_eq_true,beq_iff_eq] at e
  simp only [fg,Bool.or_eq_true,Bool.and_eq_true,decide_eq_true_eq,beq_iff_eq] at h
  omega
theorem Gj {x y:ag} (h:x.prio≠y.prio):(!km x y)=true:=by
 rw [Bool.not_eq_true',Bool.eq_false_iff]
 intro e
 simp only [km,Bool.and_eq_true,beq_iff_eq] at e
 exact h e.2.2.2.2.2.1
theorem Gk (x:ag):(!km x x)=false:=by simp [km]
attribute [local go_sem high] Gg
abbrev kn:Array Value:=#[.slice none 0 0,.slice none 0 0,.slice none 0 0,.slice none 0 0,.slice none 0 0,.slice none 0 0,.slice none 0 0,.slice none 0 0,.slice none 0 0,.slice none 0 0,.slice none 0 0,.slice none 0 0,.slice none 0 0,.slice none 0 0,.slice none 0 0,.slice none 0 0,.slice none 0 0,.slice none 0 0,.slice none 0 0,.slice none 0 0]
theorem zo {k:Nat} (h:k < 20):kn[k]?=some (.slice none 0 0):=by
 have:kn=Array.replicate 20 (.slice none 0 0):=rfl
 rw [this,Array.getElem?_replicate,if_pos h]
theorem tg {o k:Nat} (v:Value) (h:k < 20) (hk:k≠o):(kn.setIfInBounds o v)[k]?=some (.slice none 0 0):=by
 rw [Array.getElem?_setIfInBounds_ne (Ne.symm hk)];exact zo h
theorem zp {o:Nat} (v:Value) (h:o < 20):(kn.setIfInBounds o v)[o]?=some v:=Array.getElem?_setIfInBounds_self_of_lt (by simpa using h)
theorem zq {w:World} {base:Nat} {v:Value} {x:ag} (h:Own 171 9 aT w base v [x]):∃ c cap,v = .slice (some ⟨c,0,none⟩) 1 cap /\ ∀ k,k < 9->w.cell? ⟨c,k,none⟩=(aT x)[k]?:=by
 obtain ⟨c,cap,rfl,-,-,-⟩:=h.some mY (by simp)
 obtain ⟨a,cp,e,l,-,-⟩:=h.slice mY
 simp only [Value.slice.injEq] at e
 obtain ⟨rfl,-,rfl⟩:=e
 rcases l with l | ⟨b',off,e',hb',l⟩
 ·simp at l
 ·simp only [Option.some.injEq,Addr.mk.injEq] at e'
  obtain ⟨rfl,rfl,-⟩:=e'
  exact ⟨c,cap,rfl,fun k hk=>by simpa using l 0 x rfl k hk⟩
structure jk (W:World) (L:Nat) (z:ag) (w:World):Prop where
 keeps:aa W w
 rows:∃ o c n cap,o < 20 /\ 0 < n /\ w.cell? ⟨L,o,none⟩=some (.slice (some ⟨c,0,none⟩) n cap) /\ (∀ k,o < k->k < 20->w.cell? ⟨L,k,none⟩=some (.slice none 0 0)) /\ ∀ k,k < 9->w.cell? ⟨c,k,none⟩=(aT z)[k]?
def One (W:World) (L o:Nat) (y:ag) (w:World):Prop:=∃ v s,ai w L (kn.setIfInBounds o v) /\ Own 171 9 aT w s v [y] /\ aa W w /\ L < s /\ s <= w.heap.size
theorem One.go {W:World} {L o:Nat} {y:ag} {w w':World} (h:One W L o y w) (k:aa w w'):One W L o y w':=by
 obtain ⟨v,s,B,O,K,h1,h2⟩:=h
 exact ⟨v,s,B.keeps k,O.keeps k,K.trans k,h1,Nat.le_trans h2 k.size⟩
theorem Gl (b:ag) (L ob:Nat) (W w:World) (hb:b.prio=(ob:Int)+1) (ir:ob < 20) (B:ai w L kn) (K:aa W w) (hL:W.heap.size <= L) :
  Calls Tryz.prog 324 #[.pointer (some ⟨L,0,none⟩),.agg (aT b)] w fun e w'=>e = .returned (.tuple #[]) /\ One W L ob b w':=by
 refine zt b L ob w hb ir fun w1 h=>(yQ b L ob kn w1 (B.keeps h) (zo ir)).mono ?_
 rintro e w' ⟨rfl,v,B1,O,k⟩
 exact ⟨rfl,v,w1.heap.size,B1,O,k.keeps (K.trans h) hL,(B.keeps h).lt,k.size⟩
def gR (a b:ag):ag:=if a.prio != b.prio then (if b.prio < a.prio then a else b) else gQ a b
theorem Gm (a b:ag) (L oa ob:Nat) (W w:World) (ha:a.prio=(oa:Int)+1) (jl:oa < 20) (hb:b.prio=(ob:Int)+1) (ir:ob < 20) (H:One W L ob b w) (hL:W.heap.size <= L) :
  Calls Tryz.prog 324 #[.pointer (some ⟨L,0,none⟩),.agg (aT a)] w fun e w'=>e = .returned (.tuple #[]) /\ jk W L (gR a b) w':=by
 refine zt a L oa w ha jl fun w1 h => ?_
 obtain ⟨v,s,B,O,K,h1,h2⟩:=H.go h
 by_cases e:oa=ob
 ·subst e
  refine (Gn a b L oa _ v s W w1 B (zp v ir) O K hL h1 h2).mono ?_
  rintro e w' ⟨rfl,c,cap,q1,q2,q3,k⟩
  have ht:gR a b=gQ a b:=by unfold gR;rw [if_neg (by simp;omega)]
  rw [ht]
  exact ⟨rfl,k,oa,c,2,cap,jl,by omega,q1,fun j j1 j2=>(q2 j (by omega)).trans (tg v j2 (by omega)),q3⟩
 ·refine (yQ a L oa _ w1 B (tg v jl e)).mono ?_
  rintro e' w' ⟨rfl,u,B1,O1,k⟩
  have O2:=O.cE k h1
  obtain ⟨c1,qR,rfl,z1⟩:=zq O1
  obtain ⟨c2,cap2,rfl,z2⟩:=zq O2
  have hsz:oa < (kn.setIfInBounds ob (.slice (some ⟨c2,0,none⟩) 1 cap2)).size:=by simpa using jl
  have qa:w'.cell? ⟨L,oa,none⟩=some (.slice (some ⟨c1,0,none⟩) 1 qR):=(B1.cells oa).trans (Array.getElem?_setIfInBounds_self_of_lt hsz)
  have qo:∀ j,j≠oa->w'.cell? ⟨L,j,none⟩=(kn.setIfInBounds ob (.slice (some ⟨c2,0,none⟩) 1 cap2))[j]?:=fun j hj=>(B1.cells j).trans (Array.getElem?_setIfInBounds_ne (Ne.symm hj))
  refine ⟨rfl,k.keeps K hL,?_⟩
  by_cases hlt:ob < oa
  ·have ht:gR a b=a:=by unfold gR;rw [if_pos (by simp;omega),if_pos (by omega)]
   rw [ht]
   exact ⟨oa,c1,1,qR,jl,by omega,qa,fun j j1 j2=>(qo j (by omega)).trans (tg _ j2 (by omega)),z1⟩
  ·have ht:gR a b=b:=by unfold gR;rw [if_pos (by simp;omega),if_neg (by omega)]
   rw [ht]
   exact ⟨ob,c2,1,cap2,ir,by omega,(qo ob (Ne.symm e)).trans (zp _ ir),fun j j1 j2=>(qo j (by omega)).trans (tg _ j2 (by omega)),z2⟩
theorem Gp (a b:ag):(!km (gR a b) b)=(if a.prio != b.prio then decide (b.prio < a.prio) else fg a b):=by
 unfold gR
 by_cases h:a.prio=b.prio
 ·rw [if_neg (by simpa using h),if_neg (by simpa using h)]
  exact Gi a b
 ·have hne:(a.prio != b.prio)=true:=by simpa using h
  simp only [hne,if_true]
  by_cases h2:b.prio < a.prio
  ·rw [if_pos h2,Gj h];simp [h2]
  ·rw [if_neg h2,Gk];simp [h2]
theorem Gq {W W6 w:World} {L:Nat} {z:ag} (T:jk W L z W6) (K:aa W6 w) :
  Calls Tryz.prog 325 #[.pointer (some ⟨L,0,none⟩)] w fun e w'=>e = .returned (.agg (aT z)) /\ aa w w':=by
 obtain ⟨o,c,n,cap,h1,h2,h3,h4,h5⟩:=T.rows
 have lL:=World.block_lt_of_cell? W6 _ h3
 have lc:=World.block_lt_of_cell? W6 _ (h5 0 (by omega))
 exact Gr L o c n cap z w h1 h2 ((K.cells _ _ lL).trans h3) (fun k k1 k2=>(K.cells _ _ lL).trans (h4 k k1 k2)) (fun k hk=>(K.cells _ _ lc).trans (h5 k hk))
set_option maxHeartbeats 4000000 in
theorem vb:Gt:=by
 intro a b w
 go_enter Tryz.func323,Tryz.ntmps323
 go_wp2_with fail
 have kW:aa w ((w.alloc (.cells (tc a) 43)).alloc (.cells (tc b) 43)):=((aa.refl w).alloc _).alloc _
 have r1:∀ w',aa ((w.alloc (.cells (tc a) 43)).alloc (.cells (tc b) 43)) w'->∀ k,w'.cell? ⟨w.heap.size,k,none⟩=(tc a)[k]?:=fun w' h=>(((ai.new w (tc a) 43).alloc _).keeps h).cells
 have r2:∀ w',aa ((w.alloc (.cells (tc a) 43)).alloc (.cells (tc b) 43)) w'->∀ k,w'.cell? ⟨w.heap.size+1,k,none⟩=(tc b)[k]?:=fun w' h=>by
  have:=(ai.new (w.alloc (.cells (tc a) 43)) (tc b) 43).keeps h
  simp only [World.size_alloc] at this
  exact this.cells
 generalize (w.alloc (.cells (tc a) 43)).alloc (.cells (tc b) 43)=W at *
 refine (yy a _).mono ?_
 rintro e w1 ⟨rfl,k1⟩
 cases ha:dD a
 ·have Hr:Hid (fE a b=false):=by show _=_;simp [fE,ha]
  go_wp2
  go_ret
  exact ⟨by rw [Hr.out];rfl,kW.trans k1⟩
 ·go_wp2_with fail
  refine (yy b _).mono ?_
  rintro e w2 ⟨rfl,k2⟩
  have K2:=k1.trans k2
  cases hb:dD b
  ·have Hr:Hid (fE a b=false):=by show _=_;simp [fE,hb]
   go_wp2
   go_ret
   exact ⟨by rw [Hr.out];rfl,kW.trans K2⟩
  ·obtain ⟨oa,Ha,jl⟩:∃ oa:Nat,Hid (a.prio=(oa:Int)+1) /\ Hid (oa < 20):=by
    have:=((vc a).1 ha).prio
    exact ⟨(a.prio - 1).toNat,by show _=_;omega,by show _ < _;omega⟩
   obtain ⟨ob,Hb,ir⟩:∃ ob:Nat,Hid (b.prio=(ob:Int)+1) /\ Hid (ob < 20):=by
    have:=((vc b).1 hb).prio
    exact ⟨(b.prio - 1).toNat,by show _=_;omega,by show _ < _;omega⟩
   have Hr:Hid (fE a b=(if a.prio != b.prio then decide (b.prio < a.prio) else fg a b)):=by
    show _=_
    simp only [fE,fg,ha,hb,Bool.true_and]
    congr 1
    cases h:(a.seq != b.seq)
    ·have:a.seq=b.seq:=by simpa using h
     simp [this]
    ·have h2:(a.seq==b.seq)=false:=by simpa [bne] using h
     simp [h2]
   clear k1 k2
   go_wp2_with fail
   have BL:=ai.new w2 kn 317
   have K3:aa W (w2.alloc (.cells kn 317)):=K2.alloc _
   have hL:=K2.size
   refine (qS b _).mono ?_
   rintro e w3 ⟨rfl,k3⟩
   have qT:Hid (aa W w3):=K3.trans k3
   have B3:Hid (ai w3 w2.heap.size kn):=BL.keeps k3
   clear BL K3 k3 K2
   generalize w2.heap.size=L at *
   go_wp2_with fail
   refine (Gl b L ob W w3 Hb.out ir.out B3.out qT.out hL).mono ?_
   rintro e w4 ⟨rfl,O4⟩
   have zu:Hid (One W L ob b w4):=O4
   have k4:aa W w4:=by obtain ⟨_,_,_,_,k,_,_⟩:=O4;exact k
   clear O4 B3 qT
   go_wp2_with fail
   refine (qS a _).mono ?_
   rintro e w5 ⟨rfl,k5⟩
   go_wp2_with fail
   refine (Gm a b L oa ob W w5 Ha.out jl.out Hb.out ir.out (zu.out.go k5) hL).mono ?_
   rintro e w6 ⟨rfl,T6⟩
   obtain ⟨z,Hz⟩:∃ z,Hid (gR a b=z):=⟨_,rfl⟩
   have He:Hid ((!km z b)=fE a b):=by show _=_;rw [<- Hz.out,Hr.out];exact Gp a b
   rw [Hz.out] at T6
   have k6:=T6.keeps
   have Gu:Hid (jk W L z w6):=T6
   have r3:∀ w',aa w6 w'->∀ k,w'.cell? ⟨w.heap.size+1,k,none⟩=(tc b)[k]?:=fun w' h=>r2 w' (k6.trans h)
   clear r1 r2 T6 k4 k5 zu
   have K0:=aa.refl w6
   go_wp2_with fail
   go_region_held3 (fun w'=>aa w6 w') (first | exact aa.drew (by assumption) | exact aa.trans (by assumption) (by assumption))
    (first
    | (go_at_call 116;refine (qS b _).mono ?_;rintro e w7 ⟨rfl,k7⟩)
    | (go_at_call 325;refine (Gq (K:=by assumption) Gu.out).mono ?_;rintro e w8 ⟨rfl,k8⟩))
   go_wp2
   go_ret
   exact ⟨by rw [<- He.out];rfl,kW.trans (k6.trans (by assumption))⟩
end
end Go.Proofs.YteagpjlgjfaclaaGreatDoor
