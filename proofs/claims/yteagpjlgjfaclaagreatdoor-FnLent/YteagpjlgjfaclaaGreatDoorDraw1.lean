/-
  The program's calls: what is taken back where a call fails.
  Runs of calls: what is drawn stays small.
  SumTwo drawn numbers.
  The program's locks: what asking says.
  A part of time is right: the contract of the program's Shar
  The program's locks: what the functions that only look say.
  Drawn parts of time: contracts of the model's draws of chap
-/
import Derived.Test.YteagpjlgjfaclaaGreatDoorCallDo0
import Derived.Test.YteagpjlgjfaclaaGreatDoorImplCopy
import Derived.Defers
import Derived.Test.YteagpjlgjfaclaaGreatDoorSysTicks
import Derived.Test.YteagpjlgjfaclaaGreatDoorLoneLeaves
import Derived.Test.YteagpjlgjfaclaaGreatDoorTaskPut
import Derived.Test.YteagpjlgjfaclaaGreatDoorCur
import Derived.Test.YteagpjlgjfaclaaGreatDoorErrIs
import Derived.Test.YteagpjlgjfaclaaGreatDoorFixHeap2
import Derived.Test.YteagpjlgjfaclaaGreatDoorLate
import Derived.Deep.AppendLies
namespace Go.Proofs.YteagpjlgjfaclaaGreatDoor
set_option maxRecDepth 100000
open Go.RowKit
section
attribute [local go_sem] aa.refl aa.alloc aa.drew aa.drewN
theorem nq {P:Nat->Prop} {w w':World} {b:Nat} {C:Array Value} (t:aK P w w') (hb:ai w b C) (hn:¬ P b):ai w' b C:=by
 have e:=t.block b hb.lt hn
 exact ⟨Nat.lt_of_lt_of_le hb.lt t.size,fun k=>(World.cell?_of_block (w:=w) e).trans (hb.cells k),fun k=>(World.frozen?_of_block (w:=w) e).trans (hb.aM k)⟩
theorem tt {P:Program} {c:Code} {K:Act->World->Prop} {Q:Exit->Act->World->Prop} {a:Act} {w:World} (h:Code.wp P c (Exit.then K (fun _ _ _=>False)) a w):Code.wp P c (Exit.then K Q) a w :=
 Code.wp_mono (fun e a w hq=>by cases e <;> first | exact hq | exact hq.elim) h
def fx (ob rb:Nat) (C D:Array Value) (w:World):Prop:=ai w ob C /\ ai w rb D
theorem GP (rb sb ob:Nat) (w:World) (hr:ai w rb #[.nilIface]) :
  CallsD Tryz.prog 78 #[.pointer (some ⟨rb,0,none⟩),.pointer (some ⟨sb,0,none⟩),.pointer (some ⟨ob,0,none⟩)] .returning w fun e u' w'=>u' = .returning /\ (e = .returned (.tuple #[]) /\ w'=w):=by
 obtain ⟨_,z1,z2⟩:=hr
 go_enter_d Tryz.func78,Tryz.ntmps78
 go_wp2
 go_end0
 exact ⟨rfl,rfl⟩
def GQ (s:Sy) (ob:Nat) (w:World) (e:Ending) (w':World):Prop:=∃ v vs,e = .returned (.tuple #[]) /\ ay w' w.heap.size v vs s /\ ai w' ob (ae s v) /\ ab ob w w'
set_option linter.unusedSimpArgs false in
theorem GR (rb sb ob:Nat) (u:TypeId) (pv:Value) (s1:Sy) (v1:Sv) (v:Sv) (s:Sy) (w:World) (hr:ai w rb #[.iface u pv]) (hs:ai w sb (ae s v)) (ho:ai w ob (ae s1 v1)) (h:aA w v s) (hsz:bV s <= 1048576) :
  CallsD Tryz.prog 78 #[.pointer (some ⟨rb,0,none⟩),.pointer (some ⟨sb,0,none⟩),.pointer (some ⟨ob,0,none⟩)] .returning w fun e u' w'=>u' = .returning /\ GQ s ob w e w':=by
 have cC:=zS v s w h hsz
 have z1:=hr.cells
 have z3:=hs.cells
 dsimp only [ae] at z3
 clear hr hs h
 go_enter_d Tryz.func78,Tryz.ntmps78
 go_upto_region 1 with fail
 go_wp2_with (go_at_call 77;refine cC.mono ?_;rintro e w2 ⟨v',vs',rfl,o2,k2,-⟩;have B2:=ho.keeps k2;obtain ⟨_,z5,z6⟩:=B2;dsimp only [ae] at z5)
 have lt:=ho.lt
 have D:=(ho.keeps k2).putC (ae s v').toList rfl
 have O:ay (putC w2 ob 0 (ae s v').toList) w.heap.size v' vs' s:=ay.aU (c:=ob) (fun i hi=>by have:=(o2.aG hi).1;omega) _ _ o2
 have K:ab ob w (putC w2 ob 0 (ae s v').toList):=ab.iv _ _ _ (.of k2)
 change bodyPost _ _ _ _ _ (putC w2 ob 0 (ae s v').toList)
 generalize putC w2 ob 0 (ae s v').toList=Q at D O K ⊢
 go_end0
 exact ⟨v',vs',rfl,O,D,K⟩
end
theorem GS (s:Sy) (cpu:Int):(gw s cpu).tasks.length=s.tasks.length:=by
 unfold gw
 split
 ·rfl
 ·simp [tu]
theorem zT (s:Sy):∀ k:Nat,(eL s k).tasks.length=s.tasks.length
 | 0=>rfl
 | k+1=>by
  show (gw (eL s k) k).tasks.length=_
  rw [GS,zT s k]
theorem GU {s:Sy} (h:iI s=true):(dW s).tasks.length=s.tasks.length /\ (dW s).az=s.az:=by
 have e:dW s=qW (eL (gS (fP (fZ s))) s.az.toNat):=by unfold dW;rw [h];rfl
 rw [e]
 refine ⟨?_,?_⟩
 ·show (eL (gS (fP (fZ s))) s.az.toNat).tasks.length=_
  rw [zT]
  simp [gS,fP,fZ]
 ·show (eL (gS (fP (fZ s))) s.az.toNat).az=_
  rw [(qX _ _).1]
  rfl
theorem zU:∀ (n:Nat) (s:Sy),(f8 s n).1.tasks.length=s.tasks.length /\ (f8 s n).1.az=s.az /\ bV (f8 s n).1 <= max (bV s) 1600
 | 0,s=>⟨rfl,rfl,by show bV s <= _;omega⟩
 | n+1,s=>by
  cases h:iI s
  ·have e:(f8 s (n+1)).1=s:=by simp [f8,h]
   rw [e]
   exact ⟨rfl,rfl,by omega⟩
  ·have e:(f8 s (n+1)).1=(f8 (dW s) n).1:=by simp [f8,h]
   obtain ⟨h1,h2,h3⟩:=zU n (dW s)
   have h4:=GU h
   have h5:=(zV h).2
   rw [e]
   exact ⟨h1.trans h4.1,h2.trans h4.2,by omega⟩
def na (s:Sy):Prop:=s.tasks.length <= 13 /\ s.az <= 4 /\ bV s <= 3000
theorem GV (ts:List ag) (t:ag):(cg ts t).length <= ts.length+1:=by
 unfold cg
 split
 ·split
  ·rw [qY];omega
  ·omega
 ·simp
theorem Fm {s:Sy} {c:Cl} (h:fK s c=0):na (eQ s c):=by
 unfold fK at h
 split at h
 case isFalse=>omega
 case isTrue hb =>
  simp only [Bool.and_eq_true] at hb
  have R:=kp.1 hb.1
  obtain ⟨f1,f2,f3,f4⟩:=R.few
  have f5:=R.small
  have f6:=R.az
  have e:eQ s c=ei s c:=by unfold eQ;rw [hb.1,hb.2,h];rfl
  rw [e]
  unfold ei
  split
  ·have:=GV s.tasks (mw s c)
   unfold bV at f5
   refine ⟨by show (cg s.tasks (mw s c)).length <= _;omega,f6.2,?_⟩
   show (cg s.tasks (mw s c)).length+bT s.af+s.ah.length+s.ax.length+s.trace.length <= _
   omega
  ·split
   ·obtain ⟨h1,h2,h3⟩:=zU c.a.toNat s
    exact ⟨by omega,by omega,by omega⟩
   ·unfold lI
    unfold bV at f5
    have same:∀ (k:Nat) (t:ag),na { s with tasks:=s.tasks.set k t }:=fun k t=>⟨by simp;omega,f6.2,by unfold bV;simp;omega⟩
    split
    ·exact same _ _
    ·split
     ·exact same _ _
     ·split
      ·have he:=List.length_eraseIdx_le s.tasks (dA s.tasks c.no).toNat
       refine ⟨by show (s.tasks.eraseIdx _).length <= _;omega,f6.2,?_⟩
       unfold nf bV
       dsimp only
       split
       ·simp only [List.length_append,List.length_singleton];omega
       ·omega
      ·split
       ·have:=zW s.af c.a c.no
        refine ⟨by show s.tasks.length <= _;omega,f6.2,?_⟩
        show s.tasks.length+bT (bX s.af c.a c.no)+s.ah.length+s.ax.length+s.trace.length <= _
        omega
       ·split
        ·have:=GW s.af c.a c.no (eO s.tasks (jm s.af c.a.toNat))
         refine ⟨by show s.tasks.length <= _;omega,f6.2,?_⟩
         show s.tasks.length+bT (dV s.af c.a c.no (eO s.tasks (jm s.af c.a.toNat)))+s.ah.length+s.ax.length+s.trace.length <= _
         omega
        ·split
         ·exact same _ _
         ·split
          ·exact same _ _
          ·exact ⟨by omega,f6.2,by unfold bV;omega⟩
theorem sX:∀ (cs:List Cl) (s:Sy) (c:Cl),bU s (cs++[c])=if fK (bU s cs) c==0 then eQ (bU s cs) c else bU s cs
 | [],s,c=>by
  show (if fK s c==0 then bU (eQ s c) [] else bU s [])=_
  rfl
 | x::r,s,c=>by
  show (if fK s x==0 then bU (eQ s x) (r++[c]) else bU s (r++[c]))=_
  cases h:(fK s x==0)
  ·have e:bU s (x::r)=bU s r:=by show (if fK s x==0 then bU (eQ s x) r else bU s r)=_;rw [h];rfl
   rw [e]
   exact sX r s c
  ·have e:bU s (x::r)=bU (eQ s x) r:=by show (if fK s x==0 then bU (eQ s x) r else bU s r)=_;rw [h];rfl
   rw [e]
   exact sX r (eQ s x) c
theorem Fh {n:Int} (h:aF n 1 4=true):na (aQ n):=by
 have:=dq.1 h
 unfold aQ
 rw [h]
 refine ⟨by simp [Sy.zero],this.2,?_⟩
 simp [bV,Sy.zero,bT,bC]
 omega
section
attribute [local go_sem] aa.refl aa.alloc aa.drew aa.drewN
theorem aN.but {g:Nat} {w w':World} {b:Nat} {v0 v1:Value} (h:aN w b v0 v1) (k:ab g w w') (hg:b≠g):aN w' b v0 v1:=by
 have hb:=h.lt
 obtain ⟨h1,h2,h3,h4⟩:=h
 exact ⟨ab.has hg h1 _ k,ab.has hg h2 _ k,(World.frozen?_of_block (w:=w) (k.block b hb hg)).trans h3,(World.frozen?_of_block (w:=w) (k.block b hb hg)).trans h4⟩
theorem aN.set0 {w:World} {b:Nat} {v0 v1:Value} (h:aN w b v0 v1) (x:Value):aN (w.setCell ⟨b,0,none⟩ x) b x v1:=by
 obtain ⟨h1,h2,h3,h4⟩:=h
 exact ⟨mz h1 _,by rw [fp (by omega),h2],by simp [h3],by simp [h4]⟩
theorem aN.set1 {w:World} {b:Nat} {v0 v1:Value} (h:aN w b v0 v1) (x:Value):aN (w.setCell ⟨b,1,none⟩ x) b v0 x:=by
 obtain ⟨h1,h2,h3,h4⟩:=h
 exact ⟨by rw [fp (by omega),h1],mz h2 _,by simp [h3],by simp [h4]⟩
theorem aN.far {w:World} {b c o:Nat} {v0 v1:Value} (h:aN w b v0 v1) (hc:c≠b) (x:Value):aN (w.setCell ⟨c,o,none⟩ x) b v0 v1:=by
 obtain ⟨h1,h2,h3,h4⟩:=h
 exact ⟨by rw [fp (by omega),h1],by rw [fp (by omega),h2],by simp [h3],by simp [h4]⟩
theorem aN.new (w:World) (v0 v1:Value) (t:TypeId):aN (w.alloc (.cells #[v0,v1] t)) w.heap.size v0 v1:=by simp [aN,go_sem]
theorem aN.alloc {w:World} {b:Nat} {v0 v1:Value} (h:aN w b v0 v1) (o:Obj):aN (w.alloc o) b v0 v1:=h.keeps ((aa.refl w).alloc o)
structure At (g:Nat) (w W:World) (r s:Nat) (q p:Int):Prop where
 cur:bj W g
 keep:ab g w W
 res:aN W r (.int .i64 0) (.int .i64 0)
 part:aN W s (.int .i64 q) (.int .i64 p)
 gr:g < r
 rs:r < s
 wr:w.heap.size <= r
theorem At.but {g:Nat} {w W W':World} {r s:Nat} {q p:Int} (h:At g w W r s q p) (hc:bj W' g) (k:ab g W W'):At g w W' r s q p :=
 ⟨hc,h.keep.trans k,h.res.but k (by have:=h.gr;omega),h.part.but k (by have:=h.gr;have:=h.rs;omega),h.gr,h.rs,h.wr⟩
theorem At.qZ {g:Nat} {w W:World} {r s:Nat} {q p:Int} (h:At g w W r s q p) (x:Int):At g w (W.setCell ⟨s,0,none⟩ (.int .i64 x)) r s x p :=
 ⟨h.cur.aH (by have:=h.gr;have:=h.rs;omega) _ _,h.keep.aH (by have:=h.wr;have:=h.rs;simp;omega) _,h.res.far (by have:=h.rs;omega) _,h.part.set0 _,h.gr,h.rs,h.wr⟩
theorem At.vj {g:Nat} {w W:World} {r s:Nat} {q p:Int} (h:At g w W r s q p) (x:Int):At g w (W.setCell ⟨s,1,none⟩ (.int .i64 x)) r s q x :=
 ⟨h.cur.aH (by have:=h.gr;have:=h.rs;omega) _ _,h.keep.aH (by have:=h.wr;have:=h.rs;simp;omega) _,h.res.far (by have:=h.rs;omega) _,h.part.set1 _,h.gr,h.rs,h.wr⟩
theorem At.done {g:Nat} {w W:World} {r s:Nat} {q p:Int} (h:At g w W r s q p) (x y:Value):bj ((W.setCell ⟨r,0,none⟩ x).setCell ⟨r,1,none⟩ y) g /\ ab g w ((W.setCell ⟨r,0,none⟩ x).setCell ⟨r,1,none⟩ y) :=
 ⟨(h.cur.aH h.gr _ _).aH h.gr _ _,(h.keep.aH h.wr _).aH h.wr _⟩
set_option maxHeartbeats 1600000 in
theorem uM (g:Nat) (w:World) (hc:bj w g) :
  Calls Tryz.prog 53 #[.pointer (some ⟨g,0,none⟩)] w fun e w'=>∃ q p:Int,e = .returned (sh q p) /\ bj w' g /\ ab g w w':=by
 have hgl:=hc.lt
 go_enter Tryz.func53,Tryz.ntmps53
 go_wp2_with fail
 refine (jb (fun z=>1 <= z /\ z <= 40) g [1,2,3,4,5,6,8,10,12,39,40] _ _ 11 11 _ _ (by simp) (hc.keeps ((aa.refl _).alloc _)) rfl (by decide) (by decide) rfl (by simp)).mono ?_
 rintro e w1 ⟨p,rfl,⟨hp0,hp1⟩,hc1,k1⟩
 go_wp2_with fail
 have A:At g w (w1.alloc (.cells #[.int .i64 0,.int .i64 p] 51)) w.heap.size w1.heap.size 0 p:=by
  have hs:=k1.size
  have kw:=((ab.refl g w).alloc (.cells #[.int .i64 0,.int .i64 0] 51)).trans k1
  simp at hs
  exact ⟨hc1.keeps ((aa.refl _).alloc _),kw.alloc _,((aN.new w (.int .i64 0) (.int .i64 0) _).but k1 (by omega)).alloc _,aN.new _ _ _ _,hgl,by omega,Nat.le_refl _⟩
 generalize w1.alloc (.cells #[.int .i64 0,.int .i64 p] 51)=W at *
 generalize w1.heap.size=s at *
 generalize hr:w.heap.size=r at *
 clear hr k1 hc1 w1
 refine (yR _ _ _).mono ?_
 rintro e w2 ⟨rfl,rfl⟩
 have hmx:1 <= max (p / 2) 1 /\ max (p / 2) 1 <= 20:=by omega
 generalize max (p / 2) 1=mx at *
 obtain ⟨Ps,Pt⟩:=hmx
 go_wp2_with fail
 refine (cF g _ _ A.cur (by omega) (by omega)).mono ?_
 rintro e w3 ⟨x,rfl,hx0,hx1,hc3,k3⟩
 have A3:=A.but hc3 k3
 clear A hc3 k3 hc hgl
 obtain ⟨c0,c1,f0,f1⟩:=A3.part
 go_wp2_with fail
 have A4:=A3.qZ (1+x)
 clear c0 c1 f0 f1 A3
 generalize w3.setCell ⟨s,0,none⟩ (.int .i64 (1+x))=w4 at *
 refine (cF g _ _ A4.cur (by omega) (by omega)).mono ?_
 rintro e w5 ⟨y,rfl,hy0,hy1,fD,k5⟩
 have A5:=A4.but fD k5
 clear A4 fD k5
 obtain ⟨c0,c1,f0,f1⟩:=A5.part
 obtain ⟨d0,d1,e0,e1⟩:=A5.res
 have hrs:r≠s:=by have:=A5.rs;omega
 have vk:s≠r:=Ne.symm hrs
 by_cases hy:y=0
 ·subst hy
  go_wp2_with fail
  refine (jb (fun _=>True) g [0,-1,41] _ _ 3 3 _ _ rfl A5.cur rfl (by decide) (by decide) rfl (by simp)).mono ?_
  rintro e w6 ⟨z,rfl,_,hc6,k6⟩
  have A6:=A5.but hc6 k6
  clear c0 c1 f0 f1 d0 d1 e0 e1 A5 hc6 k6
  obtain ⟨c0,c1,f0,f1⟩:=A6.part
  obtain ⟨d0,d1,e0,e1⟩:=A6.res
  go_wp2
  exact bodyPost_ret (v:=sh (1+x) z) (by simp [results,Tryz.results53,go_sem,d0,d1]) rfl ⟨_,_,rfl,(A6.vj z).done _ _⟩
 ·by_cases hy':y=1
  ·subst hy'
   go_wp2_with fail
   refine (jb (fun _=>True) g [0,-1,p,p+1] _ _ 4 4 _ _ rfl A5.cur rfl (by decide) (by decide) rfl (by simp)).mono ?_
   rintro e w6 ⟨z,rfl,_,hc6,k6⟩
   have A6:=A5.but hc6 k6
   clear c0 c1 f0 f1 d0 d1 e0 e1 A5 hc6 k6
   obtain ⟨c0,c1,f0,f1⟩:=A6.part
   obtain ⟨d0,d1,e0,e1⟩:=A6.res
   go_wp2
   exact bodyPost_ret (v:=sh z p) (by simp [results,Tryz.results53,go_sem,d0,d1]) rfl ⟨_,_,rfl,(A6.qZ z).done _ _⟩
  ·have b0:(y==0)=false:=by rw [beq_eq_false_iff_ne];exact hy
   have b1:(y==1)=false:=by rw [beq_eq_false_iff_ne];exact hy'
   go_wp2
   exact bodyPost_ret (v:=sh (1+x) p) (by simp [results,Tryz.results53,go_sem,d0,d1]) rfl ⟨_,_,rfl,A5.done _ _⟩
end
end Go.Proofs.YteagpjlgjfaclaaGreatDoor
