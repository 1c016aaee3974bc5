/-
  A drawn call that is turned in one place now and then.
  The program's SysCall of the kind 1, of a right system.
-/
import Derived.Test.YteagpjlgjfaclaaGreatDoorCallDraw1
import Derived.Test.YteagpjlgjfaclaaGreatDoorImplCalled1
import Derived.Test.YteagpjlgjfaclaaGreatDoorImplSysOk
import Derived.Test.YteagpjlgjfaclaaGreatDoorLockDraw2
import Derived.Test.YteagpjlgjfaclaaGreatDoorSysLaws
namespace Go.Proofs.YteagpjlgjfaclaaGreatDoor
set_option maxRecDepth 100000
open Go.RowKit
def qiu (g:Nat) (w:World) (e:Ending) (w':World):Prop:=∃ c:Cl,e = .returned (ck c) /\ Cur w' g /\ KeepsBut g w w'
theorem qdx {g rb:Nat} {w wn:World} (c:Cl) (R:Blk wn rb cc0) (hg:g < w.heap.size) (hr:w.heap.size <= rb) (hc:Cur wn g) (k:KeepsBut g w wn) :
  Blk (putC wn rb 0 (cc c).toList) rb (cc c) /\ Cur (putC wn rb 0 (cc c).toList) g /\ KeepsBut g w (putC wn rb 0 (cc c).toList) :=
 qa5 R hg hr k hc (KeepsBut.refl g wn) c
set_option maxHeartbeats 8000000 in
theorem qfR {w:World} {g:Nat} (hc:Cur w g) (c:Cl) :
  Calls Tryz.prog 23 #[.pointer (some ⟨g,0,none⟩),ck c] w (qiu g w):=by
 have hgl:=hc.lt
 have kZ:Keeps w ((w.alloc (.cells (cc c) 32)).alloc (.cells cc0 32)):=((Keeps.refl w).alloc _).alloc _
 have B0:Hid (Blk ((w.alloc (.cells (cc c) 32)).alloc (.cells cc0 32)) w.heap.size (cc c)):=(Blk.new _ _ _).alloc _
 have R0:Hid (Blk ((w.alloc (.cells (cc c) 32)).alloc (.cells cc0 32)) (w.heap.size+1) cc0):=by
  have:=Blk.new (w.alloc (.cells (cc c) 32)) cc0 32
  show Blk _ _ _
  simpa using this
 have HC:=hc.keeps kZ
 have KZ:Hid (KeepsBut g w ((w.alloc (.cells (cc c) 32)).alloc (.cells cc0 32))) := .of kZ
 clear hc kZ
 go_enter Tryz.func23,Tryz.ntmps23
 go_upto_region 1 with fail
 change Code.wp _ _ _ _ ((w.alloc (.cells (cc c) 32)).alloc (.cells cc0 32))
 generalize (w.alloc (.cells (cc c) 32)).alloc (.cells cc0 32)=Z at *
 go_upto_region 2 with (go_at_call 49;refine (qam g _ _ HC (by omega) (by omega)).mono ?_;rintro e w1 ⟨m,rfl,m0,m1,hc1,k1⟩)
 have hob:w.heap.size≠g:=by omega
 have hrb:w.heap.size+1≠g:=by omega
 have B1:Hid (Blk w1 w.heap.size (cc c)):=B0.out.but k1 hob
 have R1:Hid (Blk w1 (w.heap.size+1) cc0):=R0.out.but k1 hrb
 have K1:Hid (KeepsBut g w w1):=KZ.out.trans k1
 clear B0 R0 KZ k1 HC
 by_cases h0:m=0
 ·subst h0
  go_upto_region 12 with (go_at_call 49;refine (qam g _ _ hc1 (by omega) (by omega)).mono ?_;rintro e w2 ⟨x,rfl,x0,x1,hc2,k2⟩;obtain ⟨_,z1,z2⟩:=B1.out.but k2 hob)
  change Code.wp _ _ _ _ (w2.setCell ⟨w.heap.size,0,none⟩ (.int .i64 x))
  have BY:Hid (Blk (w2.setCell ⟨w.heap.size,0,none⟩ (.int .i64 x)) w.heap.size (cc ⟨x,c.no,c.cpu,c.a,c.b⟩)):=(B1.out.but k2 hob).set 0 (by show 0 < 5;omega) _
  have RY:Hid (Blk (w2.setCell ⟨w.heap.size,0,none⟩ (.int .i64 x)) (w.heap.size+1) cc0):=(R1.out.but k2 hrb).far (by omega) _
  have CY:=hc2.setNew (b:=w.heap.size) (by omega) 0 (.int .i64 x)
  have KY:Hid (KeepsBut g w (w2.setCell ⟨w.heap.size,0,none⟩ (.int .i64 x))):=(K1.out.trans k2).setNew (p:=⟨w.heap.size,0,none⟩) (Nat.le_refl _) _
  clear z1 z2 B1 R1 K1 k2 hc2
  generalize (w2.setCell ⟨w.heap.size,0,none⟩ (.int .i64 x))=Y at *
  obtain ⟨_,y1,y2⟩:=BY.out
  obtain ⟨_,y3,y4⟩:=RY.out
  dsimp only [cc] at y1
  dsimp only [cc0] at y3
  obtain ⟨D,CQ,KQ⟩:=qdx ⟨x,c.no,c.cpu,c.a,c.b⟩ RY.out hgl (by omega) CY KY.out
  go_wp2
  change bodyPost _ _ _ _ _ (putC Y (w.heap.size+1) 0 (cc ⟨x,c.no,c.cpu,c.a,c.b⟩).toList)
  generalize putC Y (w.heap.size+1) 0 (cc ⟨x,c.no,c.cpu,c.a,c.b⟩).toList=Q at D CQ KQ ⊢
  exact bodyPost_ret (v:=ck ⟨x,c.no,c.cpu,c.a,c.b⟩) (by simp [results,Tryz.results23,go_sem,D.cells]) rfl ⟨⟨x,c.no,c.cpu,c.a,c.b⟩,rfl,CQ,KQ⟩
 by_cases h1:m=1
 ·subst h1
  go_upto_region 12 with (go_at_call 50;refine (qbC (fun _=>True) g [0,-1,1000,1001] _ _ _ _ _ w1 rfl hc1 rfl (by decide) (by decide) rfl (fun _ _=>trivial)).mono ?_;rintro e w2 ⟨x,rfl,-,hc2,k2⟩;obtain ⟨_,z1,z2⟩:=B1.out.but k2 hob)
  change Code.wp _ _ _ _ (w2.setCell ⟨w.heap.size,1,none⟩ (.int .i64 x))
  have BY:Hid (Blk (w2.setCell ⟨w.heap.size,1,none⟩ (.int .i64 x)) w.heap.size (cc ⟨c.kind,x,c.cpu,c.a,c.b⟩)):=(B1.out.but k2 hob).set 1 (by show 1 < 5;omega) _
  have RY:Hid (Blk (w2.setCell ⟨w.heap.size,1,none⟩ (.int .i64 x)) (w.heap.size+1) cc0):=(R1.out.but k2 hrb).far (by omega) _
  have CY:=hc2.setNew (b:=w.heap.size) (by omega) 1 (.int .i64 x)
  have KY:Hid (KeepsBut g w (w2.setCell ⟨w.heap.size,1,none⟩ (.int .i64 x))):=(K1.out.trans k2).setNew (p:=⟨w.heap.size,1,none⟩) (Nat.le_refl _) _
  clear z1 z2 B1 R1 K1 k2 hc2
  generalize (w2.setCell ⟨w.heap.size,1,none⟩ (.int .i64 x))=Y at *
  obtain ⟨_,y1,y2⟩:=BY.out
  obtain ⟨_,y3,y4⟩:=RY.out
  dsimp only [cc] at y1
  dsimp only [cc0] at y3
  obtain ⟨D,CQ,KQ⟩:=qdx ⟨c.kind,x,c.cpu,c.a,c.b⟩ RY.out hgl (by omega) CY KY.out
  go_wp2
  change bodyPost _ _ _ _ _ (putC Y (w.heap.size+1) 0 (cc ⟨c.kind,x,c.cpu,c.a,c.b⟩).toList)
  generalize putC Y (w.heap.size+1) 0 (cc ⟨c.kind,x,c.cpu,c.a,c.b⟩).toList=Q at D CQ KQ ⊢
  exact bodyPost_ret (v:=ck ⟨c.kind,x,c.cpu,c.a,c.b⟩) (by simp [results,Tryz.results23,go_sem,D.cells]) rfl ⟨⟨c.kind,x,c.cpu,c.a,c.b⟩,rfl,CQ,KQ⟩
 by_cases h2:m=2
 ·subst h2
  go_upto_region 12 with (go_at_call 50;refine (qbC (fun _=>True) g [-1,3,4,9223372036854775807] _ _ _ _ _ w1 rfl hc1 rfl (by decide) (by decide) rfl (fun _ _=>trivial)).mono ?_;rintro e w2 ⟨x,rfl,-,hc2,k2⟩;obtain ⟨_,z1,z2⟩:=B1.out.but k2 hob)
  change Code.wp _ _ _ _ (w2.setCell ⟨w.heap.size,2,none⟩ (.int .i64 x))
  have BY:Hid (Blk (w2.setCell ⟨w.heap.size,2,none⟩ (.int .i64 x)) w.heap.size (cc ⟨c.kind,c.no,x,c.a,c.b⟩)):=(B1.out.but k2 hob).set 2 (by show 2 < 5;omega) _
  have RY:Hid (Blk (w2.setCell ⟨w.heap.size,2,none⟩ (.int .i64 x)) (w.heap.size+1) cc0):=(R1.out.but k2 hrb).far (by omega) _
  have CY:=hc2.setNew (b:=w.heap.size) (by omega) 2 (.int .i64 x)
  have KY:Hid (KeepsBut g w (w2.setCell ⟨w.heap.size,2,none⟩ (.int .i64 x))):=(K1.out.trans k2).setNew (p:=⟨w.heap.size,2,none⟩) (Nat.le_refl _) _
  clear z1 z2 B1 R1 K1 k2 hc2
  generalize (w2.setCell ⟨w.heap.size,2,none⟩ (.int .i64 x))=Y at *
  obtain ⟨_,y1,y2⟩:=BY.out
  obtain ⟨_,y3,y4⟩:=RY.out
  dsimp only [cc] at y1
  dsimp only [cc0] at y3
  obtain ⟨D,CQ,KQ⟩:=qdx ⟨c.kind,c.no,x,c.a,c.b⟩ RY.out hgl (by omega) CY KY.out
  go_wp2
  change bodyPost _ _ _ _ _ (putC Y (w.heap.size+1) 0 (cc ⟨c.kind,c.no,x,c.a,c.b⟩).toList)
  generalize putC Y (w.heap.size+1) 0 (cc ⟨c.kind,c.no,x,c.a,c.b⟩).toList=Q at D CQ KQ ⊢
  exact bodyPost_ret (v:=ck ⟨c.kind,c.no,x,c.a,c.b⟩) (by simp [results,Tryz.results23,go_sem,D.cells]) rfl ⟨⟨c.kind,c.no,x,c.a,c.b⟩,rfl,CQ,KQ⟩
 by_cases h3:m=3
 ·subst h3
  go_upto_region 12 with (go_at_call 50;refine (qbC (fun _=>True) g [-5,0,5,41,51,9223372036854775807] _ _ _ _ _ w1 rfl hc1 rfl (by decide) (by decide) rfl (fun _ _=>trivial)).mono ?_;rintro e w2 ⟨x,rfl,-,hc2,k2⟩;obtain ⟨_,z1,z2⟩:=B1.out.but k2 hob)
  change Code.wp _ _ _ _ (w2.setCell ⟨w.heap.size,3,none⟩ (.int .i64 x))
  have BY:Hid (Blk (w2.setCell ⟨w.heap.size,3,none⟩ (.int .i64 x)) w.heap.size (cc ⟨c.kind,c.no,c.cpu,x,c.b⟩)):=(B1.out.but k2 hob).set 3 (by show 3 < 5;omega) _
  have RY:Hid (Blk (w2.setCell ⟨w.heap.size,3,none⟩ (.int .i64 x)) (w.heap.size+1) cc0):=(R1.out.but k2 hrb).far (by omega) _
  have CY:=hc2.setNew (b:=w.heap.size) (by omega) 3 (.int .i64 x)
  have KY:Hid (KeepsBut g w (w2.setCell ⟨w.heap.size,3,none⟩ (.int .i64 x))):=(K1.out.trans k2).setNew (p:=⟨w.heap.size,3,none⟩) (Nat.le_refl _) _
  clear z1 z2 B1 R1 K1 k2 hc2
  generalize (w2.setCell ⟨w.heap.size,3,none⟩ (.int .i64 x))=Y at *
  obtain ⟨_,y1,y2⟩:=BY.out
  obtain ⟨_,y3,y4⟩:=RY.out
  dsimp only [cc] at y1
  dsimp only [cc0] at y3
  obtain ⟨D,CQ,KQ⟩:=qdx ⟨c.kind,c.no,c.cpu,x,c.b⟩ RY.out hgl (by omega) CY KY.out
  go_wp2
  change bodyPost _ _ _ _ _ (putC Y (w.heap.size+1) 0 (cc ⟨c.kind,c.no,c.cpu,x,c.b⟩).toList)
  generalize putC Y (w.heap.size+1) 0 (cc ⟨c.kind,c.no,c.cpu,x,c.b⟩).toList=Q at D CQ KQ ⊢
  exact bodyPost_ret (v:=ck ⟨c.kind,c.no,c.cpu,x,c.b⟩) (by simp [results,Tryz.results23,go_sem,D.cells]) rfl ⟨⟨c.kind,c.no,c.cpu,x,c.b⟩,rfl,CQ,KQ⟩
 by_cases h4:m=4
 ·subst h4
  go_upto_region 12 with (go_at_call 50;refine (qbC (fun _=>True) g [-1,0,11,41] _ _ _ _ _ w1 rfl hc1 rfl (by decide) (by decide) rfl (fun _ _=>trivial)).mono ?_;rintro e w2 ⟨x,rfl,-,hc2,k2⟩;obtain ⟨_,z1,z2⟩:=B1.out.but k2 hob)
  change Code.wp _ _ _ _ (w2.setCell ⟨w.heap.size,4,none⟩ (.int .i64 x))
  have BY:Hid (Blk (w2.setCell ⟨w.heap.size,4,none⟩ (.int .i64 x)) w.heap.size (cc ⟨c.kind,c.no,c.cpu,c.a,x⟩)):=(B1.out.but k2 hob).set 4 (by show 4 < 5;omega) _
  have RY:Hid (Blk (w2.setCell ⟨w.heap.size,4,none⟩ (.int .i64 x)) (w.heap.size+1) cc0):=(R1.out.but k2 hrb).far (by omega) _
  have CY:=hc2.setNew (b:=w.heap.size) (by omega) 4 (.int .i64 x)
  have KY:Hid (KeepsBut g w (w2.setCell ⟨w.heap.size,4,none⟩ (.int .i64 x))):=(K1.out.trans k2).setNew (p:=⟨w.heap.size,4,none⟩) (Nat.le_refl _) _
  clear z1 z2 B1 R1 K1 k2 hc2
  generalize (w2.setCell ⟨w.heap.size,4,none⟩ (.int .i64 x))=Y at *
  obtain ⟨_,y1,y2⟩:=BY.out
  obtain ⟨_,y3,y4⟩:=RY.out
  dsimp only [cc] at y1
  dsimp only [cc0] at y3
  obtain ⟨D,CQ,KQ⟩:=qdx ⟨c.kind,c.no,c.cpu,c.a,x⟩ RY.out hgl (by omega) CY KY.out
  go_wp2
  change bodyPost _ _ _ _ _ (putC Y (w.heap.size+1) 0 (cc ⟨c.kind,c.no,c.cpu,c.a,x⟩).toList)
  generalize putC Y (w.heap.size+1) 0 (cc ⟨c.kind,c.no,c.cpu,c.a,x⟩).toList=Q at D CQ KQ ⊢
  exact bodyPost_ret (v:=ck ⟨c.kind,c.no,c.cpu,c.a,x⟩) (by simp [results,Tryz.results23,go_sem,D.cells]) rfl ⟨⟨c.kind,c.no,c.cpu,c.a,x⟩,rfl,CQ,KQ⟩
 have e0:(m==0)=false:=by simp;omega
 have e1:(m==1)=false:=by simp;omega
 have e2:(m==2)=false:=by simp;omega
 have e3:(m==3)=false:=by simp;omega
 have e4:(m==4)=false:=by simp;omega
 go_upto_region 12 with fail
 have BY:=B1
 have RY:=R1
 have CY:=hc1
 have KY:=K1
 generalize w1=Y at *
 clear B1 R1 K1 hc1
 obtain ⟨_,y1,y2⟩:=BY.out
 obtain ⟨_,y3,y4⟩:=RY.out
 dsimp only [cc] at y1
 dsimp only [cc0] at y3
 obtain ⟨D,CQ,KQ⟩:=qdx c RY.out hgl (by omega) CY KY.out
 go_wp2
 change bodyPost _ _ _ _ _ (putC Y (w.heap.size+1) 0 (cc c).toList)
 generalize putC Y (w.heap.size+1) 0 (cc c).toList=Q at D CQ KQ ⊢
 exact bodyPost_ret (v:=ck c) (by simp [results,Tryz.results23,go_sem,D.cells]) rfl ⟨c,rfl,CQ,KQ⟩
end Go.Proofs.YteagpjlgjfaclaaGreatDoor
namespace Go.Proofs.YteagpjlgjfaclaaGreatDoor
set_option maxRecDepth 100000
open Go.RowKit
attribute [local go_sem] Keeps.refl Keeps.alloc Keeps.drew Keeps.drewN
def qgB (s:Sy) (n:Int) (w:World) (e:Ending) (w':World):Prop:=∃ v vs,e = .returned (.tuple #[.agg (syc s v),.int .i64 n]) /\ OwnS w' w.heap.size v vs s /\ Keeps w w'
set_option linter.unusedSimpArgs false in
set_option maxHeartbeats 8000000 in
theorem qj6 (v:Sv) (s s':Sy) (w:World) (h:SysOn w v s) (hr:sysB s=true) (hg:GlobE w) (no cpu a b:Int) (hcb:qaC ⟨1,no,cpu,a,b⟩=true) {er:Nat->Addr} (E:Errs w er) (n:Nat) (hn:n <= 6)
  (H:∀ W,Errs W er->SysOn W v s->Calls Tryz.prog 36 #[.agg (syc s v),ck ⟨1,no,cpu,a,b⟩] W (qe3 s s' er n W)) :
  Calls Tryz.prog 11 #[.agg (syc s v),ck ⟨1,no,cpu,a,b⟩] w (qgB (if n=0 then s' else s) (n:Int) w):=by
 obtain ⟨s2,Hs2⟩:∃ x,Hid ((if n=0 then s' else s)=x):=⟨_,rfl⟩
 rw [Hs2.out]
 have kZ:Keeps w (((w.alloc (.cells (syc s v) 30)).alloc (.cells (cc ⟨1,no,cpu,a,b⟩) 32)).alloc (.cells zc0 30)):=(((Keeps.refl w).alloc _).alloc _).alloc _
 have B1:Hid (Blk (((w.alloc (.cells (syc s v) 30)).alloc (.cells (cc ⟨1,no,cpu,a,b⟩) 32)).alloc (.cells zc0 30)) w.heap.size (syc s v)):=((Blk.new _ _ _).alloc _).alloc _
 have B2:Hid (Blk (((w.alloc (.cells (syc s v) 30)).alloc (.cells (cc ⟨1,no,cpu,a,b⟩) 32)).alloc (.cells zc0 30)) (w.heap.size+1) (cc ⟨1,no,cpu,a,b⟩)):=by
  have:=(Blk.new (w.alloc (.cells (syc s v) 30)) (cc ⟨1,no,cpu,a,b⟩) 32).alloc (.cells zc0 30)
  show Blk _ _ _
  simpa using this
 have B3:Hid (Blk (((w.alloc (.cells (syc s v) 30)).alloc (.cells (cc ⟨1,no,cpu,a,b⟩) 32)).alloc (.cells zc0 30)) (w.heap.size+1+1) zc0):=by
  have:=Blk.new ((w.alloc (.cells (syc s v) 30)).alloc (.cells (cc ⟨1,no,cpu,a,b⟩) 32)) zc0 30
  show Blk _ _ _
  simpa using this
 have HS:Hid (SysOn (((w.alloc (.cells (syc s v) 30)).alloc (.cells (cc ⟨1,no,cpu,a,b⟩) 32)).alloc (.cells zc0 30)) v s):=h.keeps kZ
 have HE:Hid (Errs (((w.alloc (.cells (syc s v) 30)).alloc (.cells (cc ⟨1,no,cpu,a,b⟩) 32)).alloc (.cells zc0 30)) er):=E.keeps kZ
 have HG:Hid (GlobE (((w.alloc (.cells (syc s v) 30)).alloc (.cells (cc ⟨1,no,cpu,a,b⟩) 32)).alloc (.cells zc0 30))):=hg.keeps kZ
 have HH:Hid (∀ W,Errs W er->SysOn W v s->Calls Tryz.prog 36 #[.agg (syc s v),ck ⟨1,no,cpu,a,b⟩] W (qe3 s s' er n W)):=H
 have hws:w.heap.size+1+1 < (((w.alloc (.cells (syc s v) 30)).alloc (.cells (cc ⟨1,no,cpu,a,b⟩) 32)).alloc (.cells zc0 30)).heap.size:=by simp
 clear h hg E H
 go_enter Tryz.func11,Tryz.ntmps11
 go_upto_region 1 with fail
 change Code.wp _ _ _ _ (((w.alloc (.cells (syc s v) 30)).alloc (.cells (cc ⟨1,no,cpu,a,b⟩) 32)).alloc (.cells zc0 30))
 generalize (((w.alloc (.cells (syc s v) 30)).alloc (.cells (cc ⟨1,no,cpu,a,b⟩) 32)).alloc (.cells zc0 30))=Z at *
 obtain ⟨cb,hcb2⟩:∃ x,w.heap.size+1=x:=⟨_,rfl⟩
 rw [hcb2] at B2 B3 hws ⊢
 obtain ⟨rb,hrb⟩:∃ x,cb+1=x:=⟨_,rfl⟩
 rw [hrb] at B3 hws ⊢
 have i1:w.heap.size < cb:=by omega
 have i2:cb < rb:=by omega
 have i4:rb < Z.heap.size:=hws
 clear hcb2 hrb hws
 have e1:∀ w',Keeps Z w'->∀ q,w'.cell? ⟨w.heap.size,q,none⟩=(syc s v)[q]?:=fun w' k=>(B1.out.keeps k).cells
 have e2:∀ w',Keeps Z w'->∀ q,w'.cell? ⟨cb,q,none⟩=(cc ⟨1,no,cpu,a,b⟩)[q]?:=fun w' k=>(B2.out.keeps k).cells
 dsimp only [syc] at e1
 have cK:=fun w'=>qjy ⟨1,no,cpu,a,b⟩ w'
 rw [hcb] at cK
 go_upto_region 3 with first
  | (go_at_call 8;refine (qgC _ v s HG.out HS.out).mono ?_;rintro e w1 ⟨rfl,k1⟩;rw [hr])
  | (go_at_call 35;refine (cK _).mono ?_;rintro e w2 ⟨rfl,k2⟩)
 have K2:Keeps Z w2:=k1.trans k2
 have f1:∀ w',Keeps w2 w'->∀ q,w'.cell? ⟨w.heap.size,q,none⟩=(syc s v)[q]?:=fun w' k=>(B1.out.keeps (K2.trans k)).cells
 have f2:∀ w',Keeps w2 w'->∀ q,w'.cell? ⟨cb,q,none⟩=(cc ⟨1,no,cpu,a,b⟩)[q]?:=fun w' k=>(B2.out.keeps (K2.trans k)).cells
 dsimp only [syc] at f1
 clear e1 e2 cK k1 k2
 have cM:=HH.out w2 (HE.out.keeps K2) (HS.out.keeps K2)
 go_upto_region 4 with (go_at_call 36;refine cM.mono ?_;rintro e w3 ⟨v3,vs3,rfl,o3,k3⟩)
 rw [Hs2.out] at o3 ⊢
 have kN:Keeps Z (w3.alloc (.cells (syc s2 v3) 30)):=(K2.trans k3).alloc _
 have N0:Hid (Blk (w3.alloc (.cells (syc s2 v3) 30)) w3.heap.size (syc s2 v3)):=Blk.new _ _ _
 have O0:Hid (OwnS (w3.alloc (.cells (syc s2 v3) 30)) w2.heap.size v3 vs3 s2):=o3.keeps ((Keeps.refl w3).alloc _)
 have R0:Hid (Blk (w3.alloc (.cells (syc s2 v3) 30)) rb zc0):=B3.out.keeps kN
 have KN:Hid (Keeps w (w3.alloc (.cells (syc s2 v3) 30))):=kZ.trans kN
 have EN:Hid (Errs (w3.alloc (.cells (syc s2 v3) 30)) er):=HE.out.keeps kN
 have hz2:rb < w2.heap.size:=Nat.lt_of_lt_of_le i4 K2.size
 have hnb:rb < w3.heap.size:=Nat.lt_of_lt_of_le hz2 k3.size
 change Code.wp _ _ _ _ (w3.alloc (.cells (syc s2 v3) 30))
 clear cM f1 f2 k3 K2 o3 B1 B2 B3 HS HE HG HH kZ kN
 generalize (w3.alloc (.cells (syc s2 v3) 30))=X at *
 generalize w3.heap.size=nb at *
 have e0:∀ w',Blk w' nb (syc s2 v3)->∀ q,w'.cell? ⟨nb,q,none⟩=(syc s2 v3)[q]?:=fun w' hh=>hh.cells
 dsimp only [syc] at e0
 refine wp_region_held_drew (S:=(fun w'=>Blk w' nb (syc s2 v3))) (by kernel_rfl) ?_ (fun hHeld => ?_)
 ·exact N0.out.keeps (Keeps.refl X).drew
 refine Plan.go [0,1] ?_
 iterate 2 (refine qac (by simp only [qab];rfl) (by kernel_rfl) (by exact fun _ _ _ h=>h) (by rfl) (by assumption) (fun w _=>by go_simp;try (with_reducible rfl)) ?_;try simp only [qaa])
 refine Plan.nil ?_
 refine qad 2 (by kernel_rfl) (by simp only [qab];rfl) (fun K hK => ?_)
 go_simp
 (go_at_call 37;refine (qjd (EN.out.keeps (Keeps.refl X).drew) n hn).mono ?_;rintro e w5 ⟨rfl,hw5⟩;have hw6:=hw5;subst hw6;clear hw5)
 try go_wp2_with fail
 refine hK.out _ _ ?_ (fun hHeld => ?_)
 ·exact N0.out.keeps (Keeps.refl X).drew
 clear hK K
 try simp only [qaa]
 refine qad 3 (by kernel_rfl) (by simp only [qab];rfl) (fun K hK => ?_)
 obtain ⟨_,r1,r2⟩:=R0.out;have hne1:nb≠rb:=(by omega);have hne2:rb≠nb:=(by omega)
 go_simp
 try go_wp2_with fail
 refine hK.out _ _ ?_ (fun hHeld => ?_)
 ·exact (Blk.farC (c:=rb) (by omega) (syc s2 v3).toList 0 N0.out).keeps (Keeps.refl _).drew
 clear hK K
 try simp only [qaa]
 refine qar 4 (v := ?_) (by simp only [qab];rfl) (by kernel_rfl) (by exact fun _ _ _ h=>h) (by rfl) (by assumption) ?_ ?_
 rotate_left
 ·(intro w _;go_simp;try (with_reducible rfl))
 try simp only [qaa]
 refine wpAnyH_done (by kernel_rfl) ?_ _
 have D:Hid (Blk (putC X rb 0 (syc s2 v3).toList).drew rb (syc s2 v3)):=(R0.out.putC (syc s2 v3).toList rfl).keeps (Keeps.refl _).drew
 have KQ:Hid (Keeps w (putC X rb 0 (syc s2 v3).toList).drew):=(Keeps.putC (b:=rb) (by omega) _ 0 KN.out).drew
 have OQ:Hid (OwnS (putC X rb 0 (syc s2 v3).toList).drew w.heap.size v3 vs3 s2):=((OwnS.farC (c:=rb) (fun i hi=>by have:=(O0.out.blkLt hi).1;omega) _ _ O0.out).keeps (Keeps.refl _).drew).base (by omega)
 change Exit.then _ _ _ _ (putC X rb 0 (syc s2 v3).toList).drew
 clear e0 r1 r2 hHeld N0 O0 R0 KN EN
 generalize (putC X rb 0 (syc s2 v3).toList).drew=Q at *
 go_wp2
 have y1:=D.out.cells
 exact bodyPost_ret (v := .tuple #[.agg (syc s2 v3),.int .i64 (n:Int)]) (by simp [results,Tryz.results11,go_sem,y1]) rfl ⟨v3,vs3,rfl,OQ.out,KQ.out⟩
end Go.Proofs.YteagpjlgjfaclaaGreatDoor
