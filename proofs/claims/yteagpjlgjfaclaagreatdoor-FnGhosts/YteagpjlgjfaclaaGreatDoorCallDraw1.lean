/-
  Drawn systems: a task's number, and what is asked next.
-/
import Derived.Test.YteagpjlgjfaclaaGreatDoorCallMove
import Derived.Test.YteagpjlgjfaclaaGreatDoorCur
import Derived.Test.YteagpjlgjfaclaaGreatDoorSumSpec
import Derived.Deep.Cut
namespace Go.Proofs.YteagpjlgjfaclaaGreatDoor
set_option maxRecDepth 100000
open Go.RowKit
attribute [local go_sem] ab.refl ab.alloc ab.drew ab.drewN
set_option linter.unusedSimpArgs false in
set_option maxHeartbeats 8000000 in
theorem Bs {w:World} {g lo:Nat} {v:Sv} {vs:List Lv} {s:Sy} (hc:bf w g) (h:ay w lo v vs s) (hg:g < lo) (ht:s.tasks.length <= 256) :
  Calls Tryz.prog 55 #[.pointer (some ⟨g,0,none⟩),.agg (ae s v)] w (Bt g w):=by
 obtain ⟨⟨ta,tn,ag⟩,⟨la,ln,ah⟩,⟨ga,gn,ai⟩,⟨fa,fn,aj⟩,⟨ra,rn,ao⟩⟩:=v
 have hgl:=hc.lt
 have Hn:Hid (s.tasks.length=tn):=(h.t.row cF).1
 have htn:tn <= 256:=by rw [<- Hn.out];exact ht
 have kZ:=dw w (.cells (ae s ⟨⟨ta,tn,ag⟩,⟨la,ln,ah⟩,⟨ga,gn,ai⟩,⟨fa,fn,aj⟩,⟨ra,rn,ao⟩⟩) 30)
 have B0:Hid (aq (w.alloc (.cells (ae s ⟨⟨ta,tn,ag⟩,⟨la,ln,ah⟩,⟨ga,gn,ai⟩,⟨fa,fn,aj⟩,⟨ra,rn,ao⟩⟩) 30)) w.heap.size (ae s ⟨⟨ta,tn,ag⟩,⟨la,ln,ah⟩,⟨ga,gn,ai⟩,⟨fa,fn,aj⟩,⟨ra,rn,ao⟩⟩)):=aq.new _ _ _
 have HC:bf (w.alloc (.cells (ae s ⟨⟨ta,tn,ag⟩,⟨la,ln,ah⟩,⟨ga,gn,ai⟩,⟨fa,fn,aj⟩,⟨ra,rn,ao⟩⟩) 30)) g:=hc.keeps kZ
 have HO:Hid (ay (w.alloc (.cells (ae s ⟨⟨ta,tn,ag⟩,⟨la,ln,ah⟩,⟨ga,gn,ai⟩,⟨fa,fn,aj⟩,⟨ra,rn,ao⟩⟩) 30)) lo ⟨⟨ta,tn,ag⟩,⟨la,ln,ah⟩,⟨ga,gn,ai⟩,⟨fa,fn,aj⟩,⟨ra,rn,ao⟩⟩ vs s):=h.keeps kZ
 clear hc h
 go_enter Tryz.func55,Tryz.ntmps55
 go_upto_region 1 with fail
 change Code.wp _ _ _ _ (w.alloc (.cells (ae s ⟨⟨ta,tn,ag⟩,⟨la,ln,ah⟩,⟨ga,gn,ai⟩,⟨fa,fn,aj⟩,⟨ra,rn,ao⟩⟩) 30))
 generalize w.alloc (.cells (ae s ⟨⟨ta,tn,ag⟩,⟨la,ln,ah⟩,⟨ga,gn,ai⟩,⟨fa,fn,aj⟩,⟨ra,rn,ao⟩⟩) 30)=Z at *
 have K0:ab g Z Z:=ab.refl g Z
 have eS:w.heap.size≠g:=by omega
 have hb0:∀ w',ab g Z w'->∀ q,w'.cell? ⟨w.heap.size,q,none⟩=(ae s ⟨⟨ta,tn,ag⟩,⟨la,ln,ah⟩,⟨ga,gn,ai⟩,⟨fa,fn,aj⟩,⟨ra,rn,ao⟩⟩)[q]?:=fun w' k=>(B0.out.but k eS).cells
 dsimp only [ae] at hb0
 by_cases h0:tn=0
 ·have h0':((tn:Int)==0)=true:=by simp [h0]
  go_wp2_with (go_at_call 49;refine (cl g _ _ HC (by omega) (by omega)).mono ?_;rintro e w2 ⟨m2,rfl,m20,m21,hc2,k2⟩;have K2:ab g Z w2:=K0.trans k2)
  have hw:IntKind.i64.wrap (1+m2)=1+m2:=Go.IntWalk.i64_in _ (by omega)
  go_wp2
  go_ret
  exact ⟨_,rfl,hc2,(ab.of kZ).trans K2⟩
 have h0':((tn:Int)==0)=false:=by simp;omega
 go_upto_if 12 with (go_at_call 57;refine (lL g _ _ HC (by omega) (by omega)).mono ?_;rintro e w1 ⟨b1,rfl,hc1,k1⟩;have K1:ab g Z w1:=K0.trans k1)
 cases b1
 rotate_left
 ·go_wp2_with (go_at_call 49;refine (cl g _ _ hc1 (by omega) (by omega)).mono ?_;rintro e w2 ⟨m2,rfl,m20,m21,hc2,k2⟩;have K2:ab g Z w2:=K1.trans k2)
  have hw:IntKind.i64.wrap (1+m2)=1+m2:=Go.IntWalk.i64_in _ (by omega)
  go_wp2
  go_ret
  exact ⟨_,rfl,hc2,(ab.of kZ).trans K2⟩
 go_upto_region 3 with fail
 obtain ⟨tb,htb⟩:=HO.out.aW (k:=0) (by rw [Hn.out];omega)
 dsimp only at htb
 subst htb
 have T0:Hid (∀ (i:Nat) (x:ar),s.tasks[i]?=some x->∀ w',ab g Z w'->w'.cell? ⟨tb,i*14,none⟩=some (.int .i64 x.no)):=fun i x hi w' kk=>by
  have h1:=(HO.out.aJ (rb:=tb) rfl hi).1 0 (by omega)
  have h2:=HO.out.aG (i:=0) (b:=tb) rfl
  exact (kk.cells tb _ h2.2 (by omega)).trans h1
 have sd:1 <= (tn:Int):=by omega
 have se:(tn:Int) <= 256:=by omega
 refine wp_region_held_drew (S:=(fun w'=>ab g Z w')) (by kernel_rfl) ?_ (fun hHeld => ?_)
 ·exact K1.drew
 refine ad.go [0,1,2,3,4,5] ?_
 iterate 6 (refine aM (h := ?_);try simp only [au])
 refine ad.nil ?_
 refine aR 6 (h:=fun K hK => ?_)
 go_simp
 (go_at_call 49;refine (cl g _ _ (hc1.keeps (aa.refl _).drew) sd se).mono ?_;rintro e w3 ⟨m3,rfl,JX,JY,hc3,k3⟩;obtain ⟨j,rfl⟩:∃ j:Nat,m3=(j:Int):=⟨m3.toNat,by omega⟩;obtain ⟨x,hx⟩:=cd (xs:=s.tasks) (k:=j) (by rw [Hn.out];omega);have r0:=T0.out j x hx)
 try go_wp2_with fail
 refine hK.out _ _ ?_ fun hHeld => ?_
 ·first | assumption | exact ab.trans (by assumption) (by assumption)
 clear hK K
 try simp only [au]
 refine ad.go [7,8,9,10] ?_
 iterate 4 (refine aM (h := ?_);try simp only [au])
 refine ad.nil ?_
 refine wpAnyH_done (by kernel_rfl) ?_ _
 go_wp2
 go_ret
 exact ⟨_,rfl,hc3,(ab.of kZ).trans (by assumption)⟩
set_option linter.unusedSimpArgs false in
set_option maxHeartbeats 8000000 in
theorem sg {w:World} {g lo:Nat} {v:Sv} {vs:List Lv} {s:Sy} (hc:bf w g) (h:ay w lo v vs s) (hg:g < lo) (ht:s.tasks.length <= 256) (hcp:s.az <= 256) :
  Calls Tryz.prog 24 #[.pointer (some ⟨g,0,none⟩),.agg (ae s v)] w (Bu g w):=by
 obtain ⟨⟨ta,tn,ag⟩,⟨la,ln,ah⟩,⟨ga,gn,ai⟩,⟨fa,fn,aj⟩,⟨ra,rn,ao⟩⟩:=v
 have hgl:=hc.lt
 have Hn:Hid (s.tasks.length=tn):=(h.t.row cF).1
 have htn:tn <= 256:=by rw [<- Hn.out];exact ht
 have kZ:aa w ((w.alloc (.cells (ae s ⟨⟨ta,tn,ag⟩,⟨la,ln,ah⟩,⟨ga,gn,ai⟩,⟨fa,fn,aj⟩,⟨ra,rn,ao⟩⟩) 30)).alloc (.cells dG 32)):=((aa.refl w).alloc _).alloc _
 have B0:Hid (aq ((w.alloc (.cells (ae s ⟨⟨ta,tn,ag⟩,⟨la,ln,ah⟩,⟨ga,gn,ai⟩,⟨fa,fn,aj⟩,⟨ra,rn,ao⟩⟩) 30)).alloc (.cells dG 32)) w.heap.size (ae s ⟨⟨ta,tn,ag⟩,⟨la,ln,ah⟩,⟨ga,gn,ai⟩,⟨fa,fn,aj⟩,⟨ra,rn,ao⟩⟩)):=(aq.new _ _ _).alloc _
 have HC:bf ((w.alloc (.cells (ae s ⟨⟨ta,tn,ag⟩,⟨la,ln,ah⟩,⟨ga,gn,ai⟩,⟨fa,fn,aj⟩,⟨ra,rn,ao⟩⟩) 30)).alloc (.cells dG 32)) g:=hc.keeps kZ
 have HO:Hid (ay ((w.alloc (.cells (ae s ⟨⟨ta,tn,ag⟩,⟨la,ln,ah⟩,⟨ga,gn,ai⟩,⟨fa,fn,aj⟩,⟨ra,rn,ao⟩⟩) 30)).alloc (.cells dG 32)) lo ⟨⟨ta,tn,ag⟩,⟨la,ln,ah⟩,⟨ga,gn,ai⟩,⟨fa,fn,aj⟩,⟨ra,rn,ao⟩⟩ vs s):=h.keeps kZ
 have R0:Hid (aq ((w.alloc (.cells (ae s ⟨⟨ta,tn,ag⟩,⟨la,ln,ah⟩,⟨ga,gn,ai⟩,⟨fa,fn,aj⟩,⟨ra,rn,ao⟩⟩) 30)).alloc (.cells dG 32)) (w.heap.size+1) dG):=by
  have:=aq.new (w.alloc (.cells (ae s ⟨⟨ta,tn,ag⟩,⟨la,ln,ah⟩,⟨ga,gn,ai⟩,⟨fa,fn,aj⟩,⟨ra,rn,ao⟩⟩) 30)) dG 32
  show aq _ _ _
  simpa using this
 clear hc h
 have oW:1 <= max s.az 1:=by omega
 have oX:max s.az 1 <= 256:=by omega
 go_enter Tryz.func24,Tryz.ntmps24
 go_upto_region 1 with fail
 change Code.wp _ _ _ _ ((w.alloc (.cells (ae s ⟨⟨ta,tn,ag⟩,⟨la,ln,ah⟩,⟨ga,gn,ai⟩,⟨fa,fn,aj⟩,⟨ra,rn,ao⟩⟩) 30)).alloc (.cells dG 32))
 generalize (w.alloc (.cells (ae s ⟨⟨ta,tn,ag⟩,⟨la,ln,ah⟩,⟨ga,gn,ai⟩,⟨fa,fn,aj⟩,⟨ra,rn,ao⟩⟩) 30)).alloc (.cells dG 32)=Z at *
 have K0:ab g Z Z:=ab.refl g Z
 have eS:w.heap.size≠g:=by omega
 have hrb:w.heap.size+1≠g:=by omega
 have hb0:∀ w',ab g Z w'->∀ q,w'.cell? ⟨w.heap.size,q,none⟩=(ae s ⟨⟨ta,tn,ag⟩,⟨la,ln,ah⟩,⟨ga,gn,ai⟩,⟨fa,fn,aj⟩,⟨ra,rn,ao⟩⟩)[q]?:=fun w' k=>(B0.out.but k eS).cells
 dsimp only [ae] at hb0
 go_upto_region 2 with (go_at_call 55;refine (Bs HC HO.out hg ht).mono ?_;rintro e w1 ⟨no,rfl,hc1,k1⟩;have K1:ab g Z w1:=K0.trans k1)
 go_upto_region 3 with first
  | (go_at_call 56;refine (vu _ _ _).mono ?_;rintro e w' ⟨rfl,hw'⟩;have hw2:=hw'.symm;subst hw2)
  | (go_at_call 49;refine (cl g _ _ hc1 oW oX).mono ?_;rintro e w2 ⟨cpu,rfl,m20,m21,hc2,k2⟩;have K2:ab g Z w2:=K1.trans k2)
 clear k1 k2 K1 hc1
 go_upto_region 3 with fail
 go_cut [25] (fun b wx=>∃ t:Bool,b = .bool t /\ bf wx g /\ ab g Z wx)
 case first =>
  by_cases h3:(tn:Int) < 3
  ·have h3':decide ((tn:Int) < 3)=true:=by simpa using h3
   go_wp2
   go_meet
   exact ⟨true,rfl,hc2,K2⟩
  ·have h3':decide ((tn:Int) < 3)=false:=by simpa using h3
   go_wp2_with (go_at_call 57;refine (lL g _ _ hc2 (by omega) (by omega)).mono ?_;rintro e w4 ⟨b4,rfl,hc4,k4⟩;have K4:ab g Z w4:=K2.trans k4)
   go_meet
   exact ⟨b4,rfl,hc4,K4⟩
 case rest =>
 obtain ⟨tst,rfl,eP,K5⟩:=hcut
 generalize wc=w5 at *
 clear hc2 K2 m20 m21
 cases tst
 rotate_left
 ·go_upto_region 5 with (go_at_call 49;refine (cl g _ _ eP (by omega) (by omega)).mono ?_;rintro e w6 ⟨m6,rfl,JZ,J0,hc6,k6⟩;have K6:ab g Z w6:=K5.trans k6)
  have vv:IntKind.i64.wrap (1+m6)=1+m6:=Go.IntWalk.i64_in _ (by omega)
  go_upto_region 6 with (go_at_call 49;refine (cl g _ _ hc6 (by omega) (by omega)).mono ?_;rintro e w7 ⟨m7,rfl,J1,J2,oY,k7⟩;have K7:ab g Z w7:=K6.trans k7)
  have few:1 <= 1+m6 /\ 1+m6 <= 12:=by omega
  cases a0:(m7==0)
  ·cases a1:(m7==1)
   ·cases a2:(m7==2)
    ·go_wp2_with (go_at_call 49;refine (cl g _ _ oY (by omega) (by omega)).mono ?_;rintro e w8 ⟨m8,rfl,si,sj,hc8,k8⟩;have K8:ab g Z w8:=K7.trans k8;obtain ⟨_,d1,d2⟩:=R0.out.but K8 hrb)
     obtain ⟨D,CQ,KQ⟩:=fV R0.out hgl (by omega) (ab.of kZ) hc8 K8 ⟨3,1+m6,cpu,m8 - 4,0⟩
     change bodyPost _ _ _ _ _ (putC w8 (w.heap.size+1) 0 (cc ⟨3,1+m6,cpu,m8 - 4,0⟩).toList)
     generalize putC w8 (w.heap.size+1) 0 (cc ⟨3,1+m6,cpu,m8 - 4,0⟩).toList=Q at D CQ KQ ⊢
     exact bodyPost_ret (v:=ck ⟨3,1+m6,cpu,m8 - 4,0⟩) (by simp [results,Tryz.results24,go_sem,D.cells]) rfl ⟨⟨3,1+m6,cpu,m8 - 4,0⟩,rfl,fun _=>few,CQ,KQ⟩
    ·go_wp2_with (go_at_call 49;refine (cl g _ _ oY (by omega) (by omega)).mono ?_;rintro e w8 ⟨m8,rfl,si,sj,hc8,k8⟩;have K8:ab g Z w8:=K7.trans k8;clear oY)
     go_wp2_with (go_at_call 49;refine (cl g _ _ hc8 (by omega) (by omega)).mono ?_;rintro e w9 ⟨m9,rfl,vx,qJ,oZ,k9⟩;have K9:ab g Z w9:=K8.trans k9;obtain ⟨_,d1,d2⟩:=R0.out.but K9 hrb)
     obtain ⟨D,CQ,KQ⟩:=fV R0.out hgl (by omega) (ab.of kZ) oZ K9 ⟨2,1+m6,cpu,1+m8,m9⟩
     change bodyPost _ _ _ _ _ (putC w9 (w.heap.size+1) 0 (cc ⟨2,1+m6,cpu,1+m8,m9⟩).toList)
     generalize putC w9 (w.heap.size+1) 0 (cc ⟨2,1+m6,cpu,1+m8,m9⟩).toList=Q at D CQ KQ ⊢
     exact bodyPost_ret (v:=ck ⟨2,1+m6,cpu,1+m8,m9⟩) (by simp [results,Tryz.results24,go_sem,D.cells]) rfl ⟨⟨2,1+m6,cpu,1+m8,m9⟩,rfl,fun _=>few,CQ,KQ⟩
   ·go_upto_region 9 with (go_at_call 49;refine (cl g _ _ oY (by omega) (by omega)).mono ?_;rintro e w8 ⟨m8,rfl,si,sj,hc8,k8⟩;have K8:ab g Z w8:=K7.trans k8)
    have hq:(2+m8).tdiv 2=(2+m8) / 2:=Int.tdiv_eq_ediv_of_nonneg (by omega)
    have hq1:1 <= (2+m8).tdiv 2:=by rw [hq];omega
    have hq2:(2+m8).tdiv 2 <= 256:=by rw [hq];omega
    clear hq
    go_wp2_with (go_at_call 49;refine (cl g _ _ hc8 hq1 hq2).mono ?_;rintro e w9 ⟨m9,rfl,vx,qJ,oZ,k9⟩;have K9:ab g Z w9:=K8.trans k9;have Bv:m9 < 256:=Int.lt_of_lt_of_le qJ hq2;obtain ⟨_,d1,d2⟩:=R0.out.but K9 hrb)
    obtain ⟨D,CQ,KQ⟩:=fV R0.out hgl (by omega) (ab.of kZ) oZ K9 ⟨1,1+m6,cpu,1+m9,2+m8⟩
    change bodyPost _ _ _ _ _ (putC w9 (w.heap.size+1) 0 (cc ⟨1,1+m6,cpu,1+m9,2+m8⟩).toList)
    generalize putC w9 (w.heap.size+1) 0 (cc ⟨1,1+m6,cpu,1+m9,2+m8⟩).toList=Q at D CQ KQ ⊢
    exact bodyPost_ret (v:=ck ⟨1,1+m6,cpu,1+m9,2+m8⟩) (by simp [results,Tryz.results24,go_sem,D.cells]) rfl ⟨⟨1,1+m6,cpu,1+m9,2+m8⟩,rfl,fun _=>few,CQ,KQ⟩
  ·go_upto_region 9 with (go_at_call 49;refine (cl g _ _ oY (by omega) (by omega)).mono ?_;rintro e w8 ⟨m8,rfl,si,sj,hc8,k8⟩;have K8:ab g Z w8:=K7.trans k8)
   have hq:(2+m8).tdiv 2=(2+m8) / 2:=Int.tdiv_eq_ediv_of_nonneg (by omega)
   have hq1:1 <= (2+m8).tdiv 2:=by rw [hq];omega
   have hq2:(2+m8).tdiv 2 <= 256:=by rw [hq];omega
   clear hq
   go_wp2_with (go_at_call 49;refine (cl g _ _ hc8 hq1 hq2).mono ?_;rintro e w9 ⟨m9,rfl,vx,qJ,oZ,k9⟩;have K9:ab g Z w9:=K8.trans k9;have Bv:m9 < 256:=Int.lt_of_lt_of_le qJ hq2;obtain ⟨_,d1,d2⟩:=R0.out.but K9 hrb)
   obtain ⟨D,CQ,KQ⟩:=fV R0.out hgl (by omega) (ab.of kZ) oZ K9 ⟨1,1+m6,cpu,1+m9,2+m8⟩
   change bodyPost _ _ _ _ _ (putC w9 (w.heap.size+1) 0 (cc ⟨1,1+m6,cpu,1+m9,2+m8⟩).toList)
   generalize putC w9 (w.heap.size+1) 0 (cc ⟨1,1+m6,cpu,1+m9,2+m8⟩).toList=Q at D CQ KQ ⊢
   exact bodyPost_ret (v:=ck ⟨1,1+m6,cpu,1+m9,2+m8⟩) (by simp [results,Tryz.results24,go_sem,D.cells]) rfl ⟨⟨1,1+m6,cpu,1+m9,2+m8⟩,rfl,fun _=>few,CQ,KQ⟩
 have vy:Hid (s.ak.length=ln):=by
  obtain ⟨a,cap,e,-,-,-⟩:=HO.out.l.args
  simp only [Rw.val,Value.slice.injEq] at e
  exact e.2.1.symm
 go_wp2_with fail
 go_loopw [8] (fun i wr=>∃ k:Nat,k <= tn /\ i = .int .i64 k /\ bf wr g /\ ab g Z wr) (fun i _=>tn - (intOf i).toNat)
 case atStart=>exact ⟨0,Nat.zero_le _,rfl,eP,K5⟩
 case round =>
  obtain ⟨k,hk,rfl,hcr,Kr⟩:=hrel
  clear eP K5
  by_cases hlt:k < tn
  ·have hlt':(k:Int) < (tn:Int):=by omega
   obtain ⟨t,hkt⟩:=cd (xs:=s.tasks) (k:=k) (by rw [Hn.out];exact hlt)
   obtain ⟨tb,htb⟩:=HO.out.aW (k:=k) (by rw [Hn.out];exact hlt)
   dsimp only at htb
   subst htb
   have T3:∀ w',ab g Z w'->w'.cell? ⟨tb,k*14+3,none⟩=some (.int .i64 t.st):=fun w' kk=>(kk.cells tb _ (HO.out.aG (i:=0) (b:=tb) rfl).2 (by have:=(HO.out.aG (i:=0) (b:=tb) rfl).1;omega)).trans ((HO.out.aJ (rb:=tb) rfl hkt).1 3 (by omega))
   have T0:∀ w',ab g Z w'->w'.cell? ⟨tb,k*14,none⟩=some (.int .i64 t.no):=fun w' kk=>(kk.cells tb _ (HO.out.aG (i:=0) (b:=tb) rfl).2 (by have:=(HO.out.aG (i:=0) (b:=tb) rfl).1;omega)).trans ((HO.out.aJ (rb:=tb) rfl hkt).1 0 (by omega))
   clear hkt
   cases d1:(t.st==2)
   ·go_wp2
    exact ⟨⟨k+1,by omega,by go_num,hcr,Kr⟩,by simp only [intOf];omega⟩
   go_upto_if 79 with (go_at_call 57;refine (lL g _ _ hcr (by omega) (by omega)).mono ?_;rintro e sk ⟨b11,rfl,o9,k11⟩;have sl:ab g Z sk:=Kr.trans k11)
   cases b11
   ·go_wp2
    exact ⟨⟨k+1,by omega,by go_num,o9,sl⟩,by simp only [intOf];omega⟩
   obtain ⟨_,d1,d2⟩:=R0.out.but sl hrb
   go_wp2
   obtain ⟨D,CQ,KQ⟩:=fV R0.out hgl (by omega) (ab.of kZ) o9 sl ⟨5,t.no,0,0,0⟩
   change bodyPost _ _ _ _ _ (putC sk (w.heap.size+1) 0 (cc ⟨5,t.no,0,0,0⟩).toList)
   generalize putC sk (w.heap.size+1) 0 (cc ⟨5,t.no,0,0,0⟩).toList=Q at D CQ KQ ⊢
   exact bodyPost_ret (v:=ck ⟨5,t.no,0,0,0⟩) (by simp [results,Tryz.results24,go_sem,D.cells]) rfl ⟨⟨5,t.no,0,0,0⟩,rfl,(fun h=>by dsimp only at h;omega),CQ,KQ⟩
  ·have hlt':decide ((k:Int) < (tn:Int))=false:=by simp;omega
   go_upto_region 19 with (go_at_call 49;refine (cl g _ _ hcr (by omega) (by omega)).mono ?_;rintro e jT ⟨m12,rfl,Bw,Bx,fp,k12⟩;have gS:ab g Z jT:=Kr.trans k12)
   cases q0:(m12==0)
   rotate_left
   ·obtain ⟨_,d1,d2⟩:=R0.out.but gS hrb
    go_wp2
    obtain ⟨D,CQ,KQ⟩:=fV R0.out hgl (by omega) (ab.of kZ) fp gS ⟨4,no,0,0,0⟩
    change bodyPost _ _ _ _ _ (putC jT (w.heap.size+1) 0 (cc ⟨4,no,0,0,0⟩).toList)
    generalize putC jT (w.heap.size+1) 0 (cc ⟨4,no,0,0,0⟩).toList=Q at D CQ KQ ⊢
    exact bodyPost_ret (v:=ck ⟨4,no,0,0,0⟩) (by simp [results,Tryz.results24,go_sem,D.cells]) rfl ⟨⟨4,no,0,0,0⟩,rfl,(fun h=>by dsimp only at h;omega),CQ,KQ⟩
   cases q1:(m12==1)
   rotate_left
   ·obtain ⟨_,d1,d2⟩:=R0.out.but gS hrb
    go_wp2
    obtain ⟨D,CQ,KQ⟩:=fV R0.out hgl (by omega) (ab.of kZ) fp gS ⟨4,no,0,0,0⟩
    change bodyPost _ _ _ _ _ (putC jT (w.heap.size+1) 0 (cc ⟨4,no,0,0,0⟩).toList)
    generalize putC jT (w.heap.size+1) 0 (cc ⟨4,no,0,0,0⟩).toList=Q at D CQ KQ ⊢
    exact bodyPost_ret (v:=ck ⟨4,no,0,0,0⟩) (by simp [results,Tryz.results24,go_sem,D.cells]) rfl ⟨⟨4,no,0,0,0⟩,rfl,(fun h=>by dsimp only at h;omega),CQ,KQ⟩
   cases q2:(m12==2)
   rotate_left
   ·obtain ⟨_,d1,d2⟩:=R0.out.but gS hrb
    go_wp2
    obtain ⟨D,CQ,KQ⟩:=fV R0.out hgl (by omega) (ab.of kZ) fp gS ⟨5,no,0,0,0⟩
    change bodyPost _ _ _ _ _ (putC jT (w.heap.size+1) 0 (cc ⟨5,no,0,0,0⟩).toList)
    generalize putC jT (w.heap.size+1) 0 (cc ⟨5,no,0,0,0⟩).toList=Q at D CQ KQ ⊢
    exact bodyPost_ret (v:=ck ⟨5,no,0,0,0⟩) (by simp [results,Tryz.results24,go_sem,D.cells]) rfl ⟨⟨5,no,0,0,0⟩,rfl,(fun h=>by dsimp only at h;omega),CQ,KQ⟩
   cases q3:(m12==3)
   rotate_left
   ·obtain ⟨_,d1,d2⟩:=R0.out.but gS hrb
    go_wp2
    obtain ⟨D,CQ,KQ⟩:=fV R0.out hgl (by omega) (ab.of kZ) fp gS ⟨6,no,0,0,0⟩
    change bodyPost _ _ _ _ _ (putC jT (w.heap.size+1) 0 (cc ⟨6,no,0,0,0⟩).toList)
    generalize putC jT (w.heap.size+1) 0 (cc ⟨6,no,0,0,0⟩).toList=Q at D CQ KQ ⊢
    exact bodyPost_ret (v:=ck ⟨6,no,0,0,0⟩) (by simp [results,Tryz.results24,go_sem,D.cells]) rfl ⟨⟨6,no,0,0,0⟩,rfl,(fun h=>by dsimp only at h;omega),CQ,KQ⟩
   cases q4:(m12==4)
   rotate_left
   ·go_wp2_with (go_at_call 49;refine (cl g _ _ fp (by omega) (by omega)).mono ?_;rintro e ei ⟨m13,rfl,ja,jb,eo,k13⟩;have fE:ab g Z ei:=gS.trans k13;obtain ⟨_,d1,d2⟩:=R0.out.but fE hrb)
    obtain ⟨D,CQ,KQ⟩:=fV R0.out hgl (by omega) (ab.of kZ) eo fE ⟨7,no,0,m13,0⟩
    change bodyPost _ _ _ _ _ (putC ei (w.heap.size+1) 0 (cc ⟨7,no,0,m13,0⟩).toList)
    generalize putC ei (w.heap.size+1) 0 (cc ⟨7,no,0,m13,0⟩).toList=Q at D CQ KQ ⊢
    exact bodyPost_ret (v:=ck ⟨7,no,0,m13,0⟩) (by simp [results,Tryz.results24,go_sem,D.cells]) rfl ⟨⟨7,no,0,m13,0⟩,rfl,(fun h=>by dsimp only at h;omega),CQ,KQ⟩
   cases q5:(m12==5)
   rotate_left
   ·go_wp2_with (go_at_call 49;refine (cl g _ _ fp (by omega) (by omega)).mono ?_;rintro e ei ⟨m13,rfl,ja,jb,eo,k13⟩;have fE:ab g Z ei:=gS.trans k13;obtain ⟨_,d1,d2⟩:=R0.out.but fE hrb)
    obtain ⟨D,CQ,KQ⟩:=fV R0.out hgl (by omega) (ab.of kZ) eo fE ⟨7,no,0,m13,0⟩
    change bodyPost _ _ _ _ _ (putC ei (w.heap.size+1) 0 (cc ⟨7,no,0,m13,0⟩).toList)
    generalize putC ei (w.heap.size+1) 0 (cc ⟨7,no,0,m13,0⟩).toList=Q at D CQ KQ ⊢
    exact bodyPost_ret (v:=ck ⟨7,no,0,m13,0⟩) (by simp [results,Tryz.results24,go_sem,D.cells]) rfl ⟨⟨7,no,0,m13,0⟩,rfl,(fun h=>by dsimp only at h;omega),CQ,KQ⟩
   cases q6:(m12==6)
   rotate_left
   ·go_wp2_with (go_at_call 49;refine (cl g _ _ fp (by omega) (by omega)).mono ?_;rintro e ei ⟨m13,rfl,ja,jb,eo,k13⟩;have fE:ab g Z ei:=gS.trans k13;obtain ⟨_,d1,d2⟩:=R0.out.but fE hrb)
    obtain ⟨D,CQ,KQ⟩:=fV R0.out hgl (by omega) (ab.of kZ) eo fE ⟨7,no,0,m13,0⟩
    change bodyPost _ _ _ _ _ (putC ei (w.heap.size+1) 0 (cc ⟨7,no,0,m13,0⟩).toList)
    generalize putC ei (w.heap.size+1) 0 (cc ⟨7,no,0,m13,0⟩).toList=Q at D CQ KQ ⊢
    exact bodyPost_ret (v:=ck ⟨7,no,0,m13,0⟩) (by simp [results,Tryz.results24,go_sem,D.cells]) rfl ⟨⟨7,no,0,m13,0⟩,rfl,(fun h=>by dsimp only at h;omega),CQ,KQ⟩
   cases q7:(m12==7)
   rotate_left
   ·go_upto_region 33 with (go_at_call 49;refine (cl g _ _ fp (by omega) (by omega)).mono ?_;rintro e ei ⟨m13,rfl,ja,jb,eo,k13⟩;have fE:ab g Z ei:=gS.trans k13)
    obtain ⟨_,d1,d2⟩:=R0.out.but fE hrb
    obtain ⟨j,rfl⟩:∃ j:Nat,m13=(j:Int):=⟨m13.toNat,by omega⟩
    by_cases hl3:(3:Int) < (ln:Int)
    ·obtain ⟨l,jx⟩:=cd (xs:=s.ak) (k:=j) (by rw [vy.out];omega)
     obtain ⟨lb,hlb,LC⟩:=HO.out.jU jx
     dsimp only at hlb
     subst hlb
     have LB:∀ w',ab g Z w'->w'.cell? ⟨lb,j*2,none⟩=some (.int .i64 l.owner):=fun w' kk=>(kk.cells lb _ LC.2.2 (by have:=LC.2.1;omega)).trans LC.1
     have hjl:(j:Int) < (ln:Int):=by omega
     clear LC jx
     by_cases hlo:0 < l.owner
     ·go_wp2
      obtain ⟨D,CQ,KQ⟩:=fV R0.out hgl (by omega) (ab.of kZ) eo fE ⟨8,l.owner,0,j,0⟩
      change bodyPost _ _ _ _ _ (putC ei (w.heap.size+1) 0 (cc ⟨8,l.owner,0,j,0⟩).toList)
      generalize putC ei (w.heap.size+1) 0 (cc ⟨8,l.owner,0,j,0⟩).toList=Q at D CQ KQ ⊢
      exact bodyPost_ret (v:=ck ⟨8,l.owner,0,j,0⟩) (by simp [results,Tryz.results24,go_sem,D.cells]) rfl ⟨⟨8,l.owner,0,j,0⟩,rfl,(fun h=>by dsimp only at h;omega),CQ,KQ⟩
     ·go_wp2
      obtain ⟨D,CQ,KQ⟩:=fV R0.out hgl (by omega) (ab.of kZ) eo fE ⟨8,no,0,j,0⟩
      change bodyPost _ _ _ _ _ (putC ei (w.heap.size+1) 0 (cc ⟨8,no,0,j,0⟩).toList)
      generalize putC ei (w.heap.size+1) 0 (cc ⟨8,no,0,j,0⟩).toList=Q at D CQ KQ ⊢
      exact bodyPost_ret (v:=ck ⟨8,no,0,j,0⟩) (by simp [results,Tryz.results24,go_sem,D.cells]) rfl ⟨⟨8,no,0,j,0⟩,rfl,(fun h=>by dsimp only at h;omega),CQ,KQ⟩
    ·go_wp2
     obtain ⟨D,CQ,KQ⟩:=fV R0.out hgl (by omega) (ab.of kZ) eo fE ⟨8,no,0,j,0⟩
     change bodyPost _ _ _ _ _ (putC ei (w.heap.size+1) 0 (cc ⟨8,no,0,j,0⟩).toList)
     generalize putC ei (w.heap.size+1) 0 (cc ⟨8,no,0,j,0⟩).toList=Q at D CQ KQ ⊢
     exact bodyPost_ret (v:=ck ⟨8,no,0,j,0⟩) (by simp [results,Tryz.results24,go_sem,D.cells]) rfl ⟨⟨8,no,0,j,0⟩,rfl,(fun h=>by dsimp only at h;omega),CQ,KQ⟩
   cases q8:(m12==8)
   rotate_left
   ·go_upto_region 33 with (go_at_call 49;refine (cl g _ _ fp (by omega) (by omega)).mono ?_;rintro e ei ⟨m13,rfl,ja,jb,eo,k13⟩;have fE:ab g Z ei:=gS.trans k13)
    obtain ⟨_,d1,d2⟩:=R0.out.but fE hrb
    obtain ⟨j,rfl⟩:∃ j:Nat,m13=(j:Int):=⟨m13.toNat,by omega⟩
    by_cases hl3:(3:Int) < (ln:Int)
    ·obtain ⟨l,jx⟩:=cd (xs:=s.ak) (k:=j) (by rw [vy.out];omega)
     obtain ⟨lb,hlb,LC⟩:=HO.out.jU jx
     dsimp only at hlb
     subst hlb
     have LB:∀ w',ab g Z w'->w'.cell? ⟨lb,j*2,none⟩=some (.int .i64 l.owner):=fun w' kk=>(kk.cells lb _ LC.2.2 (by have:=LC.2.1;omega)).trans LC.1
     have hjl:(j:Int) < (ln:Int):=by omega
     clear LC jx
     by_cases hlo:0 < l.owner
     ·go_wp2
      obtain ⟨D,CQ,KQ⟩:=fV R0.out hgl (by omega) (ab.of kZ) eo fE ⟨8,l.owner,0,j,0⟩
      change bodyPost _ _ _ _ _ (putC ei (w.heap.size+1) 0 (cc ⟨8,l.owner,0,j,0⟩).toList)
      generalize putC ei (w.heap.size+1) 0 (cc ⟨8,l.owner,0,j,0⟩).toList=Q at D CQ KQ ⊢
      exact bodyPost_ret (v:=ck ⟨8,l.owner,0,j,0⟩) (by simp [results,Tryz.results24,go_sem,D.cells]) rfl ⟨⟨8,l.owner,0,j,0⟩,rfl,(fun h=>by dsimp only at h;omega),CQ,KQ⟩
     ·go_wp2
      obtain ⟨D,CQ,KQ⟩:=fV R0.out hgl (by omega) (ab.of kZ) eo fE ⟨8,no,0,j,0⟩
      change bodyPost _ _ _ _ _ (putC ei (w.heap.size+1) 0 (cc ⟨8,no,0,j,0⟩).toList)
      generalize putC ei (w.heap.size+1) 0 (cc ⟨8,no,0,j,0⟩).toList=Q at D CQ KQ ⊢
      exact bodyPost_ret (v:=ck ⟨8,no,0,j,0⟩) (by simp [results,Tryz.results24,go_sem,D.cells]) rfl ⟨⟨8,no,0,j,0⟩,rfl,(fun h=>by dsimp only at h;omega),CQ,KQ⟩
    ·go_wp2
     obtain ⟨D,CQ,KQ⟩:=fV R0.out hgl (by omega) (ab.of kZ) eo fE ⟨8,no,0,j,0⟩
     change bodyPost _ _ _ _ _ (putC ei (w.heap.size+1) 0 (cc ⟨8,no,0,j,0⟩).toList)
     generalize putC ei (w.heap.size+1) 0 (cc ⟨8,no,0,j,0⟩).toList=Q at D CQ KQ ⊢
     exact bodyPost_ret (v:=ck ⟨8,no,0,j,0⟩) (by simp [results,Tryz.results24,go_sem,D.cells]) rfl ⟨⟨8,no,0,j,0⟩,rfl,(fun h=>by dsimp only at h;omega),CQ,KQ⟩
   cases q9:(m12==9)
   rotate_left
   ·go_wp2_with (go_at_call 49;refine (cl g _ _ fp (by omega) (by omega)).mono ?_;rintro e ei ⟨m13,rfl,ja,jb,eo,k13⟩;have fE:ab g Z ei:=gS.trans k13;obtain ⟨_,d1,d2⟩:=R0.out.but fE hrb)
    obtain ⟨D,CQ,KQ⟩:=fV R0.out hgl (by omega) (ab.of kZ) eo fE ⟨9,no,0,m13 - 4,0⟩
    change bodyPost _ _ _ _ _ (putC ei (w.heap.size+1) 0 (cc ⟨9,no,0,m13 - 4,0⟩).toList)
    generalize putC ei (w.heap.size+1) 0 (cc ⟨9,no,0,m13 - 4,0⟩).toList=Q at D CQ KQ ⊢
    exact bodyPost_ret (v:=ck ⟨9,no,0,m13 - 4,0⟩) (by simp [results,Tryz.results24,go_sem,D.cells]) rfl ⟨⟨9,no,0,m13 - 4,0⟩,rfl,(fun h=>by dsimp only at h;omega),CQ,KQ⟩
   cases J3:(m12==10)
   rotate_left
   ·obtain ⟨_,d1,d2⟩:=R0.out.but gS hrb
    go_wp2
    obtain ⟨D,CQ,KQ⟩:=fV R0.out hgl (by omega) (ab.of kZ) fp gS ⟨10,no,cpu,0,0⟩
    change bodyPost _ _ _ _ _ (putC jT (w.heap.size+1) 0 (cc ⟨10,no,cpu,0,0⟩).toList)
    generalize putC jT (w.heap.size+1) 0 (cc ⟨10,no,cpu,0,0⟩).toList=Q at D CQ KQ ⊢
    exact bodyPost_ret (v:=ck ⟨10,no,cpu,0,0⟩) (by simp [results,Tryz.results24,go_sem,D.cells]) rfl ⟨⟨10,no,cpu,0,0⟩,rfl,(fun h=>by dsimp only at h;omega),CQ,KQ⟩
   go_wp2_with (go_at_call 49;refine (cl g _ _ fp (by omega) (by omega)).mono ?_;rintro e ei ⟨m13,rfl,ja,jb,eo,k13⟩;have fE:ab g Z ei:=gS.trans k13;obtain ⟨_,d1,d2⟩:=R0.out.but fE hrb)
   obtain ⟨D,CQ,KQ⟩:=fV R0.out hgl (by omega) (ab.of kZ) eo fE ⟨11,0,0,1+m13,0⟩
   change bodyPost _ _ _ _ _ (putC ei (w.heap.size+1) 0 (cc ⟨11,0,0,1+m13,0⟩).toList)
   generalize putC ei (w.heap.size+1) 0 (cc ⟨11,0,0,1+m13,0⟩).toList=Q at D CQ KQ ⊢
   exact bodyPost_ret (v:=ck ⟨11,0,0,1+m13,0⟩) (by simp [results,Tryz.results24,go_sem,D.cells]) rfl ⟨⟨11,0,0,1+m13,0⟩,rfl,(fun h=>by dsimp only at h;omega),CQ,KQ⟩
end Go.Proofs.YteagpjlgjfaclaaGreatDoor
