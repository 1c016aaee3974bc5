/-
  Ticks: so many of them.
  Calls: what is done of a right call: tasks that are made, t
-/
import Derived.Test.YteagpjlgjfaclaaGreatDoorSysTick
import Derived.Test.YteagpjlgjfaclaaGreatDoorCallDo0
import Derived.Test.YteagpjlgjfaclaaGreatDoorCallNew
namespace Go.Proofs.YteagpjlgjfaclaaGreatDoor
set_option maxRecDepth 100000
open Go.RowKit
attribute [local go_sem] aa.refl aa.alloc aa.drew aa.drewN
def mg (s:Sy) (n:Int):Sy:=if bf s then (f8 s n.toNat).1 else Sy.zero
def mU (s:Sy) (n:Int):Int:=if bf s then ((f8 s n.toNat).2:Int) else 0
theorem Ed {s:Sy} (h:iI s=true):bf s=true /\ s.now < 100000 /\ 0 <= s.now:=by
 have h0:=h
 unfold iI at h
 simp only [Bool.and_eq_true,Bool.not_eq_true',beq_eq_false_iff_ne,ne_eq] at h
 have:=(kp.1 h.1).now
 exact ⟨h.1,by omega,this.1⟩
theorem zV {s:Sy} (h:iI s=true):(dW s).now=s.now+1 /\ bV (dW s) <= 1600:=by
 have R:=kp.1 (Ed h).1
 have e:dW s=qW (eL (gS (fP (fZ s))) s.az.toNat):=by unfold dW;rw [h];rfl
 obtain ⟨t1,t2,t3,t4,t5⟩:=qX (gS (fP (fZ s))) s.az.toNat
 have h1:=DI s
 have h2:=R.small
 have h3:=R.az
 rw [DM,DJ] at t3
 rw [e]
 refine ⟨?_,?_⟩
 ·show (eL (gS (fP (fZ s))) s.az.toNat).now+1=_
  rw [t2];rfl
 ·show bV (eL (gS (fP (fZ s))) s.az.toNat) <= _
  omega
set_option maxHeartbeats 4000000 in
theorem OI {w:World} {v:Sv} {s:Sy} (h:aA w v s) (n:Int) :
  Calls Tryz.prog 83 #[.agg (ae s v),.int .i64 n] w fun e w'=>∃ v' vs',e = .returned (.tuple #[.agg (ae (mg s n) v'),.int .i64 (mU s n)]) /\ ay w' w.heap.size v' vs' (mg s n) /\ aa w w':=by
 obtain ⟨⟨ta,tn,ak⟩,⟨la,ln,aj⟩,⟨ga,gn,ao⟩,⟨fa,fn,aq⟩,⟨ra,rn,au⟩⟩:=v
 have kZ:aa w ((w.alloc (.cells (ae s ⟨⟨ta,tn,ak⟩,⟨la,ln,aj⟩,⟨ga,gn,ao⟩,⟨fa,fn,aq⟩,⟨ra,rn,au⟩⟩) 30)).alloc (.cells zc 30)):=((aa.refl w).alloc _).alloc _
 have B0:Hid (ai ((w.alloc (.cells (ae s ⟨⟨ta,tn,ak⟩,⟨la,ln,aj⟩,⟨ga,gn,ao⟩,⟨fa,fn,aq⟩,⟨ra,rn,au⟩⟩) 30)).alloc (.cells zc 30)) w.heap.size (ae s ⟨⟨ta,tn,ak⟩,⟨la,ln,aj⟩,⟨ga,gn,ao⟩,⟨fa,fn,aq⟩,⟨ra,rn,au⟩⟩)):=(ai.new _ _ _).alloc _
 have R0:Hid (ai ((w.alloc (.cells (ae s ⟨⟨ta,tn,ak⟩,⟨la,ln,aj⟩,⟨ga,gn,ao⟩,⟨fa,fn,aq⟩,⟨ra,rn,au⟩⟩) 30)).alloc (.cells zc 30)) (w.heap.size+1) zc):=by
  have:=ai.new (w.alloc (.cells (ae s ⟨⟨ta,tn,ak⟩,⟨la,ln,aj⟩,⟨ga,gn,ao⟩,⟨fa,fn,aq⟩,⟨ra,rn,au⟩⟩) 30)) zc 30
  show ai _ _ _
  simpa using this
 have hz:Hid (((w.alloc (.cells (ae s ⟨⟨ta,tn,ak⟩,⟨la,ln,aj⟩,⟨ga,gn,ao⟩,⟨fa,fn,aq⟩,⟨ra,rn,au⟩⟩) 30)).alloc (.cells zc 30)).heap.size=w.heap.size+2):=by show _=_;simp
 have HS:Hid (aA ((w.alloc (.cells (ae s ⟨⟨ta,tn,ak⟩,⟨la,ln,aj⟩,⟨ga,gn,ao⟩,⟨fa,fn,aq⟩,⟨ra,rn,au⟩⟩) 30)).alloc (.cells zc 30)) ⟨⟨ta,tn,ak⟩,⟨la,ln,aj⟩,⟨ga,gn,ao⟩,⟨fa,fn,aq⟩,⟨ra,rn,au⟩⟩ s):=h.keeps kZ
 clear h
 go_enter Tryz.func83,Tryz.ntmps83
 go_wp2_with fail
 change Calls _ _ _ ((w.alloc (.cells (ae s ⟨⟨ta,tn,ak⟩,⟨la,ln,aj⟩,⟨ga,gn,ao⟩,⟨fa,fn,aq⟩,⟨ra,rn,au⟩⟩) 30)).alloc (.cells zc 30)) _
 generalize (w.alloc (.cells (ae s ⟨⟨ta,tn,ak⟩,⟨la,ln,aj⟩,⟨ga,gn,ao⟩,⟨fa,fn,aq⟩,⟨ra,rn,au⟩⟩) 30)).alloc (.cells zc 30)=Z at *
 refine (tj HS.out).mono ?_
 rintro e w1 ⟨rfl,k1⟩
 have hb0:∀ w',aa Z w'->∀ j,w'.cell? ⟨w.heap.size,j,none⟩=(ae s ⟨⟨ta,tn,ak⟩,⟨la,ln,aj⟩,⟨ga,gn,ao⟩,⟨fa,fn,aq⟩,⟨ra,rn,au⟩⟩)[j]?:=fun w' k=>(B0.out.keeps k).cells
 dsimp only [ae] at hb0
 cases hb:bf s
 ·have jJ:Hid (mU s n=0):=by show _=_;unfold mU;rw [hb];rfl
  have HT:Hid (mg s n=Sy.zero):=by show _=_;unfold mg;rw [hb];rfl
  obtain ⟨_,r1,r2⟩:=R0.out.keeps k1
  go_wp2
  have D:=(R0.out.keeps k1).putC zc.toList rfl
  have KQ:=aa.putC (b:=w.heap.size+1) (by omega) zc.toList 0 (kZ.trans k1)
  change bodyPost _ _ _ _ _ (putC w1 (w.heap.size+1) 0 zc.toList)
  generalize putC w1 (w.heap.size+1) 0 zc.toList=Q at D KQ ⊢
  exact bodyPost_ret (v := .tuple #[.agg zc,.int .i64 0]) (by simp [results,Tryz.results83,go_sem,D.cells]) rfl (by rw [HT.out,jJ.out];first | exact ⟨Sv.zero,[],rfl,ay.nothing _ _,KQ⟩ | exact ⟨Sv.zero,rfl,⟨[],ay.nothing _ _⟩,KQ⟩)
 have R:=kp.1 hb
 have hsm:bV s <= 1500:=R.small
 obtain ⟨hn0,hn1⟩:=R.now
 have HT0:Hid (mg s n=(f8 s n.toNat).1):=by show _=_;unfold mg;rw [hb];rfl
 have ee:Hid (mU s n=((f8 s n.toNat).2:Int)):=by show _=_;unfold mU;rw [hb];rfl
 clear R
 go_wp2_with fail
 refine (pK (HS.out.keeps k1)).mono ?_
 rintro e w2 ⟨vo,cQ,rfl,o2,k2⟩
 obtain ⟨⟨cy,bY,aB⟩,⟨bq,br,aC⟩,⟨cz,cB,aL⟩,⟨bu,fn',aD⟩,⟨bz,bA,aE⟩⟩:=vo
 have O2:Hid (ay w2 w1.heap.size ⟨⟨cy,bY,aB⟩,⟨bq,br,aC⟩,⟨cz,cB,aL⟩,⟨bu,fn',aD⟩,⟨bz,bA,aE⟩⟩ cQ s):=o2
 have mf:Hid (aa Z w2):=k1.trans k2
 have hZ1:Hid (Z.heap.size <= w1.heap.size):=k1.size
 have g0:=aP.start o2 k2.size
 clear o2
 go_wp2
 change Code.wp _ _ _ _ (w2.alloc (.cells (ae s ⟨⟨cy,bY,aB⟩,⟨bq,br,aC⟩,⟨cz,cB,aL⟩,⟨bu,fn',aD⟩,⟨bz,bA,aE⟩⟩) 30))
 generalize w2.alloc (.cells (ae s ⟨⟨cy,bY,aB⟩,⟨bq,br,aC⟩,⟨cz,cB,aL⟩,⟨bu,fn',aD⟩,⟨bz,bA,aE⟩⟩) 30)=X0 at *
 generalize w2.heap.size=ob at *
 have G0:Hid (aP w2 w1.heap.size ⟨⟨cy,bY,aB⟩,⟨bq,br,aC⟩,⟨cz,cB,aL⟩,⟨bu,fn',aD⟩,⟨bz,bA,aE⟩⟩ cQ X0 ob ⟨⟨cy,bY,aB⟩,⟨bq,br,aC⟩,⟨cz,cB,aL⟩,⟨bu,fn',aD⟩,⟨bz,bA,aE⟩⟩ cQ s):=g0
 clear g0 k1 k2
 go_loopw [7] (fun i wr=>∃ (k:Nat) (v5:Sv) (fS:List Lv) (T:Sy),i = .int .i64 k /\ k <= n.toNat /\ T.now=s.now+k /\ T.now <= 100000 /\ bV T <= 1600 /\ Hid (aP w2 w1.heap.size ⟨⟨cy,bY,aB⟩,⟨bq,br,aC⟩,⟨cz,cB,aL⟩,⟨bu,fn',aD⟩,⟨bz,bA,aE⟩⟩ cQ wr ob v5 fS T) /\ Hid ((f8 s n.toNat)=((f8 T (n.toNat - k)).1,(f8 T (n.toNat - k)).2+k))) (fun i _=>200000 - (intOf i).toNat)
 case atStart=>exact ⟨0,_,cQ,s,rfl,Nat.zero_le _,by simp,hn1,by omega,G0,by show _=_;simp⟩
 case round =>
  obtain ⟨k,⟨⟨yA,yB,bH⟩,⟨yD,yE,bI⟩,⟨yG,yH,bJ⟩,⟨yJ,yK,bK⟩,⟨yM,yN,bL⟩⟩,fS,T,rfl,hk,xV,P8,hTs,G,HI⟩:=hrel
  clear G0
  have xW:Hid (T.now=s.now+k):=xV
  have hk1:k <= 100000:=by omega
  by_cases hlt:(k:Int) < n
  ·obtain ⟨m,Hm⟩:∃ m,Hid (n.toNat - k=m+1):=⟨n.toNat - k - 1,by show _=_;omega⟩
   obtain ⟨_,o1,o2⟩:=G.out.var.box
   dsimp only [ae] at o1
   obtain ⟨tb,sw⟩:∃ b,Hid (iI T=b):=⟨_,rfl⟩
   have CT:Hid (Calls Tryz.prog 146 #[.agg (ae T ⟨⟨yA,yB,bH⟩,⟨yD,yE,bI⟩,⟨yG,yH,bJ⟩,⟨yJ,yK,bK⟩,⟨yM,yN,bL⟩⟩)] wr fun e w'=>∃ v' vs',e = .returned (.tuple #[.agg (ae (dW T) v'),.bool tb]) /\ ay w' wr.heap.size v' vs' (dW T) /\ aa wr w'):=by
    have h1:=Og (G.out.var.own.on (by omega))
    rw [sw.out] at h1
    exact h1
   dsimp only [ae] at CT
   clear xV
   go_wp2_with fail
   refine CT.out.mono ?_
   rintro e w7 ⟨⟨⟨bM,bN,dv⟩,⟨bG,bE,dw⟩,⟨bO,bP,dx⟩,⟨fa6,bQ,dy⟩,⟨bR,bS,dz⟩⟩,fh,rfl,O7,k7⟩
   have KN:aa wr (w7.alloc (.cells (ae (dW T) ⟨⟨bM,bN,dv⟩,⟨bG,bE,dw⟩,⟨bO,bP,dx⟩,⟨fa6,bQ,dy⟩,⟨bR,bS,dz⟩⟩) 30)):=k7.alloc _
   have NB:Hid (ai (w7.alloc (.cells (ae (dW T) ⟨⟨bM,bN,dv⟩,⟨bG,bE,dw⟩,⟨bO,bP,dx⟩,⟨fa6,bQ,dy⟩,⟨bR,bS,dz⟩⟩) 30)) w7.heap.size (ae (dW T) ⟨⟨bM,bN,dv⟩,⟨bG,bE,dw⟩,⟨bO,bP,dx⟩,⟨fa6,bQ,dy⟩,⟨bR,bS,dz⟩⟩)):=ai.new _ _ _
   have GN:Hid (Goes wr w1.heap.size ⟨⟨yA,yB,bH⟩,⟨yD,yE,bI⟩,⟨yG,yH,bJ⟩,⟨yJ,yK,bK⟩,⟨yM,yN,bL⟩⟩ fS (w7.alloc (.cells (ae (dW T) ⟨⟨bM,bN,dv⟩,⟨bG,bE,dw⟩,⟨bO,bP,dx⟩,⟨fa6,bQ,dy⟩,⟨bR,bS,dz⟩⟩) 30)) ⟨⟨bM,bN,dv⟩,⟨bG,bE,dw⟩,⟨bO,bP,dx⟩,⟨fa6,bQ,dy⟩,⟨bR,bS,dz⟩⟩ fh (dW T)):=(Goes.fresh O7 k7 (by have:=G.out.var.gI;have:=G.out.var.box.lt;omega)).behind ((aa.refl _).alloc _)
   clear o1 o2 O7 k7 CT
   go_upto_region 7 with fail
   change Code.wp _ _ _ _ (w7.alloc (.cells (ae (dW T) ⟨⟨bM,bN,dv⟩,⟨bG,bE,dw⟩,⟨bO,bP,dx⟩,⟨fa6,bQ,dy⟩,⟨bR,bS,dz⟩⟩) 30))
   generalize w7.alloc (.cells (ae (dW T) ⟨⟨bM,bN,dv⟩,⟨bG,bE,dw⟩,⟨bO,bP,dx⟩,⟨fa6,bQ,dy⟩,⟨bR,bS,dz⟩⟩) 30)=X at *
   generalize w7.heap.size=nb at *
   cases tb
   ·have E1:f8 T (n.toNat - k)=(T,0):=by rw [Hm.out];simp [f8,sw.out]
    have HT:Hid (mg s n=T):=by show _=_;rw [HT0.out,HI.out,E1]
    have HN:Hid (mU s n=(k:Int)):=by show _=_;rw [ee.out,HI.out,E1];simp
    have GX:Hid (aP w2 w1.heap.size ⟨⟨cy,bY,aB⟩,⟨bq,br,aC⟩,⟨cz,cB,aL⟩,⟨bu,fn',aD⟩,⟨bz,bA,aE⟩⟩ cQ X ob ⟨⟨yA,yB,bH⟩,⟨yD,yE,bI⟩,⟨yG,yH,bJ⟩,⟨yJ,yK,bK⟩,⟨yM,yN,bL⟩⟩ fS T):=G.out.keeps KN
    clear E1 G GN NB KN
    have KX:aa Z X:=GX.out.eP O2.out mf.out hZ1.out
    obtain ⟨_,o1,o2⟩:=GX.out.var.box
    dsimp only [ae] at o1
    obtain ⟨_,r1,r2⟩:=R0.out.keeps KX
    go_wp2
    have D:=(R0.out.keeps KX).putC (ae (T:Sy) ⟨⟨yA,yB,bH⟩,⟨yD,yE,bI⟩,⟨yG,yH,bJ⟩,⟨yJ,yK,bK⟩,⟨yM,yN,bL⟩⟩).toList rfl
    have KQ:=aa.putC (b:=w.heap.size+1) (by omega) (ae (T:Sy) ⟨⟨yA,yB,bH⟩,⟨yD,yE,bI⟩,⟨yG,yH,bJ⟩,⟨yJ,yK,bK⟩,⟨yM,yN,bL⟩⟩).toList 0 (kZ.trans KX)
    have SQ:ay (putC X (w.heap.size+1) 0 (ae (T:Sy) ⟨⟨yA,yB,bH⟩,⟨yD,yE,bI⟩,⟨yG,yH,bJ⟩,⟨yJ,yK,bK⟩,⟨yM,yN,bL⟩⟩).toList) w.heap.size ⟨⟨yA,yB,bH⟩,⟨yD,yE,bI⟩,⟨yG,yH,bJ⟩,⟨yJ,yK,bK⟩,⟨yM,yN,bL⟩⟩ fS (T):=(ay.aU (c:=w.heap.size+1) (fun i hi=>by have:=(GX.out.var.own.aG hi).1;have:=hz.out;have:=hZ1.out;omega) _ _ GX.out.var.own).base (by have:=hz.out;have:=hZ1.out;omega)
    change bodyPost _ _ _ _ _ (putC X (w.heap.size+1) 0 (ae (T:Sy) ⟨⟨yA,yB,bH⟩,⟨yD,yE,bI⟩,⟨yG,yH,bJ⟩,⟨yJ,yK,bK⟩,⟨yM,yN,bL⟩⟩).toList)
    generalize putC X (w.heap.size+1) 0 (ae (T:Sy) ⟨⟨yA,yB,bH⟩,⟨yD,yE,bI⟩,⟨yG,yH,bJ⟩,⟨yJ,yK,bK⟩,⟨yM,yN,bL⟩⟩).toList=Q at D KQ SQ ⊢
    exact bodyPost_ret (v := .tuple #[.agg (ae (T:Sy) ⟨⟨yA,yB,bH⟩,⟨yD,yE,bI⟩,⟨yG,yH,bJ⟩,⟨yJ,yK,bK⟩,⟨yM,yN,bL⟩⟩),.int .i64 k]) (by simp [results,Tryz.results83,go_sem,D.cells]) rfl (by rw [HT.out,HN.out];first | exact ⟨_,fS,rfl,SQ,KQ⟩ | exact ⟨_,rfl,⟨_,SQ⟩,KQ⟩)
   ·have hf:=zV sw.out
    have hn2:=(Ed sw.out).2
    have HI2:Hid (f8 s n.toNat=((f8 (dW T) (n.toNat - (k+1))).1,(f8 (dW T) (n.toNat - (k+1))).2+(k+1))):=by
     show _=_
     rw [HI.out,Hm.out,show n.toNat - (k+1)=m from by have:=Hm.out;omega]
     simp only [f8,sw.out,if_true]
     congr 1
     omega
    have G9:Hid (aP w2 w1.heap.size ⟨⟨cy,bY,aB⟩,⟨bq,br,aC⟩,⟨cz,cB,aL⟩,⟨bu,fn',aD⟩,⟨bz,bA,aE⟩⟩ cQ (putC X ob 0 (ae (dW T) ⟨⟨bM,bN,dv⟩,⟨bG,bE,dw⟩,⟨bO,bP,dx⟩,⟨fa6,bQ,dy⟩,⟨bR,bS,dz⟩⟩).toList) ob ⟨⟨bM,bN,dv⟩,⟨bG,bE,dw⟩,⟨bO,bP,dx⟩,⟨fa6,bQ,dy⟩,⟨bR,bS,dz⟩⟩ fh (dW T)):=G.out.put GN.out
    have hT1:(dW T).now=s.now+((k+1:Nat):Int):=by have:=xW.out;omega
    have Ee:(dW T).now <= 100000:=by omega
    have Ef:bV (dW T) <= 1600:=hf.2
    have xX:Hid ((dW T).now=s.now+((k+1:Nat):Int) /\ (dW T).now <= 100000 /\ bV (dW T) <= 1600):=⟨hT1,Ee,Ef⟩
    obtain ⟨_,q1,q2⟩:=NB.out
    dsimp only [ae] at q1
    obtain ⟨_,p1,p2⟩:=G.out.var.box.keeps KN
    dsimp only [ae] at p1
    clear hf hn2 hT1 Ee Ef
    go_upto_region 10 with fail
    change Code.wp _ _ _ _ (putC X ob 0 (ae (dW T) ⟨⟨bM,bN,dv⟩,⟨bG,bE,dw⟩,⟨bO,bP,dx⟩,⟨fa6,bQ,dy⟩,⟨bR,bS,dz⟩⟩).toList)
    clear q1 q2 p1 p2 NB GN G KN
    generalize putC X ob 0 (ae (dW T) ⟨⟨bM,bN,dv⟩,⟨bG,bE,dw⟩,⟨bO,bP,dx⟩,⟨fa6,bQ,dy⟩,⟨bR,bS,dz⟩⟩).toList=X9 at *
    go_wp2
    exact ⟨⟨k+1,_,fh,dW T,by go_num,by omega,xX.out.1,xX.out.2.1,xX.out.2.2,G9,HI2⟩,by simp only [intOf];omega⟩
  ·have E0:n.toNat - k=0:=by omega
   have E1:f8 T (n.toNat - k)=(T,0):=by rw [E0];rfl
   have HT:Hid (mg s n=T):=by show _=_;rw [HT0.out,HI.out,E1]
   have HN:Hid (mU s n=(k:Int)):=by show _=_;rw [ee.out,HI.out,E1];simp
   clear E0 E1 xV
   have KX:aa Z wr:=G.out.eP O2.out mf.out hZ1.out
   obtain ⟨_,o1,o2⟩:=G.out.var.box
   dsimp only [ae] at o1
   obtain ⟨_,r1,r2⟩:=R0.out.keeps KX
   go_wp2
   have D:=(R0.out.keeps KX).putC (ae (T:Sy) ⟨⟨yA,yB,bH⟩,⟨yD,yE,bI⟩,⟨yG,yH,bJ⟩,⟨yJ,yK,bK⟩,⟨yM,yN,bL⟩⟩).toList rfl
   have KQ:=aa.putC (b:=w.heap.size+1) (by omega) (ae (T:Sy) ⟨⟨yA,yB,bH⟩,⟨yD,yE,bI⟩,⟨yG,yH,bJ⟩,⟨yJ,yK,bK⟩,⟨yM,yN,bL⟩⟩).toList 0 (kZ.trans KX)
   have SQ:ay (putC wr (w.heap.size+1) 0 (ae (T:Sy) ⟨⟨yA,yB,bH⟩,⟨yD,yE,bI⟩,⟨yG,yH,bJ⟩,⟨yJ,yK,bK⟩,⟨yM,yN,bL⟩⟩).toList) w.heap.size ⟨⟨yA,yB,bH⟩,⟨yD,yE,bI⟩,⟨yG,yH,bJ⟩,⟨yJ,yK,bK⟩,⟨yM,yN,bL⟩⟩ fS (T):=(ay.aU (c:=w.heap.size+1) (fun i hi=>by have:=(G.out.var.own.aG hi).1;have:=hz.out;have:=hZ1.out;omega) _ _ G.out.var.own).base (by have:=hz.out;have:=hZ1.out;omega)
   change bodyPost _ _ _ _ _ (putC wr (w.heap.size+1) 0 (ae (T:Sy) ⟨⟨yA,yB,bH⟩,⟨yD,yE,bI⟩,⟨yG,yH,bJ⟩,⟨yJ,yK,bK⟩,⟨yM,yN,bL⟩⟩).toList)
   generalize putC wr (w.heap.size+1) 0 (ae (T:Sy) ⟨⟨yA,yB,bH⟩,⟨yD,yE,bI⟩,⟨yG,yH,bJ⟩,⟨yJ,yK,bK⟩,⟨yM,yN,bL⟩⟩).toList=Q at D KQ SQ ⊢
   exact bodyPost_ret (v := .tuple #[.agg (ae (T:Sy) ⟨⟨yA,yB,bH⟩,⟨yD,yE,bI⟩,⟨yG,yH,bJ⟩,⟨yJ,yK,bK⟩,⟨yM,yN,bL⟩⟩),.int .i64 k]) (by simp [results,Tryz.results83,go_sem,D.cells]) rfl (by rw [HT.out,HN.out];first | exact ⟨_,fS,rfl,SQ,KQ⟩ | exact ⟨_,rfl,⟨_,SQ⟩,KQ⟩)
set_option linter.unusedSimpArgs false in
set_option maxHeartbeats 8000000 in
theorem Gw {w:World} {lo:Nat} {v:Sv} {vs:List Lv} {s:Sy} (h:ay w lo v vs s) (hl:lo <= w.heap.size) (R:cV s) (c:Cl) (h3:c.kind <= 3) :
  Calls Tryz.prog 39 #[.agg (ae s v),ck c] w (fL w lo v vs (df s c) (ei s c)):=by
 obtain ⟨⟨ta,tn,ak⟩,⟨la,ln,aj⟩,⟨ga,gn,ao⟩,⟨fa,fn,aq⟩,⟨ra,rn,au⟩⟩:=v
 have HN:Hid (df s c=fw s c):=by show _=_;unfold df;rw [if_pos h3]
 have HC:Hid (ei s c=jg s c):=by show _=_;unfold ei;rw [if_pos h3]
 have hd3:decide (c.kind <= 3)=true:=by simpa using h3
 obtain ⟨dG,dO,kZ⟩:=eU h hl c
 have C0:Hid (ai _ (w.heap.size+1) (cc c)):=dO
 have A0:Hid (aR w lo _ vs _ w.heap.size (w.heap.size+2) _ vs s):=dG
 have HS:Hid (aA _ _ s):=(h.on (by have:=R.small;omega)).keeps kZ
 clear dG dO h
 go_enter Tryz.func39,Tryz.ntmps39
 go_upto_region 2 with fail
 change Code.wp _ _ _ _ (du w ⟨⟨ta,tn,ak⟩,⟨la,ln,aj⟩,⟨ga,gn,ao⟩,⟨fa,fn,aq⟩,⟨ra,rn,au⟩⟩ s c)
 generalize du w ⟨⟨ta,tn,ak⟩,⟨la,ln,aj⟩,⟨ga,gn,ao⟩,⟨fa,fn,aq⟩,⟨ra,rn,au⟩⟩ s c=Z at *
 have hb0:∀ w',aa Z w'->∀ q,w'.cell? ⟨w.heap.size,q,none⟩=(ae s ⟨⟨ta,tn,ak⟩,⟨la,ln,aj⟩,⟨ga,gn,ao⟩,⟨fa,fn,aq⟩,⟨ra,rn,au⟩⟩)[q]?:=fun w' k=>(A0.out.g.var.box.keeps k).cells
 dsimp only [ae] at hb0
 have hc0:∀ w',aa Z w'->∀ q,w'.cell? ⟨w.heap.size+1,q,none⟩=(cc c)[q]?:=fun w' k=>(C0.out.keeps k).cells
 have AP:=A0.out
 go_wp2_with (go_at_call 82;refine (F3 A0.out.g.var.own (Nat.le_trans hl kZ.size) R c).mono ?_;rintro e w6 ⟨s6,v6,fh,rfl,hs6,g6⟩;obtain ⟨⟨bM,bN,cq⟩,⟨bG,bE,cr⟩,⟨bO,bP,ct⟩,⟨fa6,bQ,cw⟩,⟨bR,bS,cx⟩⟩:=v6;obtain ⟨P6,D6,G6⟩:=AP.pass g6;obtain ⟨_,r1,r2⟩:=P6)
 change bodyPost _ _ _ _ _ (putC w6 (w.heap.size+2) 0 (ae (s6:Sy) ⟨⟨bM,bN,cq⟩,⟨bG,bE,cr⟩,⟨bO,bP,ct⟩,⟨fa6,bQ,cw⟩,⟨bR,bS,cx⟩⟩).toList)
 generalize putC w6 (w.heap.size+2) 0 (ae (s6:Sy) ⟨⟨bM,bN,cq⟩,⟨bG,bE,cr⟩,⟨bO,bP,ct⟩,⟨fa6,bQ,cw⟩,⟨bR,bS,cx⟩⟩).toList=Q at D6 G6 ⊢
 exact bodyPost_ret (v := .tuple #[.agg (ae (s6:Sy) ⟨⟨bM,bN,cq⟩,⟨bG,bE,cr⟩,⟨bO,bP,ct⟩,⟨fa6,bQ,cw⟩,⟨bR,bS,cx⟩⟩),.int .i64 (fw s c)]) (by simp [results,Tryz.results39,go_sem,D6.cells]) rfl (fL.of HN.out (fun e=>by rw [HC.out];exact hs6 e) G6)
set_option linter.unusedSimpArgs false in
set_option maxHeartbeats 8000000 in
theorem Gy {w:World} {lo:Nat} {v:Sv} {vs:List Lv} {s:Sy} (h:ay w lo v vs s) (hl:lo <= w.heap.size) (R:cV s) (c:Cl) (h4:decide (c.kind <= 3)=false) (h11:(c.kind==11)=false) (hth:bF s.tasks c.no=false) :
  Calls Tryz.prog 39 #[.agg (ae s v),ck c] w (fL w lo v vs (df s c) (ei s c)):=by
 obtain ⟨⟨ta,tn,ak⟩,⟨la,ln,aj⟩,⟨ga,gn,ao⟩,⟨fa,fn,aq⟩,⟨ra,rn,au⟩⟩:=v
 have HN:Hid (df s c=2):=sH h4 h11 hth
 obtain ⟨pa,eY⟩:∃ z,Hid (dA s.tasks c.no=z):=⟨_,rfl⟩
 have P9:pa < 0:=by unfold bF at hth;rw [eY.out] at hth;simpa using hth
 obtain ⟨dG,dO,kZ⟩:=eU h hl c
 have C0:Hid (ai _ (w.heap.size+1) (cc c)):=dO
 have A0:Hid (aR w lo _ vs _ w.heap.size (w.heap.size+2) _ vs s):=dG
 have HS:Hid (aA _ _ s):=(h.on (by have:=R.small;omega)).keeps kZ
 clear dG dO h
 go_enter Tryz.func39,Tryz.ntmps39
 go_wp2_with fail
 change Calls _ _ _ (du w ⟨⟨ta,tn,ak⟩,⟨la,ln,aj⟩,⟨ga,gn,ao⟩,⟨fa,fn,aq⟩,⟨ra,rn,au⟩⟩ s c) _
 generalize du w ⟨⟨ta,tn,ak⟩,⟨la,ln,aj⟩,⟨ga,gn,ao⟩,⟨fa,fn,aq⟩,⟨ra,rn,au⟩⟩ s c=Z at *
 have hb0:∀ w',aa Z w'->∀ q,w'.cell? ⟨w.heap.size,q,none⟩=(ae s ⟨⟨ta,tn,ak⟩,⟨la,ln,aj⟩,⟨ga,gn,ao⟩,⟨fa,fn,aq⟩,⟨ra,rn,au⟩⟩)[q]?:=fun w' k=>(A0.out.g.var.box.keeps k).cells
 dsimp only [ae] at hb0
 have hc0:∀ w',aa Z w'->∀ q,w'.cell? ⟨w.heap.size+1,q,none⟩=(cc c)[q]?:=fun w' k=>(C0.out.keeps k).cells
 refine (HS.out.gM.aZ c.no eY.out (aa.refl _)).mono ?_
 rintro e w1 ⟨rfl,k1⟩
 have AE:=A0.out.keeps k1
 obtain ⟨_,o1,o2⟩:=AE.g.var.box
 dsimp only [ae] at o1
 obtain ⟨_,r1,r2⟩:=AE.r
 go_wp2
 exact AE.ret HN.out (fun h=>absurd h (by decide)) rfl (fun Q D=>by simp [results,Tryz.results39,go_sem,D])
set_option linter.unusedSimpArgs false in
set_option maxHeartbeats 8000000 in
theorem Gx {w:World} {lo:Nat} {v:Sv} {vs:List Lv} {s:Sy} (h:ay w lo v vs s) (hl:lo <= w.heap.size) (R:cV s) (cn cp ca cb:Int) :
  Calls Tryz.prog 39 #[.agg (ae s v),ck ⟨11,cn,cp,ca,cb⟩] w (fL w lo v vs (df s ⟨11,cn,cp,ca,cb⟩) (ei s ⟨11,cn,cp,ca,cb⟩)):=by
 obtain ⟨⟨ta,tn,ak⟩,⟨la,ln,aj⟩,⟨ga,gn,ao⟩,⟨fa,fn,aq⟩,⟨ra,rn,au⟩⟩:=v
 obtain ⟨sx,mG⟩:∃ z,Hid (mU s ca=z):=⟨_,rfl⟩
 obtain ⟨jK,mV⟩:∃ z,Hid (mg s ca=z):=⟨_,rfl⟩
 have hsb:=kp.2 R
 have ee:Hid (df s ⟨11,cn,cp,ca,cb⟩=if !aF ca 1 50 then 1 else if sx < ca then 4 else 0):=by
  show _=_
  rw [<- mG.out]
  unfold df mU
  rw [hsb]
  rfl
 have mq:Hid (ei s ⟨11,cn,cp,ca,cb⟩=jK):=by
  show _=_
  rw [<- mV.out]
  unfold ei mg
  rw [hsb]
  rfl
 obtain ⟨dG,dO,kZ⟩:=eU h hl ⟨11,cn,cp,ca,cb⟩
 have C0:Hid (ai _ (w.heap.size+1) (cc ⟨11,cn,cp,ca,cb⟩)):=dO
 have A0:Hid (aR w lo _ vs _ w.heap.size (w.heap.size+2) _ vs s):=dG
 have HS:Hid (aA _ _ s):=(h.on (by have:=R.small;omega)).keeps kZ
 clear dG dO h
 go_enter Tryz.func39,Tryz.ntmps39
 go_wp2_with fail
 change Calls _ _ _ (du w ⟨⟨ta,tn,ak⟩,⟨la,ln,aj⟩,⟨ga,gn,ao⟩,⟨fa,fn,aq⟩,⟨ra,rn,au⟩⟩ s ⟨11,cn,cp,ca,cb⟩) _
 generalize du w ⟨⟨ta,tn,ak⟩,⟨la,ln,aj⟩,⟨ga,gn,ao⟩,⟨fa,fn,aq⟩,⟨ra,rn,au⟩⟩ s ⟨11,cn,cp,ca,cb⟩=Z at *
 have hb0:∀ w',aa Z w'->∀ q,w'.cell? ⟨w.heap.size,q,none⟩=(ae s ⟨⟨ta,tn,ak⟩,⟨la,ln,aj⟩,⟨ga,gn,ao⟩,⟨fa,fn,aq⟩,⟨ra,rn,au⟩⟩)[q]?:=fun w' k=>(A0.out.g.var.box.keeps k).cells
 dsimp only [ae] at hb0
 have hc0:∀ w',aa Z w'->∀ q,w'.cell? ⟨w.heap.size+1,q,none⟩=(cc ⟨11,cn,cp,ca,cb⟩)[q]?:=fun w' k=>(C0.out.keeps k).cells
 refine (bn _ _ _ _).mono ?_
 rintro e w' ⟨rfl,hw'⟩
 have hw2:=hw'.symm
 subst hw2
 cases c1:aF ca 1 50
 ·have HN:Hid (df s ⟨11,cn,cp,ca,cb⟩=1):=by show _=_;rw [ee.out,c1];rfl
  have AE:=A0.out
  obtain ⟨_,o1,o2⟩:=AE.g.var.box
  dsimp only [ae] at o1
  obtain ⟨_,r1,r2⟩:=AE.r
  go_wp2
  exact AE.ret HN.out (fun h=>absurd h (by decide)) rfl (fun Q D=>by simp [results,Tryz.results39,go_sem,D])
 have ST:Hid (Calls Tryz.prog 83 #[.agg (ae s ⟨⟨ta,tn,ak⟩,⟨la,ln,aj⟩,⟨ga,gn,ao⟩,⟨fa,fn,aq⟩,⟨ra,rn,au⟩⟩),.int .i64 ca] Z fun e w'=>∃ v' vs',e = .returned (.tuple #[.agg (ae jK v'),.int .i64 sx]) /\ ay w' Z.heap.size v' vs' jK /\ aa Z w'):=by
  have:=OI HS.out ca
  rw [mG.out,mV.out] at this
  exact this
 go_upto_region 7 with (go_at_call 83;refine ST.out.mono ?_;rintro e w6 ⟨v6,fh,rfl,o6,k6⟩;obtain ⟨⟨bM,bN,cq⟩,⟨bG,bE,cr⟩,⟨bO,bP,ct⟩,⟨fa6,bQ,cw⟩,⟨bR,bS,cx⟩⟩:=v6)
 have K7:aa Z (w6.alloc (.cells (ae (jK:Sy) ⟨⟨bM,bN,cq⟩,⟨bG,bE,cr⟩,⟨bO,bP,ct⟩,⟨fa6,bQ,cw⟩,⟨bR,bS,cx⟩⟩) 30)):=k6.alloc _
 have B7:Hid (ai (w6.alloc (.cells (ae (jK:Sy) ⟨⟨bM,bN,cq⟩,⟨bG,bE,cr⟩,⟨bO,bP,ct⟩,⟨fa6,bQ,cw⟩,⟨bR,bS,cx⟩⟩) 30)) w6.heap.size (ae (jK:Sy) ⟨⟨bM,bN,cq⟩,⟨bG,bE,cr⟩,⟨bO,bP,ct⟩,⟨fa6,bQ,cw⟩,⟨bR,bS,cx⟩⟩)):=ai.new _ _ _
 have O7:Hid (ay (w6.alloc (.cells (ae (jK:Sy) ⟨⟨bM,bN,cq⟩,⟨bG,bE,cr⟩,⟨bO,bP,ct⟩,⟨fa6,bQ,cw⟩,⟨bR,bS,cx⟩⟩) 30)) Z.heap.size ⟨⟨bM,bN,cq⟩,⟨bG,bE,cr⟩,⟨bO,bP,ct⟩,⟨fa6,bQ,cw⟩,⟨bR,bS,cx⟩⟩ fh jK):=o6.keeps ((aa.refl _).alloc _)
 change Code.wp _ _ _ _ (w6.alloc (.cells (ae (jK:Sy) ⟨⟨bM,bN,cq⟩,⟨bG,bE,cr⟩,⟨bO,bP,ct⟩,⟨fa6,bQ,cw⟩,⟨bR,bS,cx⟩⟩) 30))
 clear o6 k6
 generalize w6.alloc (.cells (ae (jK:Sy) ⟨⟨bM,bN,cq⟩,⟨bG,bE,cr⟩,⟨bO,bP,ct⟩,⟨fa6,bQ,cw⟩,⟨bR,bS,cx⟩⟩) 30)=X at *
 generalize w6.heap.size=Qa at *
 cases c2:decide (sx < ca)
 rotate_left
 ·have c2':sx < ca:=of_decide_eq_true c2
  have HN:Hid (df s ⟨11,cn,cp,ca,cb⟩=4):=by show _=_;rw [ee.out,c1];simp [c2']
  have AE:=A0.out.keeps K7
  obtain ⟨_,o1,o2⟩:=AE.g.var.box
  dsimp only [ae] at o1
  obtain ⟨_,r1,r2⟩:=AE.r
  go_wp2
  exact AE.ret HN.out (fun h=>absurd h (by decide)) rfl (fun Q D=>by simp [results,Tryz.results39,go_sem,D])
 have c2':¬ sx < ca:=of_decide_eq_false c2
 have HN:Hid (df s ⟨11,cn,cp,ca,cb⟩=0):=by show _=_;rw [ee.out,c1];simp [c2']
 have GF:Goes Z lo ⟨⟨ta,tn,ak⟩,⟨la,ln,aj⟩,⟨ga,gn,ao⟩,⟨fa,fn,aq⟩,⟨ra,rn,au⟩⟩ vs X ⟨⟨bM,bN,cq⟩,⟨bG,bE,cr⟩,⟨bO,bP,ct⟩,⟨fa6,bQ,cw⟩,⟨bR,bS,cx⟩⟩ fh jK:=Goes.fresh O7.out K7 (Nat.le_trans hl kZ.size)
 obtain ⟨P6,D6,G6⟩:=A0.out.pass GF
 obtain ⟨_,r1,r2⟩:=P6
 obtain ⟨_,b1,b2⟩:=B7.out
 dsimp only [ae] at b1
 go_wp2
 change bodyPost _ _ _ _ _ (putC X (w.heap.size+2) 0 (ae (jK:Sy) ⟨⟨bM,bN,cq⟩,⟨bG,bE,cr⟩,⟨bO,bP,ct⟩,⟨fa6,bQ,cw⟩,⟨bR,bS,cx⟩⟩).toList)
 generalize putC X (w.heap.size+2) 0 (ae (jK:Sy) ⟨⟨bM,bN,cq⟩,⟨bG,bE,cr⟩,⟨bO,bP,ct⟩,⟨fa6,bQ,cw⟩,⟨bR,bS,cx⟩⟩).toList=Q at D6 G6 ⊢
 exact bodyPost_ret (v := .tuple #[.agg (ae (jK:Sy) ⟨⟨bM,bN,cq⟩,⟨bG,bE,cr⟩,⟨bO,bP,ct⟩,⟨fa6,bQ,cw⟩,⟨bR,bS,cx⟩⟩),.int .i64 0]) (by simp [results,Tryz.results39,go_sem,D6.cells]) rfl (fL.of HN.out (fun _=>mq.out.symm) G6)
end Go.Proofs.YteagpjlgjfaclaaGreatDoor
