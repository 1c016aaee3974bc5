/-
  Ticks: so many of them.
-/
import Derived.Test.YthpdlbcdbncnhaaGreatDoorSysTick
namespace Go.Proofs.YthpdlbcdbncnhaaGreatDoor
set_option maxRecDepth 100000
open Go.RowKit
attribute [local go_sem] Keeps.refl Keeps.alloc Keeps.drew Keeps.drewN
def qcW (s:Sy) (n:Int):Sy:=if sysB s then (qa4 s n.toNat).1 else Sy.zero
def qdk (s:Sy) (n:Int):Int:=if sysB s then ((qa4 s n.toNat).2:Int) else 0
theorem qi8 {s:Sy} (h:qbI s=true):sysB s=true /\ s.now < 100000 /\ 0 <= s.now:=by
 have h0:=h
 unfold qbI at h
 simp only [Bool.and_eq_true,Bool.not_eq_true',beq_eq_false_iff_ne,ne_eq] at h
 have:=(qbh.1 h.1).now
 exact ⟨h.1,by omega,this.1⟩
theorem qi9 {s:Sy} (h:qbI s=true):(qay s).now=s.now+1 /\ qaj (qay s) <= 1600:=by
 have R:=qbh.1 (qi8 h).1
 have e:qay s=qeM (qaE (qbe (qaW (qa3 s))) s.cpus.toNat):=by unfold qay;rw [h];rfl
 obtain ⟨t1,t2,t3,t4,t5⟩:=qeS (qbe (qaW (qa3 s))) s.cpus.toNat
 have h1:=qiQ s
 have h2:=R.small
 have h3:=R.cpus
 rw [qiS,qiR] at t3
 rw [e]
 refine ⟨?_,?_⟩
 ·show (qaE (qbe (qaW (qa3 s))) s.cpus.toNat).now+1=_
  rw [t2];rfl
 ·show qaj (qaE (qbe (qaW (qa3 s))) s.cpus.toNat) <= _
  omega
set_option maxHeartbeats 4000000 in
theorem qoZ {w:World} {v:Sv} {s:Sy} (h:SysOn w v s) (n:Int) :
  Calls Tryz.prog 216 #[.agg (syc s v),.int .i64 n] w fun e w'=>∃ v' vs',e = .returned (.tuple #[.agg (syc (qcW s n) v'),.int .i64 (qdk s n)]) /\ OwnS w' w.heap.size v' vs' (qcW s n) /\ Keeps w w':=by
 obtain ⟨⟨ta,tn,tcap⟩,⟨la,ln,lcap⟩,⟨ga,gn,gcap⟩,⟨fa,fn,fcap⟩,⟨ra,rn,rcap⟩⟩:=v
 have kZ:Keeps w ((w.alloc (.cells (syc s ⟨⟨ta,tn,tcap⟩,⟨la,ln,lcap⟩,⟨ga,gn,gcap⟩,⟨fa,fn,fcap⟩,⟨ra,rn,rcap⟩⟩) 37)).alloc (.cells zc 37)):=((Keeps.refl w).alloc _).alloc _
 have B0:Hid (Blk ((w.alloc (.cells (syc s ⟨⟨ta,tn,tcap⟩,⟨la,ln,lcap⟩,⟨ga,gn,gcap⟩,⟨fa,fn,fcap⟩,⟨ra,rn,rcap⟩⟩) 37)).alloc (.cells zc 37)) w.heap.size (syc s ⟨⟨ta,tn,tcap⟩,⟨la,ln,lcap⟩,⟨ga,gn,gcap⟩,⟨fa,fn,fcap⟩,⟨ra,rn,rcap⟩⟩)):=(Blk.new _ _ _).alloc _
 have R0:Hid (Blk ((w.alloc (.cells (syc s ⟨⟨ta,tn,tcap⟩,⟨la,ln,lcap⟩,⟨ga,gn,gcap⟩,⟨fa,fn,fcap⟩,⟨ra,rn,rcap⟩⟩) 37)).alloc (.cells zc 37)) (w.heap.size+1) zc):=by
  have:=Blk.new (w.alloc (.cells (syc s ⟨⟨ta,tn,tcap⟩,⟨la,ln,lcap⟩,⟨ga,gn,gcap⟩,⟨fa,fn,fcap⟩,⟨ra,rn,rcap⟩⟩) 37)) zc 37
  show Blk _ _ _
  simpa using this
 have hz:Hid (((w.alloc (.cells (syc s ⟨⟨ta,tn,tcap⟩,⟨la,ln,lcap⟩,⟨ga,gn,gcap⟩,⟨fa,fn,fcap⟩,⟨ra,rn,rcap⟩⟩) 37)).alloc (.cells zc 37)).heap.size=w.heap.size+2):=by show _=_;simp
 have HS:Hid (SysOn ((w.alloc (.cells (syc s ⟨⟨ta,tn,tcap⟩,⟨la,ln,lcap⟩,⟨ga,gn,gcap⟩,⟨fa,fn,fcap⟩,⟨ra,rn,rcap⟩⟩) 37)).alloc (.cells zc 37)) ⟨⟨ta,tn,tcap⟩,⟨la,ln,lcap⟩,⟨ga,gn,gcap⟩,⟨fa,fn,fcap⟩,⟨ra,rn,rcap⟩⟩ s):=h.keeps kZ
 clear h
 go_enter Tryz.func216,Tryz.ntmps216
 go_wp2_with fail
 change Calls _ _ _ ((w.alloc (.cells (syc s ⟨⟨ta,tn,tcap⟩,⟨la,ln,lcap⟩,⟨ga,gn,gcap⟩,⟨fa,fn,fcap⟩,⟨ra,rn,rcap⟩⟩) 37)).alloc (.cells zc 37)) _
 generalize (w.alloc (.cells (syc s ⟨⟨ta,tn,tcap⟩,⟨la,ln,lcap⟩,⟨ga,gn,gcap⟩,⟨fa,fn,fcap⟩,⟨ra,rn,rcap⟩⟩) 37)).alloc (.cells zc 37)=Z at *
 refine (qdf HS.out).mono ?_
 rintro e w1 ⟨rfl,k1⟩
 have hb0:∀ w',Keeps Z w'->∀ j,w'.cell? ⟨w.heap.size,j,none⟩=(syc s ⟨⟨ta,tn,tcap⟩,⟨la,ln,lcap⟩,⟨ga,gn,gcap⟩,⟨fa,fn,fcap⟩,⟨ra,rn,rcap⟩⟩)[j]?:=fun w' k=>(B0.out.keeps k).cells
 dsimp only [syc] at hb0
 cases hb:sysB s
 ·have HTB:Hid (qdk s n=0):=by show _=_;unfold qdk;rw [hb];rfl
  have HT:Hid (qcW s n=Sy.zero):=by show _=_;unfold qcW;rw [hb];rfl
  obtain ⟨_,r1,r2⟩:=R0.out.keeps k1
  go_wp2
  have D:=(R0.out.keeps k1).putC zc.toList rfl
  have KQ:=Keeps.putC (b:=w.heap.size+1) (by omega) zc.toList 0 (kZ.trans k1)
  change bodyPost _ _ _ _ _ (putC w1 (w.heap.size+1) 0 zc.toList)
  generalize putC w1 (w.heap.size+1) 0 zc.toList=Q at D KQ ⊢
  exact bodyPost_ret (v := .tuple #[.agg zc,.int .i64 0]) (by simp [results,Tryz.results216,go_sem,D.cells]) rfl (by rw [HT.out,HTB.out];first | exact ⟨Sv.zero,[],rfl,OwnS.nothing _ _,KQ⟩ | exact ⟨Sv.zero,rfl,⟨[],OwnS.nothing _ _⟩,KQ⟩)
 have R:=qbh.1 hb
 have hsm:qaj s <= 1500:=R.small
 obtain ⟨hn0,hn1⟩:=R.now
 have HT0:Hid (qcW s n=(qa4 s n.toNat).1):=by show _=_;unfold qcW;rw [hb];rfl
 have HN0:Hid (qdk s n=((qa4 s n.toNat).2:Int)):=by show _=_;unfold qdk;rw [hb];rfl
 clear R
 go_wp2_with fail
 refine (qeh (HS.out.keeps k1)).mono ?_
 rintro e w2 ⟨vo,vso,rfl,o2,k2⟩
 obtain ⟨⟨ta',tn',tcap'⟩,⟨la',ln',lcap'⟩,⟨ga',gn',gcap'⟩,⟨fa',fn',fcap'⟩,⟨ra',rn',rcap'⟩⟩:=vo
 have O2:Hid (OwnS w2 w1.heap.size ⟨⟨ta',tn',tcap'⟩,⟨la',ln',lcap'⟩,⟨ga',gn',gcap'⟩,⟨fa',fn',fcap'⟩,⟨ra',rn',rcap'⟩⟩ vso s):=o2
 have k02:Hid (Keeps Z w2):=k1.trans k2
 have hZ1:Hid (Z.heap.size <= w1.heap.size):=k1.size
 have g0:=VarG.start o2 k2.size
 clear o2
 go_wp2
 change Code.wp _ _ _ _ (w2.alloc (.cells (syc s ⟨⟨ta',tn',tcap'⟩,⟨la',ln',lcap'⟩,⟨ga',gn',gcap'⟩,⟨fa',fn',fcap'⟩,⟨ra',rn',rcap'⟩⟩) 37))
 generalize w2.alloc (.cells (syc s ⟨⟨ta',tn',tcap'⟩,⟨la',ln',lcap'⟩,⟨ga',gn',gcap'⟩,⟨fa',fn',fcap'⟩,⟨ra',rn',rcap'⟩⟩) 37)=X0 at *
 generalize w2.heap.size=ob at *
 have G0:Hid (VarG w2 w1.heap.size ⟨⟨ta',tn',tcap'⟩,⟨la',ln',lcap'⟩,⟨ga',gn',gcap'⟩,⟨fa',fn',fcap'⟩,⟨ra',rn',rcap'⟩⟩ vso X0 ob ⟨⟨ta',tn',tcap'⟩,⟨la',ln',lcap'⟩,⟨ga',gn',gcap'⟩,⟨fa',fn',fcap'⟩,⟨ra',rn',rcap'⟩⟩ vso s):=g0
 clear g0 k1 k2
 go_loopw [7] (fun i wr=>∃ (k:Nat) (v5:Sv) (vs5:List Lv) (T:Sy),i = .int .i64 k /\ k <= n.toNat /\ T.now=s.now+k /\ T.now <= 100000 /\ qaj T <= 1600 /\ Hid (VarG w2 w1.heap.size ⟨⟨ta',tn',tcap'⟩,⟨la',ln',lcap'⟩,⟨ga',gn',gcap'⟩,⟨fa',fn',fcap'⟩,⟨ra',rn',rcap'⟩⟩ vso wr ob v5 vs5 T) /\ Hid ((qa4 s n.toNat)=((qa4 T (n.toNat - k)).1,(qa4 T (n.toNat - k)).2+k))) (fun i _=>200000 - (intOf i).toNat)
 case atStart=>exact ⟨0,_,vso,s,rfl,Nat.zero_le _,by simp,hn1,by omega,G0,by show _=_;simp⟩
 case round =>
  obtain ⟨k,⟨⟨yA,yB,tcap5⟩,⟨yD,yE,lcap5⟩,⟨yG,yH,gcap5⟩,⟨yJ,yK,fcap5⟩,⟨yM,yN,rcap5⟩⟩,vs5,T,rfl,hk,hTn,hTm,hTs,G,HI⟩:=hrel
  clear G0
  have hTn':Hid (T.now=s.now+k):=hTn
  have hk1:k <= 100000:=by omega
  by_cases hlt:(k:Int) < n
  ·obtain ⟨m,Hm⟩:∃ m,Hid (n.toNat - k=m+1):=⟨n.toNat - k - 1,by show _=_;omega⟩
   obtain ⟨_,o1,o2⟩:=G.out.var.box
   dsimp only [syc] at o1
   obtain ⟨tb,HTb⟩:∃ b,Hid (qbI T=b):=⟨_,rfl⟩
   have CT:Hid (Calls Tryz.prog 238 #[.agg (syc T ⟨⟨yA,yB,tcap5⟩,⟨yD,yE,lcap5⟩,⟨yG,yH,gcap5⟩,⟨yJ,yK,fcap5⟩,⟨yM,yN,rcap5⟩⟩)] wr fun e w'=>∃ v' vs',e = .returned (.tuple #[.agg (syc (qay T) v'),.bool tb]) /\ OwnS w' wr.heap.size v' vs' (qay T) /\ Keeps wr w'):=by
    have h1:=qoY (G.out.var.own.on (by omega))
    rw [HTb.out] at h1
    exact h1
   dsimp only [syc] at CT
   clear hTn
   go_wp2_with fail
   refine CT.out.mono ?_
   rintro e w7 ⟨⟨⟨ta6,tn6,tcap6⟩,⟨la6,ln6,lcap6⟩,⟨ga6,gn6,gcap6⟩,⟨fa6,fn6,fcap6⟩,⟨ra6,rn6,rcap6⟩⟩,vs6,rfl,O7,k7⟩
   have KN:Keeps wr (w7.alloc (.cells (syc (qay T) ⟨⟨ta6,tn6,tcap6⟩,⟨la6,ln6,lcap6⟩,⟨ga6,gn6,gcap6⟩,⟨fa6,fn6,fcap6⟩,⟨ra6,rn6,rcap6⟩⟩) 37)):=k7.alloc _
   have NB:Hid (Blk (w7.alloc (.cells (syc (qay T) ⟨⟨ta6,tn6,tcap6⟩,⟨la6,ln6,lcap6⟩,⟨ga6,gn6,gcap6⟩,⟨fa6,fn6,fcap6⟩,⟨ra6,rn6,rcap6⟩⟩) 37)) w7.heap.size (syc (qay T) ⟨⟨ta6,tn6,tcap6⟩,⟨la6,ln6,lcap6⟩,⟨ga6,gn6,gcap6⟩,⟨fa6,fn6,fcap6⟩,⟨ra6,rn6,rcap6⟩⟩)):=Blk.new _ _ _
   have GN:Hid (Goes wr w1.heap.size ⟨⟨yA,yB,tcap5⟩,⟨yD,yE,lcap5⟩,⟨yG,yH,gcap5⟩,⟨yJ,yK,fcap5⟩,⟨yM,yN,rcap5⟩⟩ vs5 (w7.alloc (.cells (syc (qay T) ⟨⟨ta6,tn6,tcap6⟩,⟨la6,ln6,lcap6⟩,⟨ga6,gn6,gcap6⟩,⟨fa6,fn6,fcap6⟩,⟨ra6,rn6,rcap6⟩⟩) 37)) ⟨⟨ta6,tn6,tcap6⟩,⟨la6,ln6,lcap6⟩,⟨ga6,gn6,gcap6⟩,⟨fa6,fn6,fcap6⟩,⟨ra6,rn6,rcap6⟩⟩ vs6 (qay T)):=(Goes.fresh O7 k7 (by have:=G.out.var.lob;have:=G.out.var.box.lt;omega)).behind ((Keeps.refl _).alloc _)
   clear o1 o2 O7 k7 CT
   go_upto_region 7 with fail
   change Code.wp _ _ _ _ (w7.alloc (.cells (syc (qay T) ⟨⟨ta6,tn6,tcap6⟩,⟨la6,ln6,lcap6⟩,⟨ga6,gn6,gcap6⟩,⟨fa6,fn6,fcap6⟩,⟨ra6,rn6,rcap6⟩⟩) 37))
   generalize w7.alloc (.cells (syc (qay T) ⟨⟨ta6,tn6,tcap6⟩,⟨la6,ln6,lcap6⟩,⟨ga6,gn6,gcap6⟩,⟨fa6,fn6,fcap6⟩,⟨ra6,rn6,rcap6⟩⟩) 37)=X at *
   generalize w7.heap.size=nb at *
   cases tb
   ·have E1:qa4 T (n.toNat - k)=(T,0):=by rw [Hm.out];simp [qa4,HTb.out]
    have HT:Hid (qcW s n=T):=by show _=_;rw [HT0.out,HI.out,E1]
    have HN:Hid (qdk s n=(k:Int)):=by show _=_;rw [HN0.out,HI.out,E1];simp
    have GX:Hid (VarG w2 w1.heap.size ⟨⟨ta',tn',tcap'⟩,⟨la',ln',lcap'⟩,⟨ga',gn',gcap'⟩,⟨fa',fn',fcap'⟩,⟨ra',rn',rcap'⟩⟩ vso X ob ⟨⟨yA,yB,tcap5⟩,⟨yD,yE,lcap5⟩,⟨yG,yH,gcap5⟩,⟨yJ,yK,fcap5⟩,⟨yM,yN,rcap5⟩⟩ vs5 T):=G.out.keeps KN
    clear E1 G GN NB KN
    have KX:Keeps Z X:=GX.out.keepsZ O2.out k02.out hZ1.out
    obtain ⟨_,o1,o2⟩:=GX.out.var.box
    dsimp only [syc] at o1
    obtain ⟨_,r1,r2⟩:=R0.out.keeps KX
    go_wp2
    have D:=(R0.out.keeps KX).putC (syc (T:Sy) ⟨⟨yA,yB,tcap5⟩,⟨yD,yE,lcap5⟩,⟨yG,yH,gcap5⟩,⟨yJ,yK,fcap5⟩,⟨yM,yN,rcap5⟩⟩).toList rfl
    have KQ:=Keeps.putC (b:=w.heap.size+1) (by omega) (syc (T:Sy) ⟨⟨yA,yB,tcap5⟩,⟨yD,yE,lcap5⟩,⟨yG,yH,gcap5⟩,⟨yJ,yK,fcap5⟩,⟨yM,yN,rcap5⟩⟩).toList 0 (kZ.trans KX)
    have SQ:OwnS (putC X (w.heap.size+1) 0 (syc (T:Sy) ⟨⟨yA,yB,tcap5⟩,⟨yD,yE,lcap5⟩,⟨yG,yH,gcap5⟩,⟨yJ,yK,fcap5⟩,⟨yM,yN,rcap5⟩⟩).toList) w.heap.size ⟨⟨yA,yB,tcap5⟩,⟨yD,yE,lcap5⟩,⟨yG,yH,gcap5⟩,⟨yJ,yK,fcap5⟩,⟨yM,yN,rcap5⟩⟩ vs5 (T):=(OwnS.farC (c:=w.heap.size+1) (fun i hi=>by have:=(GX.out.var.own.blkLt hi).1;have:=hz.out;have:=hZ1.out;omega) _ _ GX.out.var.own).base (by have:=hz.out;have:=hZ1.out;omega)
    change bodyPost _ _ _ _ _ (putC X (w.heap.size+1) 0 (syc (T:Sy) ⟨⟨yA,yB,tcap5⟩,⟨yD,yE,lcap5⟩,⟨yG,yH,gcap5⟩,⟨yJ,yK,fcap5⟩,⟨yM,yN,rcap5⟩⟩).toList)
    generalize putC X (w.heap.size+1) 0 (syc (T:Sy) ⟨⟨yA,yB,tcap5⟩,⟨yD,yE,lcap5⟩,⟨yG,yH,gcap5⟩,⟨yJ,yK,fcap5⟩,⟨yM,yN,rcap5⟩⟩).toList=Q at D KQ SQ ⊢
    exact bodyPost_ret (v := .tuple #[.agg (syc (T:Sy) ⟨⟨yA,yB,tcap5⟩,⟨yD,yE,lcap5⟩,⟨yG,yH,gcap5⟩,⟨yJ,yK,fcap5⟩,⟨yM,yN,rcap5⟩⟩),.int .i64 k]) (by simp [results,Tryz.results216,go_sem,D.cells]) rfl (by rw [HT.out,HN.out];first | exact ⟨_,vs5,rfl,SQ,KQ⟩ | exact ⟨_,rfl,⟨_,SQ⟩,KQ⟩)
   ·have hf:=qi9 HTb.out
    have hn2:=(qi8 HTb.out).2
    have HI2:Hid (qa4 s n.toNat=((qa4 (qay T) (n.toNat - (k+1))).1,(qa4 (qay T) (n.toNat - (k+1))).2+(k+1))):=by
     show _=_
     rw [HI.out,Hm.out,show n.toNat - (k+1)=m from by have:=Hm.out;omega]
     simp only [qa4,HTb.out,if_true]
     congr 1
     omega
    have G9:Hid (VarG w2 w1.heap.size ⟨⟨ta',tn',tcap'⟩,⟨la',ln',lcap'⟩,⟨ga',gn',gcap'⟩,⟨fa',fn',fcap'⟩,⟨ra',rn',rcap'⟩⟩ vso (putC X ob 0 (syc (qay T) ⟨⟨ta6,tn6,tcap6⟩,⟨la6,ln6,lcap6⟩,⟨ga6,gn6,gcap6⟩,⟨fa6,fn6,fcap6⟩,⟨ra6,rn6,rcap6⟩⟩).toList) ob ⟨⟨ta6,tn6,tcap6⟩,⟨la6,ln6,lcap6⟩,⟨ga6,gn6,gcap6⟩,⟨fa6,fn6,fcap6⟩,⟨ra6,rn6,rcap6⟩⟩ vs6 (qay T)):=G.out.put GN.out
    have hT1:(qay T).now=s.now+((k+1:Nat):Int):=by have:=hTn'.out;omega
    have hT2:(qay T).now <= 100000:=by omega
    have hT3:qaj (qay T) <= 1600:=hf.2
    have HTs:Hid ((qay T).now=s.now+((k+1:Nat):Int) /\ (qay T).now <= 100000 /\ qaj (qay T) <= 1600):=⟨hT1,hT2,hT3⟩
    obtain ⟨_,q1,q2⟩:=NB.out
    dsimp only [syc] at q1
    obtain ⟨_,p1,p2⟩:=G.out.var.box.keeps KN
    dsimp only [syc] at p1
    clear hf hn2 hT1 hT2 hT3
    go_upto_region 10 with fail
    change Code.wp _ _ _ _ (putC X ob 0 (syc (qay T) ⟨⟨ta6,tn6,tcap6⟩,⟨la6,ln6,lcap6⟩,⟨ga6,gn6,gcap6⟩,⟨fa6,fn6,fcap6⟩,⟨ra6,rn6,rcap6⟩⟩).toList)
    clear q1 q2 p1 p2 NB GN G KN
    generalize putC X ob 0 (syc (qay T) ⟨⟨ta6,tn6,tcap6⟩,⟨la6,ln6,lcap6⟩,⟨ga6,gn6,gcap6⟩,⟨fa6,fn6,fcap6⟩,⟨ra6,rn6,rcap6⟩⟩).toList=X9 at *
    go_wp2
    exact ⟨⟨k+1,_,vs6,qay T,by go_num,by omega,HTs.out.1,HTs.out.2.1,HTs.out.2.2,G9,HI2⟩,by simp only [intOf];omega⟩
  ·have E0:n.toNat - k=0:=by omega
   have E1:qa4 T (n.toNat - k)=(T,0):=by rw [E0];rfl
   have HT:Hid (qcW s n=T):=by show _=_;rw [HT0.out,HI.out,E1]
   have HN:Hid (qdk s n=(k:Int)):=by show _=_;rw [HN0.out,HI.out,E1];simp
   clear E0 E1 hTn
   have KX:Keeps Z wr:=G.out.keepsZ O2.out k02.out hZ1.out
   obtain ⟨_,o1,o2⟩:=G.out.var.box
   dsimp only [syc] at o1
   obtain ⟨_,r1,r2⟩:=R0.out.keeps KX
   go_wp2
   have D:=(R0.out.keeps KX).putC (syc (T:Sy) ⟨⟨yA,yB,tcap5⟩,⟨yD,yE,lcap5⟩,⟨yG,yH,gcap5⟩,⟨yJ,yK,fcap5⟩,⟨yM,yN,rcap5⟩⟩).toList rfl
   have KQ:=Keeps.putC (b:=w.heap.size+1) (by omega) (syc (T:Sy) ⟨⟨yA,yB,tcap5⟩,⟨yD,yE,lcap5⟩,⟨yG,yH,gcap5⟩,⟨yJ,yK,fcap5⟩,⟨yM,yN,rcap5⟩⟩).toList 0 (kZ.trans KX)
   have SQ:OwnS (putC wr (w.heap.size+1) 0 (syc (T:Sy) ⟨⟨yA,yB,tcap5⟩,⟨yD,yE,lcap5⟩,⟨yG,yH,gcap5⟩,⟨yJ,yK,fcap5⟩,⟨yM,yN,rcap5⟩⟩).toList) w.heap.size ⟨⟨yA,yB,tcap5⟩,⟨yD,yE,lcap5⟩,⟨yG,yH,gcap5⟩,⟨yJ,yK,fcap5⟩,⟨yM,yN,rcap5⟩⟩ vs5 (T):=(OwnS.farC (c:=w.heap.size+1) (fun i hi=>by have:=(G.out.var.own.blkLt hi).1;have:=hz.out;have:=hZ1.out;omega) _ _ G.out.var.own).base (by have:=hz.out;have:=hZ1.out;omega)
   change bodyPost _ _ _ _ _ (putC wr (w.heap.size+1) 0 (syc (T:Sy) ⟨⟨yA,yB,tcap5⟩,⟨yD,yE,lcap5⟩,⟨yG,yH,gcap5⟩,⟨yJ,yK,fcap5⟩,⟨yM,yN,rcap5⟩⟩).toList)
   generalize putC wr (w.heap.size+1) 0 (syc (T:Sy) ⟨⟨yA,yB,tcap5⟩,⟨yD,yE,lcap5⟩,⟨yG,yH,gcap5⟩,⟨yJ,yK,fcap5⟩,⟨yM,yN,rcap5⟩⟩).toList=Q at D KQ SQ ⊢
   exact bodyPost_ret (v := .tuple #[.agg (syc (T:Sy) ⟨⟨yA,yB,tcap5⟩,⟨yD,yE,lcap5⟩,⟨yG,yH,gcap5⟩,⟨yJ,yK,fcap5⟩,⟨yM,yN,rcap5⟩⟩),.int .i64 k]) (by simp [results,Tryz.results216,go_sem,D.cells]) rfl (by rw [HT.out,HN.out];first | exact ⟨_,vs5,rfl,SQ,KQ⟩ | exact ⟨_,rfl,⟨_,SQ⟩,KQ⟩)
end Go.Proofs.YthpdlbcdbncnhaaGreatDoor
