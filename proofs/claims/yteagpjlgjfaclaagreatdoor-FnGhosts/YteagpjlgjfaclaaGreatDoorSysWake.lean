/-
  Ticks: who is idle, and who is woken.
-/
import Derived.Test.YteagpjlgjfaclaaGreatDoorSysCopy
import Derived.Test.YteagpjlgjfaclaaGreatDoorFairList
import Derived.Test.YteagpjlgjfaclaaGreatDoorCallSpec
import Derived.Test.YteagpjlgjfaclaaGreatDoorCur
import Derived.Deep.Cut
namespace Go.Proofs.YteagpjlgjfaclaaGreatDoor
set_option maxRecDepth 100000
open Go.RowKit
attribute [local go_sem] aa.refl aa.alloc aa.drew aa.drewN
theorem aq.idle {w:World} {b:Nat} {t:ar} (h:aq w b (tc t)) (c:Bool):aq (w.setCell ⟨b,4,none⟩ (.bool c)) b (tc { t with idle:=c }):=h.set 4 (by simp) _
set_option maxHeartbeats 600000 in
theorem Jo {w:World} {v:Sv} {s:Sy} (h:aA w v s) (hc:oz s) :
  Calls Tryz.prog 177 #[.agg (ae s v)] w fun e w'=>∃ v' vs',e = .returned (.agg (ae (eY s) v')) /\ ay w' w.heap.size v' vs' (eY s) /\ aa w w':=by
 obtain ⟨⟨ta,tn,ag⟩,⟨la,ln,ah⟩,⟨ga,gn,ai⟩,⟨fa,fn,aj⟩,⟨ra,rn,ao⟩⟩:=v
 have hm1:tn <= 2000000:=by have:=h.size;have:=h.lay.tl;unfold bE at *;dsimp only at *;omega
 have hm2:fn <= 2000000:=by have:=h.size;have:=h.lay.fl;unfold bE at *;dsimp only at *;omega
 have Hn:Hid (s.tasks.length=tn):=h.lay.tl
 have jz:Hid (s.ax.length=fn):=h.lay.fl
 have HC:Hid (oz s):=hc
 have kZ:aa w ((w.alloc (.cells (ae s ⟨⟨ta,tn,ag⟩,⟨la,ln,ah⟩,⟨ga,gn,ai⟩,⟨fa,fn,aj⟩,⟨ra,rn,ao⟩⟩) 30)).alloc (.cells zc 30)):=((aa.refl w).alloc _).alloc _
 have B0:Hid (aq ((w.alloc (.cells (ae s ⟨⟨ta,tn,ag⟩,⟨la,ln,ah⟩,⟨ga,gn,ai⟩,⟨fa,fn,aj⟩,⟨ra,rn,ao⟩⟩) 30)).alloc (.cells zc 30)) w.heap.size (ae s ⟨⟨ta,tn,ag⟩,⟨la,ln,ah⟩,⟨ga,gn,ai⟩,⟨fa,fn,aj⟩,⟨ra,rn,ao⟩⟩)):=(aq.new _ _ _).alloc _
 have R0:Hid (aq ((w.alloc (.cells (ae s ⟨⟨ta,tn,ag⟩,⟨la,ln,ah⟩,⟨ga,gn,ai⟩,⟨fa,fn,aj⟩,⟨ra,rn,ao⟩⟩) 30)).alloc (.cells zc 30)) (w.heap.size+1) zc):=by
  have:=aq.new (w.alloc (.cells (ae s ⟨⟨ta,tn,ag⟩,⟨la,ln,ah⟩,⟨ga,gn,ai⟩,⟨fa,fn,aj⟩,⟨ra,rn,ao⟩⟩) 30)) zc 30
  show aq _ _ _
  simpa using this
 have hz:Hid (((w.alloc (.cells (ae s ⟨⟨ta,tn,ag⟩,⟨la,ln,ah⟩,⟨ga,gn,ai⟩,⟨fa,fn,aj⟩,⟨ra,rn,ao⟩⟩) 30)).alloc (.cells zc 30)).heap.size=w.heap.size+2):=by show _=_;simp
 have HS:Hid (aA ((w.alloc (.cells (ae s ⟨⟨ta,tn,ag⟩,⟨la,ln,ah⟩,⟨ga,gn,ai⟩,⟨fa,fn,aj⟩,⟨ra,rn,ao⟩⟩) 30)).alloc (.cells zc 30)) ⟨⟨ta,tn,ag⟩,⟨la,ln,ah⟩,⟨ga,gn,ai⟩,⟨fa,fn,aj⟩,⟨ra,rn,ao⟩⟩ s):=h.keeps kZ
 clear h hc
 go_enter Tryz.func177,Tryz.ntmps177
 go_wp2_with fail
 change Calls _ _ _ ((w.alloc (.cells (ae s ⟨⟨ta,tn,ag⟩,⟨la,ln,ah⟩,⟨ga,gn,ai⟩,⟨fa,fn,aj⟩,⟨ra,rn,ao⟩⟩) 30)).alloc (.cells zc 30)) _
 generalize (w.alloc (.cells (ae s ⟨⟨ta,tn,ag⟩,⟨la,ln,ah⟩,⟨ga,gn,ai⟩,⟨fa,fn,aj⟩,⟨ra,rn,ao⟩⟩) 30)).alloc (.cells zc 30)=Z at *
 refine (nZ HS.out).mono ?_
 rintro e w1 ⟨vo,cu,rfl,O1,k1⟩
 obtain ⟨⟨cg,bO,aC⟩,⟨bu,bx,aD⟩,⟨ch,cj,aK⟩,⟨bA,fn',aE⟩,⟨bB,bC,aF⟩⟩:=vo
 have VX:Hid (br (w1.alloc (.cells (ae s ⟨⟨cg,bO,aC⟩,⟨bu,bx,aD⟩,⟨ch,cj,aK⟩,⟨bA,fn',aE⟩,⟨bB,bC,aF⟩⟩) 30)) Z.heap.size w1.heap.size ⟨⟨cg,bO,aC⟩,⟨bu,bx,aD⟩,⟨ch,cj,aK⟩,⟨bA,fn',aE⟩,⟨bB,bC,aF⟩⟩ cu s):=br.new O1 k1.size
 have KX:Hid (aa Z (w1.alloc (.cells (ae s ⟨⟨cg,bO,aC⟩,⟨bu,bx,aD⟩,⟨ch,cj,aK⟩,⟨bA,fn',aE⟩,⟨bB,bC,aF⟩⟩) 30))):=k1.alloc _
 have qv:Hid (bO=tn):=by have:=(O1.t.row cF).1;show _=_;rw [<- Hn.out,this]
 clear O1 k1
 go_wp2_with fail
 change Code.wp _ _ _ _ (w1.alloc (.cells (ae s ⟨⟨cg,bO,aC⟩,⟨bu,bx,aD⟩,⟨ch,cj,aK⟩,⟨bA,fn',aE⟩,⟨bB,bC,aF⟩⟩) 30))
 generalize w1.alloc (.cells (ae s ⟨⟨cg,bO,aC⟩,⟨bu,bx,aD⟩,⟨ch,cj,aK⟩,⟨bA,fn',aE⟩,⟨bB,bC,aF⟩⟩) 30)=X at *
 generalize w1.heap.size=ob at *
 rw [qv.out] at VX
 have hb:∀ w',aa Z w'->∀ j,w'.cell? ⟨w.heap.size,j,none⟩=(ae s ⟨⟨ta,tn,ag⟩,⟨la,ln,ah⟩,⟨ga,gn,ai⟩,⟨fa,fn,aj⟩,⟨ra,rn,ao⟩⟩)[j]?:=fun w' k=>(B0.out.keeps k).cells
 dsimp only [ae] at hb
 clear B0
 go_loopw [4] (fun i wr=>∃ (k:Nat) (ys:List ar),k <= tn /\ i = .int .i64 k /\ Hid (br wr Z.heap.size ob ⟨⟨cg,tn,aC⟩,⟨bu,bx,aD⟩,⟨ch,cj,aK⟩,⟨bA,fn',aE⟩,⟨bB,bC,aF⟩⟩ cu { s with tasks:=ys }) /\ Hid (ys.length=tn) /\ Hid (∀ (j:Nat) (t:ar),j < k->s.tasks[j]?=some t->ys[j]?=some (kJ s t)) /\ aa Z wr) (fun i _=>tn - (intOf i).toNat)
 case atStart=>exact ⟨0,s.tasks,Nat.zero_le _,rfl,VX,Hn,fun j t hj=>by omega,KX.out⟩
 case round =>
  obtain ⟨k,ys,hk,rfl,V,hy,hf,hK⟩:=hrel
  clear VX KX
  by_cases hlt:k < tn
  ·have hlt':(k:Int) < (tn:Int):=by omega
   obtain ⟨t,ht⟩:=cd (xs:=s.tasks) (k:=k) (by rw [Hn.out];exact hlt)
   have ht0:Ts Z ta s.tasks:=HS.out.lay.t
   obtain ⟨b,off,rfl,r0,r1⟩:=ht0.at ht (by omega)
   have HT:Hid (s.tasks[k]?=some t):=ht
   obtain ⟨rb,hrb⟩:=V.out.own.aW (k:=k) (by show _ < ys.length;rw [hy.out];exact hlt)
   dsimp only at hrb
   subst hrb
   obtain ⟨y,hyk⟩:=cd (xs:=ys) (k:=k) (by rw [hy.out];exact hlt)
   have Hy:Hid (ys[k]?=some y):=hyk
   have hcp:=HC.out t (List.mem_of_getElem? ht)
   have hcp1:0 <= t.cpu:=hcp.1
   have hcp2:t.cpu < (fn:Int):=by have:=hcp.2;rw [jz.out] at this;exact this
   clear ht hyk ht0 hcp
   go_wp2_with fail
   change Calls _ _ _ (wr.alloc (.cells (tc t) 43)) _
   have KY:aa Z (wr.alloc (.cells (tc t) 43)):=hK.alloc _
   have TB:Hid (aq (wr.alloc (.cells (tc t) 43)) wr.heap.size (tc t)):=aq.new _ _ _
   have VY:Hid (br (wr.alloc (.cells (tc t) 43)) Z.heap.size ob ⟨⟨some ⟨rb,0,none⟩,tn,aC⟩,⟨bu,bx,aD⟩,⟨ch,cj,aK⟩,⟨bA,fn',aE⟩,⟨bB,bC,aF⟩⟩ cu { s with tasks:=ys }):=V.out.keeps ((aa.refl _).alloc _)
   have FT:Hid (∀ i,¬ aX ⟨⟨some ⟨rb,0,none⟩,tn,aC⟩,⟨bu,bx,aD⟩,⟨ch,cj,aK⟩,⟨bA,fn',aE⟩,⟨bB,bC,aF⟩⟩ cu i wr.heap.size):=fun i hi=>by have:=(V.out.own.aG hi).2;omega
   have GT:Hid (wr.heap.size≠ob):=by have:=V.out.box.lt;show _≠_;omega
   have ZT:Hid (Z.heap.size <= wr.heap.size):=hK.size
   clear V hK
   generalize wr.alloc (.cells (tc t) 43)=Y at *
   generalize wr.heap.size=tb at *
   have TW:Two Y (some ⟨b,off,none⟩) tn ag s.tasks la ln ah s.ak:=⟨(HS.out.keeps KY).gF,(HS.out.keeps KY).gx⟩
   refine (vZ TW t.no).mono ?_
   rintro e w2 ⟨rfl,k2⟩
   have K2:aa Z w2:=KY.trans k2
   have T2:Hid (aq w2 tb (tc t)):=TB.out.keeps k2
   have V2:Hid (br w2 Z.heap.size ob ⟨⟨some ⟨rb,0,none⟩,tn,aC⟩,⟨bu,bx,aD⟩,⟨ch,cj,aK⟩,⟨bA,fn',aE⟩,⟨bB,bC,aF⟩⟩ cu { s with tasks:=ys }):=VY.out.keeps k2
   clear TB VY KY k2 TW
   obtain ⟨c,Hc⟩:∃ c,Hid (iS s.tasks s.ak t.no=c):=⟨_,rfl⟩
   rw [Hc.out]
   cases c
   ·have HW1:Hid (kJ s t={ t with idle:=true }):=by show _=_;unfold kJ;rw [Hc.out];rfl
    obtain ⟨_,q1,q2⟩:=T2.out
    go_upto_region 11 with fail
    have D3:Hid (aq (w2.setCell ⟨tb,4,none⟩ (.bool true)) tb (tc { t with idle:=true })):=T2.out.idle true
    have V3:Hid (br (w2.setCell ⟨tb,4,none⟩ (.bool true)) Z.heap.size ob ⟨⟨some ⟨rb,0,none⟩,tn,aC⟩,⟨bu,bx,aD⟩,⟨ch,cj,aK⟩,⟨bA,fn',aE⟩,⟨bB,bC,aF⟩⟩ cu { s with tasks:=ys }):=V2.out.elsewhere FT.out GT.out [.bool true] 4
    have K3:aa Z (w2.setCell ⟨tb,4,none⟩ (.bool true)):=K2.setCell (p:=⟨tb,4,none⟩) ZT.out _
    clear q1 q2 K2 T2 V2
    generalize w2.setCell ⟨tb,4,none⟩ (.bool true)=X3 at *
    obtain ⟨_,d1,d2⟩:=D3.out
    obtain ⟨_,o1,o2⟩:=V3.out.box
    dsimp only [ae] at o1
    obtain ⟨z1,z2⟩:=V3.out.own.aJ (rb:=rb) rfl (k:=k) (t:=y) Hy.out
    have y0:X3.cell? ⟨rb,k*14,none⟩=some (.int .i64 y.no):=z1 0 (by omega)
    go_upto_region 4 with fail
    have V4:Hid (br (putC X3 rb (k*14) (tc { t with idle:=true }).toList) Z.heap.size ob ⟨⟨some ⟨rb,0,none⟩,tn,aC⟩,⟨bu,bx,aD⟩,⟨ch,cj,aK⟩,⟨bA,fn',aE⟩,⟨bB,bC,aF⟩⟩ cu { s with tasks:=ys.set k { t with idle:=true } }):=V3.out.task (rb:=rb) rfl (by show _ < ys.length;rw [hy.out];exact hlt) { t with idle:=true }
    have K4:Hid (aa Z (putC X3 rb (k*14) (tc { t with idle:=true }).toList)):=V3.out.fe (rb:=rb) rfl (k*14) (tc { t with idle:=true }).toList K3 (Nat.le_refl _)
    change Code.wp _ _ _ _ (putC X3 rb (k*14) (tc { t with idle:=true }).toList)
    clear V3 K3 d1 d2 o1 o2 z1 z2 y0 D3
    generalize putC X3 rb (k*14) (tc { t with idle:=true }).toList=X4 at *
    go_wp2
    refine ⟨⟨k+1,ys.set k { t with idle:=true },by omega,by go_num,V4,by show _=_;simpa using hy.out,?_,K4.out⟩,by simp only [intOf];omega⟩
    intro j t2 hj hj2
    by_cases e:j=k
    ·subst e
     rw [HT.out] at hj2
     cases hj2
     rw [HW1.out]
     exact List.getElem?_set_self (by rw [hy.out];exact hlt)
    ·rw [List.getElem?_set_ne (Ne.symm e)]
     exact hf.out j t2 (by omega) hj2
   cases c2:t.idle
   ·have HW1:Hid (kJ s t={ t with idle:=false }):=by show _=_;unfold kJ;rw [Hc.out,c2];rfl
    obtain ⟨_,q1,q2⟩:=T2.out
    go_upto_region 11 with fail
    have D3:Hid (aq (w2.setCell ⟨tb,4,none⟩ (.bool false)) tb (tc { t with idle:=false })):=T2.out.idle false
    have V3:Hid (br (w2.setCell ⟨tb,4,none⟩ (.bool false)) Z.heap.size ob ⟨⟨some ⟨rb,0,none⟩,tn,aC⟩,⟨bu,bx,aD⟩,⟨ch,cj,aK⟩,⟨bA,fn',aE⟩,⟨bB,bC,aF⟩⟩ cu { s with tasks:=ys }):=V2.out.elsewhere FT.out GT.out [.bool false] 4
    have K3:aa Z (w2.setCell ⟨tb,4,none⟩ (.bool false)):=K2.setCell (p:=⟨tb,4,none⟩) ZT.out _
    clear q1 q2 K2 T2 V2
    generalize w2.setCell ⟨tb,4,none⟩ (.bool false)=X3 at *
    obtain ⟨_,d1,d2⟩:=D3.out
    obtain ⟨_,o1,o2⟩:=V3.out.box
    dsimp only [ae] at o1
    obtain ⟨z1,z2⟩:=V3.out.own.aJ (rb:=rb) rfl (k:=k) (t:=y) Hy.out
    have y0:X3.cell? ⟨rb,k*14,none⟩=some (.int .i64 y.no):=z1 0 (by omega)
    go_upto_region 4 with fail
    have V4:Hid (br (putC X3 rb (k*14) (tc { t with idle:=false }).toList) Z.heap.size ob ⟨⟨some ⟨rb,0,none⟩,tn,aC⟩,⟨bu,bx,aD⟩,⟨ch,cj,aK⟩,⟨bA,fn',aE⟩,⟨bB,bC,aF⟩⟩ cu { s with tasks:=ys.set k { t with idle:=false } }):=V3.out.task (rb:=rb) rfl (by show _ < ys.length;rw [hy.out];exact hlt) { t with idle:=false }
    have K4:Hid (aa Z (putC X3 rb (k*14) (tc { t with idle:=false }).toList)):=V3.out.fe (rb:=rb) rfl (k*14) (tc { t with idle:=false }).toList K3 (Nat.le_refl _)
    change Code.wp _ _ _ _ (putC X3 rb (k*14) (tc { t with idle:=false }).toList)
    clear V3 K3 d1 d2 o1 o2 z1 z2 y0 D3
    generalize putC X3 rb (k*14) (tc { t with idle:=false }).toList=X4 at *
    go_wp2
    refine ⟨⟨k+1,ys.set k { t with idle:=false },by omega,by go_num,V4,by show _=_;simpa using hy.out,?_,K4.out⟩,by simp only [intOf];omega⟩
    intro j t2 hj hj2
    by_cases e:j=k
    ·subst e
     rw [HT.out] at hj2
     cases hj2
     rw [HW1.out]
     exact List.getElem?_set_self (by rw [hy.out];exact hlt)
    ·rw [List.getElem?_set_ne (Ne.symm e)]
     exact hf.out j t2 (by omega) hj2
   ·obtain ⟨cn,hcn⟩:∃ cn:Nat,t.cpu=(cn:Int):=⟨t.cpu.toNat,by omega⟩
    have JF:(cn:Int) < (fn:Int):=by omega
    have vm:cn < fn:=by omega
    obtain ⟨fl,hfl⟩:=cd (xs:=s.ax) (k:=cn) (by rw [jz.out];exact vm)
    have AW:Hid (s.ax.getD t.cpu.toNat 0=fl):=by show _=_;rw [hcn,Int.toNat_natCast,List.getD_eq_getElem?_getD,hfl];rfl
    have HW0:Hid (kJ s t={ lW (iV { t with idle:=false } s.now) fl with idle:=false }):=by show _=_;unfold kJ;rw [Hc.out,c2,AW.out];rfl
    clear AW
    obtain ⟨u,rfl⟩:∃ u:ar,t={ u with idle:=true,cpu:=(cn:Int) }:=⟨t,by rw [<- c2,<- hcn]⟩
    have ht1:Ns Z fa s.ax:=HS.out.lay.f
    obtain ⟨fb,vn,rfl,f0⟩:=ht1.at hfl
    clear c2 hcn hfl ht1 hcp1 hcp2
    obtain ⟨N1,nF⟩:∃ N,Hid (iV { u with idle:=false,cpu:=(cn:Int) } s.now=N):=⟨_,rfl⟩
    obtain ⟨N2,mg⟩:∃ N,Hid (lW N1 fl=N):=⟨_,rfl⟩
    have HW1:Hid (kJ s { u with idle:=true,cpu:=(cn:Int) }={ N2 with idle:=false }):=by show _=_;rw [HW0.out,<- mg.out,<- nF.out]
    clear HW0
    obtain ⟨_,q1,q2⟩:=T2.out
    go_upto_region 9 with fail
    have D1:Hid (aq (w2.setCell ⟨tb,4,none⟩ (.bool false)) tb (tc { u with idle:=false,cpu:=(cn:Int) })):=T2.out.idle false
    have V1:Hid (br (w2.setCell ⟨tb,4,none⟩ (.bool false)) Z.heap.size ob ⟨⟨some ⟨rb,0,none⟩,tn,aC⟩,⟨bu,bx,aD⟩,⟨ch,cj,aK⟩,⟨bA,fn',aE⟩,⟨bB,bC,aF⟩⟩ cu { s with tasks:=ys }):=V2.out.elsewhere FT.out GT.out [.bool false] 4
    have K1:aa Z (w2.setCell ⟨tb,4,none⟩ (.bool false)):=K2.setCell (p:=⟨tb,4,none⟩) ZT.out _
    clear q1 q2 K2 T2 V2
    generalize w2.setCell ⟨tb,4,none⟩ (.bool false)=X1 at *
    have H0:Hid (Has Z tb (tc { u with idle:=false,cpu:=(cn:Int) }) X1):=⟨K1,D1.out⟩
    have q0:∀ w',Has Z tb (tc { u with idle:=false,cpu:=(cn:Int) }) w'->∀ j,w'.cell? ⟨tb,j,none⟩=(tc { u with idle:=false,cpu:=(cn:Int) })[j]?:=fun w' h=>h.box.cells
    have f1:∀ w',Has Z tb (tc { u with idle:=false,cpu:=(cn:Int) }) w'->w'.cell? ⟨fb,vn+cn,none⟩=some (.int .i64 fl):=fun w' h=>f0 w' h.keeps
    have hb2:∀ w',Has Z tb (tc { u with idle:=false,cpu:=(cn:Int) }) w'->∀ j,w'.cell? ⟨w.heap.size,j,none⟩=_:=fun w' h=>hb w' h.keeps
    clear f0 r0 r1 D1
    refine kt 11 (S:=(fun w'=>Has Z tb (tc { u with idle:=false,cpu:=(cn:Int) }) w')) (by kernel_rfl) ?_ (fun hHeld => ?_)
    ·exact H0.out.go (aa.refl _).drew
    refine ad.go [0,1,2,4,5,6,7,8,9] ?_
    iterate 9 (refine gN (h := ?_);try simp only [au])
    refine ad.nil ?_
    refine gy (i:=3) (h:=fun K hK => ?_)
    go_simp
    first
     | (go_at_call 201;refine (xf { u with idle:=false,cpu:=(cn:Int) } s.now _).mono ?_;rintro e w3 ⟨rfl,k3⟩;rw [nF.out])
     | (go_at_call 200;refine (wR N1 fl _).mono ?_;rintro e w4 ⟨rfl,k4⟩;rw [mg.out])
    try go_wp2_with fail
    refine hK.out _ _ ?_ fun hHeld => ?_
    ·exact Has.go (by assumption) (by assumption)
    clear hK K
    try simp only [au]
    refine gy (i:=10) (h:=fun K hK => ?_)
    go_simp
    first
     | (go_at_call 201;refine (xf { u with idle:=false,cpu:=(cn:Int) } s.now _).mono ?_;rintro e w3 ⟨rfl,k3⟩;rw [nF.out])
     | (go_at_call 200;refine (wR N1 fl _).mono ?_;rintro e w4 ⟨rfl,k4⟩;rw [mg.out])
    try go_wp2_with fail
    refine hK.out _ _ ?_ fun hHeld => ?_
    ·exact Has.go (by assumption) (by assumption)
    clear hK K
    try simp only [au]
    refine ku (h:=fun K hK => ?_)
    have HB:Has Z tb (tc { u with idle:=false,cpu:=(cn:Int) }) w4:=(by assumption);obtain ⟨_,e1,e2⟩:=HB.box
    go_simp
    try go_wp2_with fail
    refine hK.out _ _ ?_
    clear hK K
    try simp only [au]
    have D2:Hid (aq (putC w4 tb 0 (tc N2).toList) tb (tc N2)):=HB.box.putC (tc N2).toList rfl
    have kk:aa X1 w4:=((aa.refl X1).drew.trans k3).trans k4
    have V2:Hid (br (putC w4 tb 0 (tc N2).toList) Z.heap.size ob ⟨⟨some ⟨rb,0,none⟩,tn,aC⟩,⟨bu,bx,aD⟩,⟨ch,cj,aK⟩,⟨bA,fn',aE⟩,⟨bB,bC,aF⟩⟩ cu { s with tasks:=ys }):=(V1.out.keeps kk).elsewhere FT.out GT.out (tc N2).toList 0
    have K2:aa Z (putC w4 tb 0 (tc N2).toList):=aa.putC (b:=tb) ZT.out _ 0 HB.keeps
    change Exit.then _ _ _ _ (putC w4 tb 0 (tc N2).toList)
    clear e1 e2 q0 f1 hb2 H0 kk k3 k4 HB V1 K1 hHeld
    generalize putC w4 tb 0 (tc N2).toList=X2 at *
    obtain ⟨_,q1,q2⟩:=D2.out
    go_upto_region 11 with fail
    have D3:Hid (aq (X2.setCell ⟨tb,4,none⟩ (.bool false)) tb (tc { N2 with idle:=false })):=D2.out.idle false
    have V3:Hid (br (X2.setCell ⟨tb,4,none⟩ (.bool false)) Z.heap.size ob ⟨⟨some ⟨rb,0,none⟩,tn,aC⟩,⟨bu,bx,aD⟩,⟨ch,cj,aK⟩,⟨bA,fn',aE⟩,⟨bB,bC,aF⟩⟩ cu { s with tasks:=ys }):=V2.out.elsewhere FT.out GT.out [.bool false] 4
    have K3:aa Z (X2.setCell ⟨tb,4,none⟩ (.bool false)):=K2.setCell (p:=⟨tb,4,none⟩) ZT.out _
    clear q1 q2 K2 D2 V2
    generalize X2.setCell ⟨tb,4,none⟩ (.bool false)=X3 at *
    obtain ⟨_,d1,d2⟩:=D3.out
    obtain ⟨_,o1,o2⟩:=V3.out.box
    dsimp only [ae] at o1
    obtain ⟨z1,z2⟩:=V3.out.own.aJ (rb:=rb) rfl (k:=k) (t:=y) Hy.out
    have y0:X3.cell? ⟨rb,k*14,none⟩=some (.int .i64 y.no):=z1 0 (by omega)
    go_upto_region 4 with fail
    have V4:Hid (br (putC X3 rb (k*14) (tc { N2 with idle:=false }).toList) Z.heap.size ob ⟨⟨some ⟨rb,0,none⟩,tn,aC⟩,⟨bu,bx,aD⟩,⟨ch,cj,aK⟩,⟨bA,fn',aE⟩,⟨bB,bC,aF⟩⟩ cu { s with tasks:=ys.set k { N2 with idle:=false } }):=V3.out.task (rb:=rb) rfl (by show _ < ys.length;rw [hy.out];exact hlt) { N2 with idle:=false }
    have K4:Hid (aa Z (putC X3 rb (k*14) (tc { N2 with idle:=false }).toList)):=V3.out.fe (rb:=rb) rfl (k*14) (tc { N2 with idle:=false }).toList K3 (Nat.le_refl _)
    change Code.wp _ _ _ _ (putC X3 rb (k*14) (tc { N2 with idle:=false }).toList)
    clear V3 K3 d1 d2 o1 o2 z1 z2 y0 D3
    generalize putC X3 rb (k*14) (tc { N2 with idle:=false }).toList=X4 at *
    go_wp2
    refine ⟨⟨k+1,ys.set k { N2 with idle:=false },by omega,by go_num,V4,by show _=_;simpa using hy.out,?_,K4.out⟩,by simp only [intOf];omega⟩
    intro j t2 hj hj2
    by_cases e:j=k
    ·subst e
     rw [HT.out] at hj2
     cases hj2
     rw [HW1.out]
     exact List.getElem?_set_self (by rw [hy.out];exact hlt)
    ·rw [List.getElem?_set_ne (Ne.symm e)]
     exact hf.out j t2 (by omega) hj2
  ·have hlt':decide ((k:Int) < (tn:Int))=false:=by simp;omega
   have HE:Hid (ys=s.tasks.map (kJ s)):=by
    show _=_
    apply List.ext_getElem?
    intro j
    rw [List.getElem?_map]
    cases e:s.tasks[j]? with
    | none =>
     have:s.tasks.length <= j:=List.getElem?_eq_none_iff.1 e
     rw [List.getElem?_eq_none (by rw [hy.out,<- Hn.out];exact this)];rfl
    | some t=>exact hf.out j t (by have:=cZ e;rw [Hn.out] at this;omega) e
   have hRb:aq wr (w.heap.size+1) zc:=R0.out.keeps hK
   obtain ⟨_,e1,e2⟩:=hRb
   obtain ⟨_,o1,o2⟩:=V.out.box
   dsimp only [ae] at o1
   go_wp2
   have D:=(R0.out.keeps hK).putC (ae s ⟨⟨cg,tn,aC⟩,⟨bu,bx,aD⟩,⟨ch,cj,aK⟩,⟨bA,fn',aE⟩,⟨bB,bC,aF⟩⟩).toList rfl
   have KZ:=aa.putC (b:=w.heap.size+1) (by omega) (ae s ⟨⟨cg,tn,aC⟩,⟨bu,bx,aD⟩,⟨ch,cj,aK⟩,⟨bA,fn',aE⟩,⟨bB,bC,aF⟩⟩).toList 0 (kZ.trans hK)
   have S0:ay (putC wr (w.heap.size+1) 0 (ae s ⟨⟨cg,tn,aC⟩,⟨bu,bx,aD⟩,⟨ch,cj,aK⟩,⟨bA,fn',aE⟩,⟨bB,bC,aF⟩⟩).toList) w.heap.size ⟨⟨cg,tn,aC⟩,⟨bu,bx,aD⟩,⟨ch,cj,aK⟩,⟨bA,fn',aE⟩,⟨bB,bC,aF⟩⟩ cu (eY s):=by
    have h1:ay wr Z.heap.size ⟨⟨cg,tn,aC⟩,⟨bu,bx,aD⟩,⟨ch,cj,aK⟩,⟨bA,fn',aE⟩,⟨bB,bC,aF⟩⟩ cu (eY s):=by
     have:=V.out.own
     rw [HE.out] at this
     exact this
    exact (ay.aT (fun i hi=>by have:=(h1.aG hi).1;have:=hz.out;omega) _ _ h1).base (by have:=hz.out;omega)
   change bodyPost _ _ _ _ _ (putC wr (w.heap.size+1) 0 (ae s ⟨⟨cg,tn,aC⟩,⟨bu,bx,aD⟩,⟨ch,cj,aK⟩,⟨bA,fn',aE⟩,⟨bB,bC,aF⟩⟩).toList)
   generalize putC wr (w.heap.size+1) 0 (ae s ⟨⟨cg,tn,aC⟩,⟨bu,bx,aD⟩,⟨ch,cj,aK⟩,⟨bA,fn',aE⟩,⟨bB,bC,aF⟩⟩).toList=Q at D KZ S0 ⊢
   exact bodyPost_ret (v := .agg (ae s ⟨⟨cg,tn,aC⟩,⟨bu,bx,aD⟩,⟨ch,cj,aK⟩,⟨bA,fn',aE⟩,⟨bB,bC,aF⟩⟩)) (by simp [results,Tryz.results177,go_sem,D.cells]) rfl ⟨_,cu,rfl,S0,KZ⟩
end Go.Proofs.YteagpjlgjfaclaaGreatDoor
