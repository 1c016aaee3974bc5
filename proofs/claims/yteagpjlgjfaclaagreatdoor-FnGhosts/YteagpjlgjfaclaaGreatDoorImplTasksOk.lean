/-
  A list of tasks: the program's TasksOk.
  The program's CallOk.
  The program's calls on a system of one's own in a variable:
  Rows of parts of time, held against each other, marked, and
  The walk of FnExactSysNew, over a contract of the program's
  Closed facts on the program as a whole that every statement
  The walk of FnExactSharesOn, over a contract of the program
  What a law asks of a text and of lists of tasks: a byte, wh
-/
import Derived.Test.YteagpjlgjfaclaaGreatDoorImplWhole
import Derived.Test.YteagpjlgjfaclaaGreatDoorFairList
import Derived.Test.YteagpjlgjfaclaaGreatDoorCallLaws
import Derived.Test.YteagpjlgjfaclaaGreatDoorSysCopy
import Derived.Test.YteagpjlgjfaclaaGreatDoorTaskList
import Derived.Test.YteagpjlgjfaclaaGreatDoorCur
import Derived.Test.YteagpjlgjfaclaaGreatDoorSysShares
import Derived.Test.YteagpjlgjfaclaaGreatDoorSysNewS
import Derived.Deep.RegionHeld3
import Derived.Test.YteagpjlgjfaclaaGreatDoorPlain1
import Derived.Test.YteagpjlgjfaclaaGreatDoorLockCopy
import Derived.Test.YteagpjlgjfaclaaGreatDoorTaskPut
namespace Go.Proofs.YteagpjlgjfaclaaGreatDoor
set_option maxRecDepth 100000
section
open Go.RowKit
attribute [local go_sem] aa.refl aa.alloc aa.drew aa.drewN
theorem Gp {ts:List ar} (h:12 < ts.length):dz ts=false:=by
 have:decide (ts.length <= 12)=false:=by simp;omega
 simp [dz,this]
set_option maxHeartbeats 4000000 in
theorem FZ:Ef:=by
 intro a cap ts w hl hs
 unfold maxLen at hl
 generalize hn:ts.length=n at hl
 have Hn:Hid (ts.length=n):=hn
 clear hn
 by_cases h12:n <= 12
 case neg =>
  have hd:decide (12 < (n:Int))=true:=by simp;omega
  have Hr:Hid (dz ts=false):=Gp (by rw [Hn.out];omega)
  go_enter Tryz.func33,Tryz.ntmps33
  go_wp2
  go_ret
  exact ⟨by rw [Hr.out];rfl,aa.refl _⟩
 have hd:decide (12 < (n:Int))=false:=by simp;omega
 go_enter Tryz.func33,Tryz.ntmps33
 go_wp2
 go_loopw [10] (fun i wr=>∃ k:Nat,k <= n /\ i = .int .i64 k /\ aa w wr /\ Hid (∀ j t,j < k->ts[j]?=some t->bN t=true) /\ Hid (∀ j s t,j+1 < k->ts[j]?=some s->ts[j+1]?=some t->s.no < t.no)) (fun i _=>n - (intOf i).toNat)
 case atStart=>exact ⟨0,Nat.zero_le _,rfl,aa.refl _,fun j t hj=>by omega,fun j s t hj=>by omega⟩
 case round =>
  obtain ⟨k,hk,rfl,hK,H1,H2⟩:=hrel
  by_cases hlt:k < n
  ·obtain ⟨t,ht⟩:=iT (xs:=ts) (k:=k) (by rw [Hn.out];exact hlt)
   have hlt':(k:Int) < (n:Int):=by omega
   have Ht:Hid (ts[k]?=some t):=ht
   have kW:aa w (wr.alloc (.cells (tc t) 43)):=hK.alloc _
   have q1:=dA wr (tc t) 43
   have K0:=aa.refl (wr.alloc (.cells (tc t) 43))
   cases hb:bN t
   ·obtain ⟨b,off,rfl,r0,r1⟩:=hs.at ht (by omega)
    have Hr:Hid (dz ts=false):=yy ht hb
    clear hs ht
    go_wp2_with fail
    clear r0 r1 hK
    generalize wr.alloc (.cells (tc t) 43)=W at *
    generalize wr.heap.size=s at *
    refine wp_region_held_drew (S:=(fun w'=>aa W w')) (by kernel_rfl) ?_ (fun hHeld => ?_)
    ·exact K0.drew
    refine di 0 (h := ?_)
    try simp only [au]
    refine aR 1 (h:=fun K hK => ?_)
    go_simp
    first
     | (go_at_call 74;refine (p5 t _).mono ?_;rintro e w' ⟨rfl,hkk⟩;rw [hb])
    try go_wp2_with fail
    refine hK.out _ _ ?_ fun hHeld => ?_
    ·exact aa.trans (by assumption) (by assumption)
    clear hK K
    try simp only [au]
    refine ad.go [2,3] ?_
    iterate 2 (refine aM (h := ?_);try simp only [au])
    refine ad.nil ?_
    refine ad.go [4,5,6,7,8,9,10,11,12,13,14,15,16] ?_
    iterate 13 (refine dK (h := ?_);try simp only [au])
    refine ad.nil ?_
    refine di 17 (h := ?_)
    try simp only [au]
    refine wpAnyH_done (by kernel_rfl) ?_ _
    go_wp2
    go_ret
    exact ⟨by rw [Hr.out];rfl,kW.trans (by assumption)⟩
   ·rcases Nat.eq_zero_or_pos k with h0 | h0
    ·obtain ⟨b,off,rfl,r0,r1⟩:=hs.at ht (by omega)
     have hz:decide (0 < k)=false:=by simp;omega
     have H0:Hid (k=0):=h0
     clear hs ht h0
     go_wp2_with fail
     clear r0 r1 hK
     generalize wr.alloc (.cells (tc t) 43)=W at *
     generalize wr.heap.size=s at *
     refine wp_region_held_drew (S:=(fun w'=>aa W w')) (by kernel_rfl) ?_ (fun hHeld => ?_)
     ·exact K0.drew
     refine di 0 (h := ?_)
     try simp only [au]
     refine aR 1 (h:=fun K hK => ?_)
     go_simp
     first
      | (go_at_call 74;refine (p5 t _).mono ?_;rintro e w' ⟨rfl,hkk⟩;rw [hb])
     try go_wp2_with fail
     refine hK.out _ _ ?_ fun hHeld => ?_
     ·exact aa.trans (by assumption) (by assumption)
     clear hK K
     try simp only [au]
     refine ad.go [2,3,4,5,6] ?_
     iterate 5 (refine aM (h := ?_);try simp only [au])
     refine ad.nil ?_
     refine ad.go [7,8,9,10,11,12,13,14,15] ?_
     iterate 9 (refine dK (h := ?_);try simp only [au])
     refine ad.nil ?_
     refine ad.go [16,17] ?_
     iterate 2 (refine aM (h := ?_);try simp only [au])
     refine ad.nil ?_
     refine wpAnyH_done (by kernel_rfl) ?_ _
     go_wp2
     exact ⟨⟨k+1,by omega,by go_num,kW.trans (by assumption),fun j s hj hjs=>by
      obtain rfl:j=k:=by have:=H0.out;omega
      rw [Ht.out] at hjs;cases hjs;exact hb,fun j s u hj=>by have:=H0.out;omega⟩,by simp only [intOf];omega⟩
    ·obtain ⟨m,hm⟩:∃ m,k=m+1:=⟨k - 1,by omega⟩
     obtain ⟨s,hs1⟩:=iT (xs:=ts) (k:=m) (by rw [Hn.out];omega)
     obtain ⟨b,off,rfl,r0,r1⟩:=hs.at ht (by omega)
     obtain ⟨b',off',e',p0,p1⟩:=hs.at hs1 (by omega)
     simp only [Option.some.injEq,Addr.mk.injEq] at e'
     obtain ⟨rfl,rfl,-⟩:=e'
     have Hs:Hid (ts[m]?=some s):=hs1
     have hk1:(m:Int) < (n:Int):=by omega
     have hp:0 < k:=h0
     have hm1:(k:Int) - 1=(m:Int):=by omega
     have hw:IntKind.i64.wrap (m:Int)=(m:Int):=Go.IntWalk.i64_in _ (by omega)
     have Hm:Hid (k=m+1):=hm
     have p2:∀ w',aa (wr.alloc (.cells (tc t) 43)) w'->w'.cell? ⟨b,off+m*14,none⟩=(tc s)[0]?:=fun w' h=>p0 w' (kW.trans h)
     clear hs ht hs1 p0 p1 hm h0
     cases hd:decide (t.no <= s.no)
     ·go_wp2_with fail
      clear r0 r1 hK
      generalize wr.alloc (.cells (tc t) 43)=W at *
      generalize wr.heap.size=g at *
      refine wp_region_held_drew (S:=(fun w'=>aa W w')) (by kernel_rfl) ?_ (fun hHeld => ?_)
      ·exact K0.drew
      refine di 0 (h := ?_)
      try simp only [au]
      refine aR 1 (h:=fun K hK => ?_)
      go_simp
      first
       | (go_at_call 74;refine (p5 t _).mono ?_;rintro e w' ⟨rfl,hkk⟩;rw [hb])
      try go_wp2_with fail
      refine hK.out _ _ ?_ fun hHeld => ?_
      ·exact aa.trans (by assumption) (by assumption)
      clear hK K
      try simp only [au]
      refine ad.go [2,3,4,5,6,7,8,9,10,11,12,13,14,15,16,17] ?_
      iterate 16 (refine aM (h := ?_);try simp only [au])
      refine ad.nil ?_
      refine wpAnyH_done (by kernel_rfl) ?_ _
      go_wp2
      exact ⟨⟨k+1,by omega,by go_num,kW.trans (by assumption),fun j x hj nh=>by
       by_cases e:j=k
       ·subst e;rw [Ht.out] at nh;cases nh;exact hb
       ·exact H1.out j x (by omega) nh,fun j x y hj hx hy=>by
       have hk:=Hm.out
       by_cases e:j=m
       ·subst e;rw [<- hk] at hy;rw [Hs.out] at hx;rw [Ht.out] at hy;cases hx;cases hy
        have:=of_decide_eq_false hd;omega
       ·exact H2.out j x y (by omega) hx hy⟩,by simp only [intOf];omega⟩
     ·have Hr:Hid (dz ts=false):=yz Hs.out (by rw [<- Hm.out];exact Ht.out) (of_decide_eq_true hd)
      go_wp2_with fail
      clear r0 r1 hK
      generalize wr.alloc (.cells (tc t) 43)=W at *
      generalize wr.heap.size=g at *
      refine wp_region_held_drew (S:=(fun w'=>aa W w')) (by kernel_rfl) ?_ (fun hHeld => ?_)
      ·exact K0.drew
      refine di 0 (h := ?_)
      try simp only [au]
      refine aR 1 (h:=fun K hK => ?_)
      go_simp
      first
       | (go_at_call 74;refine (p5 t _).mono ?_;rintro e w' ⟨rfl,hkk⟩;rw [hb])
      try go_wp2_with fail
      refine hK.out _ _ ?_ fun hHeld => ?_
      ·exact aa.trans (by assumption) (by assumption)
      clear hK K
      try simp only [au]
      refine ad.go [2,3,4,5,6,7,8,9,10,11,12,13,14,15,16,17] ?_
      iterate 16 (refine aM (h := ?_);try simp only [au])
      refine ad.nil ?_
      refine wpAnyH_done (by kernel_rfl) ?_ _
      go_wp2
      go_ret
      exact ⟨by rw [Hr.out];rfl,kW.trans (by assumption)⟩
  ·have Hr:Hid (dz ts=true):=by
    show _=_
    have hh:∀ (j:Nat) (t:ar),ts[j]?=some t->j < k:=fun j t h=>by
     rcases Nat.lt_or_ge j ts.length with h' | h'
     ·have:=Hn.out;omega
     ·simp [List.getElem?_eq_none h'] at h
    rw [yP (fun j t h=>H1.out j t (hh j t h) h) (fun j s t h1 h2=>H2.out j s t (hh _ t h2) h1 h2),Hn.out]
    simp [h12]
   go_wp2
   go_ret
   exact ⟨by rw [Hr.out];rfl,hK⟩
end
section
open Go.RowKit
attribute [local go_sem] aa.refl aa.alloc aa.drew aa.drewN
attribute [local go_sem high] vD
set_option linter.unusedSimpArgs false in
set_option maxHeartbeats 4000000 in
theorem Gm:Ch:=by
 intro c w
 cases c1:(c.kind==1)
 rotate_left
 ·have Hr:Hid (ef c=true):=by
   show _=_
   have hk:c.kind=1:=by simpa using c1
   simp [ef,dU,fh,aH,hk]
  go_enter Tryz.func35,Tryz.ntmps35
  go_wp2
  go_ret
  exact ⟨by rw [Hr.out];rfl,(aa.refl w).alloc _⟩
 cases c2:(c.kind==2)
 rotate_left
 ·have Hr:Hid (ef c=true):=by
   show _=_
   have hk:c.kind=2:=by simpa using c2
   simp [ef,dU,fh,aH,hk]
  go_enter Tryz.func35,Tryz.ntmps35
  go_wp2
  go_ret
  exact ⟨by rw [Hr.out];rfl,(aa.refl w).alloc _⟩
 cases c3:(c.kind==3)
 rotate_left
 ·have Hr:Hid (ef c=fh c ⟨c.kind,c.no,c.cpu,c.a,0⟩):=by
   show _=_
   have hk:c.kind=3:=by simpa using c3
   simp [ef,dU,aH,hk]
  go_enter Tryz.func35,Tryz.ntmps35
  go_wp2
  all_goals go_ret
  all_goals exact ⟨by rw [Hr.out];first | rfl | (simp_all [fh,go_sem];done),by repeat (first | exact aa.refl _ | refine aa.alloc ?_ _ | refine aa.drewN ?_ _ | refine aa.drew ?_)⟩
 cases c4:(c.kind==4)
 rotate_left
 ·have Hr:Hid (ef c=fh c ⟨c.kind,c.no,0,0,0⟩):=by
   show _=_
   have hk:c.kind=4:=by simpa using c4
   simp [ef,dU,aH,hk]
  go_enter Tryz.func35,Tryz.ntmps35
  go_wp2
  all_goals go_ret
  all_goals exact ⟨by rw [Hr.out];first | rfl | (simp_all [fh,go_sem];done),by repeat (first | exact aa.refl _ | refine aa.alloc ?_ _ | refine aa.drewN ?_ _ | refine aa.drew ?_)⟩
 cases c5:(c.kind==5)
 rotate_left
 ·have Hr:Hid (ef c=fh c ⟨c.kind,c.no,0,0,0⟩):=by
   show _=_
   have hk:c.kind=5:=by simpa using c5
   simp [ef,dU,aH,hk]
  go_enter Tryz.func35,Tryz.ntmps35
  go_wp2
  all_goals go_ret
  all_goals exact ⟨by rw [Hr.out];first | rfl | (simp_all [fh,go_sem];done),by repeat (first | exact aa.refl _ | refine aa.alloc ?_ _ | refine aa.drewN ?_ _ | refine aa.drew ?_)⟩
 cases c6:(c.kind==6)
 rotate_left
 ·have Hr:Hid (ef c=fh c ⟨c.kind,c.no,0,0,0⟩):=by
   show _=_
   have hk:c.kind=6:=by simpa using c6
   simp [ef,dU,aH,hk]
  go_enter Tryz.func35,Tryz.ntmps35
  go_wp2
  all_goals go_ret
  all_goals exact ⟨by rw [Hr.out];first | rfl | (simp_all [fh,go_sem];done),by repeat (first | exact aa.refl _ | refine aa.alloc ?_ _ | refine aa.drewN ?_ _ | refine aa.drew ?_)⟩
 cases c7:(c.kind==7)
 rotate_left
 ·have Hr:Hid (ef c=fh c ⟨c.kind,c.no,0,c.a,0⟩):=by
   show _=_
   have hk:c.kind=7:=by simpa using c7
   simp [ef,dU,aH,hk]
  go_enter Tryz.func35,Tryz.ntmps35
  go_wp2
  all_goals go_ret
  all_goals exact ⟨by rw [Hr.out];first | rfl | (simp_all [fh,go_sem];done),by repeat (first | exact aa.refl _ | refine aa.alloc ?_ _ | refine aa.drewN ?_ _ | refine aa.drew ?_)⟩
 cases c8:(c.kind==8)
 rotate_left
 ·have Hr:Hid (ef c=fh c ⟨c.kind,c.no,0,c.a,0⟩):=by
   show _=_
   have hk:c.kind=8:=by simpa using c8
   simp [ef,dU,aH,hk]
  go_enter Tryz.func35,Tryz.ntmps35
  go_wp2
  all_goals go_ret
  all_goals exact ⟨by rw [Hr.out];first | rfl | (simp_all [fh,go_sem];done),by repeat (first | exact aa.refl _ | refine aa.alloc ?_ _ | refine aa.drewN ?_ _ | refine aa.drew ?_)⟩
 cases c9:(c.kind==9)
 rotate_left
 ·have Hr:Hid (ef c=fh c ⟨c.kind,c.no,0,c.a,0⟩):=by
   show _=_
   have hk:c.kind=9:=by simpa using c9
   simp [ef,dU,aH,hk]
  go_enter Tryz.func35,Tryz.ntmps35
  go_wp2
  all_goals go_ret
  all_goals exact ⟨by rw [Hr.out];first | rfl | (simp_all [fh,go_sem];done),by repeat (first | exact aa.refl _ | refine aa.alloc ?_ _ | refine aa.drewN ?_ _ | refine aa.drew ?_)⟩
 cases c10:(c.kind==10)
 rotate_left
 ·have Hr:Hid (ef c=fh c ⟨c.kind,c.no,c.cpu,0,0⟩):=by
   show _=_
   have hk:c.kind=10:=by simpa using c10
   simp [ef,dU,aH,hk]
  go_enter Tryz.func35,Tryz.ntmps35
  go_wp2
  all_goals go_ret
  all_goals exact ⟨by rw [Hr.out];first | rfl | (simp_all [fh,go_sem];done),by repeat (first | exact aa.refl _ | refine aa.alloc ?_ _ | refine aa.drewN ?_ _ | refine aa.drew ?_)⟩
 cases c11:(c.kind==11)
 rotate_left
 ·have Hr:Hid (ef c=fh c ⟨c.kind,0,0,c.a,0⟩):=by
   show _=_
   have hk:c.kind=11:=by simpa using c11
   simp [ef,dU,aH,hk]
  go_enter Tryz.func35,Tryz.ntmps35
  go_wp2
  all_goals go_ret
  all_goals exact ⟨by rw [Hr.out];first | rfl | (simp_all [fh,go_sem];done),by repeat (first | exact aa.refl _ | refine aa.alloc ?_ _ | refine aa.drewN ?_ _ | refine aa.drew ?_)⟩
 have Hr:Hid (ef c=false):=by
  show _=_
  simp only [beq_eq_false_iff_ne,ne_eq] at c1 c2 c3 c4 c5 c6 c7 c8 c9 c10 c11
  have:aH c.kind 1 11=false:=by
   simp [aH]
   omega
  simp [ef,this]
 go_enter Tryz.func35,Tryz.ntmps35
 go_wp2
 go_ret
 exact ⟨by rw [Hr.out];rfl,(aa.refl w).alloc _⟩
end
section
open Go.RowKit
theorem br.g {w:World} {lo ob:Nat} {v:Sv} {vs:List Lv} {s:Sy} (h:br w lo ob v vs s):aN { w with heap:=#[] } lo Sv.zero [] w ob v vs s :=
 ⟨h,⟨h.own,⟨rfl,rfl,rfl,Nat.zero_le _,fun b hb _=>absurd hb (Nat.not_lt_zero b)⟩,fun _ _ _ => .inr (Nat.zero_le _)⟩,Nat.zero_le _⟩
def rD (lo ob:Nat) (v:Sv) (vs:List Lv) (s:Sy) (er:Nat->Addr) (n:Nat) (s':Sy) (w:World) (e:Ending) (w':World):Prop :=
 e = .returned (gJ er n) /\ aB (fun b=>b=ob∨∃ i,aX v vs i b) w w' /\ (n=0->∃ v' vs',br w' lo ob v' vs' s' /\ ∀ i b,aX v' vs' i b->(∃ j,aX v vs j b)∨w.heap.size <= b) /\ ∃ s1 v1,aq w' ob (ae s1 v1) /\ s1.now=s.now
def oq (lo:Nat) (er:Nat->Addr):Prop:=6 < lo /\ ∀ k,1 <= k->k <= 6->(er k).block < lo
theorem yh {P:Nat->Prop} {lo:Nat} {w w':World} {er:Nat->Addr} (h:cQ w er) (hb:oq lo er) (t:aB P w w') (hp:∀ q,P q->lo <= q):cQ w' er:=by
 have hlow:=h.low
 have h1:=hb.1
 have ne:∀ q,q < lo->¬ P q:=fun q hq hP=>by have:=hp q hP;omega
 refine ⟨fun k h1 h2=>(World.cell?_of_block (w:=w) (t.block k (by omega) (ne k (by omega)))).trans (h.var k h1 h2),Nat.lt_of_lt_of_le hlow t.size,h.apart,fun k h1 h2 => ?_⟩
 obtain ⟨c,ty,e⟩:=h.lies k h1 h2
 exact ⟨c,ty,(t.block _ (Array.getElem?_eq_some_iff.1 e).1 (ne _ (hb.2 k h1 h2))).trans e⟩
theorem Fp {lo ob:Nat} {v:Sv} {vs:List Lv} {s:Sy} {er:Nat->Addr} {n m:Nat} {s':Sy} {w X w':World} (VX:br X lo ob v vs s) (kX:aa w X) (k:aa X w') (hn:n=m) (hm:m≠0):rD lo ob v vs s er n s' w (.returned (gJ er m)) w' :=
 ⟨by rw [hn],aB.of (kX.trans k),fun e=>absurd (hn.symm.trans e) hm,s,v,VX.box.keeps k,rfl⟩
end
theorem Gq {b1 b2 b3 b4 b5 b6 b7 b8 b9 b10 b11 b12 b13 b14 b15 b16 b17 b18 b19 b20 yQ yR yS yT yU yV yW yX yY yZ y7 b32:Bool} (h1:b1=true) (h2:b2=true) (h3:b3=true) (h4:b4=true) (h5:b5=true) (h6:b6=true) (h7:b7=true) (h8:b8=true) (h9:b9=true) (h10:b10=true) (h11:b11=true) (h12:b12=true) (me:b13=true) (Ko:b14=true) (Kp:b15=true) (h16:b16=true) (Kq:b17=true) (h18:b18=true) (h19:b19=true) (h20:b20=true) (h21:yQ=true) (h22:yR=true) (h23:yS=true) (Ks:yT=true) (Kt:yU=true) (Ku:yV=true) (h27:yW=true) (Kv:yX=true) (Kw:yY=true) (Kx:yZ=true) (h31:y7=true) (h32:b32=true):(b1&&b2&&b3&&b4&&b5&&b6&&b7&&b8&&b9&&b10&&b11&&b12&&b13&&b14&&b15&&b16&&b17&&b18&&b19&&b20&&yQ&&yR&&yS&&yT&&yU&&yV&&yW&&yX&&yY&&yZ&&y7&&b32)=true:=by
 subst_vars
 rfl
def lG:List Char:=[Char.ofNat 104,Char.ofNat 97,Char.ofNat 114,Char.ofNat 110,Char.ofNat 101,Char.ofNat 115,Char.ofNat 115,Char.ofNat 32,Char.ofNat 97,Char.ofNat 102,Char.ofNat 97,Char.ofNat 49,Char.ofNat 102,Char.ofNat 57,Char.ofNat 98,Char.ofNat 102,Char.ofNat 55,Char.ofNat 53,Char.ofNat 100,Char.ofNat 53,Char.ofNat 49,Char.ofNat 50,Char.ofNat 97,Char.ofNat 50,Char.ofNat 97,Char.ofNat 101,Char.ofNat 56,Char.ofNat 97,Char.ofNat 97,Char.ofNat 99,Char.ofNat 51,Char.ofNat 56,Char.ofNat 50,Char.ofNat 49,Char.ofNat 53,Char.ofNat 49,Char.ofNat 97,Char.ofNat 54,Char.ofNat 100,Char.ofNat 97,Char.ofNat 54,Char.ofNat 99,Char.ofNat 98,Char.ofNat 53,Char.ofNat 48,Char.ofNat 100,Char.ofNat 99,Char.ofNat 55,Char.ofNat 102,Char.ofNat 50,Char.ofNat 53,Char.ofNat 55,Char.ofNat 54,Char.ofNat 49,Char.ofNat 53,Char.ofNat 98,Char.ofNat 52,Char.ofNat 101,Char.ofNat 50,Char.ofNat 97,Char.ofNat 48,Char.ofNat 100,Char.ofNat 100,Char.ofNat 100,Char.ofNat 52,Char.ofNat 57,Char.ofNat 48,Char.ofNat 57,Char.ofNat 102,Char.ofNat 101,Char.ofNat 57,Char.ofNat 55,Char.ofNat 32,Char.ofNat 99,Char.ofNat 117,Char.ofNat 116,Char.ofNat 32,Char.ofNat 97,Char.ofNat 116,Char.ofNat 32,Char.ofNat 108,Char.ofNat 111,Char.ofNat 111,Char.ofNat 112,Char.ofNat 46,Char.ofNat 101,Char.ofNat 120,Char.ofNat 97,Char.ofNat 109,Char.ofNat 112,Char.ofNat 108,Char.ofNat 101,Char.ofNat 47,Char.ofNat 103,Char.ofNat 48,Char.ofNat 48,Char.ofNat 49,Char.ofNat 56,Char.ofNat 53,Char.ofNat 47,Char.ofNat 108,Char.ofNat 97,Char.ofNat 119,Char.ofNat 115,Char.ofNat 46,Char.ofNat 70,Char.ofNat 110,Char.ofNat 76,Char.ofNat 101,Char.ofNat 110,Char.ofNat 116,Char.ofNat 32,Char.ofNat 108,Char.ofNat 111,Char.ofNat 111,Char.ofNat 112,Char.ofNat 46,Char.ofNat 101,Char.ofNat 120,Char.ofNat 97,Char.ofNat 109,Char.ofNat 112,Char.ofNat 108,Char.ofNat 101,Char.ofNat 47,Char.ofNat 103,Char.ofNat 48,Char.ofNat 48,Char.ofNat 49,Char.ofNat 56,Char.ofNat 53,Char.ofNat 47,Char.ofNat 108,Char.ofNat 97,Char.ofNat 119,Char.ofNat 115,Char.ofNat 46,Char.ofNat 70,Char.ofNat 110,Char.ofNat 71,Char.ofNat 104,Char.ofNat 111,Char.ofNat 115,Char.ofNat 116,Char.ofNat 115,Char.ofNat 32,Char.ofNat 108,Char.ofNat 111,Char.ofNat 111,Char.ofNat 112,Char.ofNat 46,Char.ofNat 101,Char.ofNat 120,Char.ofNat 97,Char.ofNat 109,Char.ofNat 112,Char.ofNat 108,Char.ofNat 101,Char.ofNat 47,Char.ofNat 103,Char.ofNat 48,Char.ofNat 48,Char.ofNat 49,Char.ofNat 56,Char.ofNat 53,Char.ofNat 47,Char.ofNat 108,Char.ofNat 97,Char.ofNat 119,Char.ofNat 115,Char.ofNat 46,Char.ofNat 70,Char.ofNat 110,Char.ofNat 82,Char.ofNat 101,Char.ofNat 102,Char.ofNat 117,Char.ofNat 115,Char.ofNat 101,Char.ofNat 100,Char.ofNat 80,Char.ofNat 97,Char.ofNat 114,Char.ofNat 116,Char.ofNat 115]
theorem t7:Tryz.pinned.checked.prog.initOrder.toList=lG:=by
 have h:Tryz.pinned.checked.prog.initOrder=String.ofList lG:=String.toByteArray_inj.1 (by kernel_rfl)
 rw [h,String.toList_ofList]
theorem Gr (P:Program) (h:P.initOrder.toList=lG):P.liftsFinal=false:=by
 unfold Program.liftsFinal Program.headLifts
 rw [h]
 kernel_rfl
theorem Gt:Tryz.pinned.checked.prog.liftsFinal=false:=Gr _ t7
theorem Gu (P:Program) (h:P.initOrder.toList=lG):P.make=some .cut:=by
 unfold Program.make
 rw [h]
 kernel_rfl
theorem Gv:Tryz.pinned.checked.prog.make=some .cut:=Gu _ t7
theorem Gw:stripLifts liftWords (behindMainWord (wordsSigns lG))=([],behindMainWord (wordsSigns lG)):=by kernel_rfl
theorem Gx (P:Program) (h:P.initOrder.toList=lG) (h1:P.laysLater=false) (h2:P.bearsReflect=false) (h3:P.doorFits []=true):P.mayEnter=true:=by
 have hh:((behindMainWord (wordsSigns lG)).head?==some "cut".toList)=true:=by kernel_rfl
 have hs:=Gw
 unfold Program.mayEnter
 rw [h]
 generalize behindMainWord (wordsSigns lG)=L at hh hs ⊢
 cases L with
 | nil=>cases hh
 | cons c rest =>
  simp only [hs,hh,h1,h2,h3]
  simp
theorem Gy:Tryz.pinned.checked.prog.laysLater=false:=by kernel_rfl
theorem Gz:Tryz.pinned.checked.prog.bearsReflect=false:=by kernel_rfl
theorem GA:Tryz.pinned.checked.prog.doorFits []=true:=by kernel_rfl
theorem GB:Tryz.pinned.checked.prog.mayEnter=true:=Gx _ t7 Gy Gz GA
section
open Go.RowKit
attribute [local go_sem] aa.refl aa.alloc aa.drew aa.drewN
def FB:Prop:=∀ (w:World) (v:Sv) (s:Sy) (cpu:Int),aA w v s->Calls Tryz.prog 16 #[.agg (ae s v),.int .i64 cpu] w fun e w'=>∃ u,e = .returned u /\ dQ w' w.heap.size u (dH s cpu) /\ aa w w'
end
end Go.Proofs.YteagpjlgjfaclaaGreatDoor
