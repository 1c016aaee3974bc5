/-
  Lists of tasks: the program's TaskAt, TasksOk and what puts
  What is right about a system, as the program's seven invari
  Runs of calls: what is drawn stays small.
  The program's system: floors, whether a task is of the same
  The program's calls: a task ends.
  The program's system: what is counted on a processor.
-/
import Derived.Test.YteagpjlgjfaclaaGreatDoorImplWhole
import Derived.Test.YteagpjlgjfaclaaGreatDoorFairList
import Derived.Test.YteagpjlgjfaclaaGreatDoorCur
import Derived.Test.YteagpjlgjfaclaaGreatDoorImplLockA
import Derived.Test.YteagpjlgjfaclaaGreatDoorSysShares
import Derived.Test.YteagpjlgjfaclaaGreatDoorSysTick
import Derived.Test.YteagpjlgjfaclaaGreatDoorTaskPut
import Derived.Test.YteagpjlgjfaclaaGreatDoorImplTasksOk
import Derived.Test.YteagpjlgjfaclaaGreatDoorImplCopy
import Derived.Deep.RegionHeld3
import Derived.RegionTactic
import Derived.BigRegion
import Derived.Test.YteagpjlgjfaclaaGreatDoorSysNewS
import Derived.Test.YteagpjlgjfaclaaGreatDoorCallSpec
import Derived.Test.YteagpjlgjfaclaaGreatDoorCallMove
import Derived.Test.YteagpjlgjfaclaaGreatDoorTaskDel
import Derived.Test.YteagpjlgjfaclaaGreatDoorLockCopy
namespace Go.Proofs.YteagpjlgjfaclaaGreatDoor
set_option maxRecDepth 100000
open Go.RowKit
section
attribute [local go_sem] aa.refl aa.alloc aa.drew aa.drewN
theorem E8 {ts:List ar} {no:Int} {k:Nat} {t:ar} (ht:ts[k]?=some t) (hq:(t.no==no)=true) (H:∀ (j:Nat) (s:ar),j < k->ts[j]?=some s->(s.no==no)=false):dc ts no=k:=by
 have hk':k < ts.length:=by
  rcases Nat.lt_or_ge k ts.length with h | h
  ·exact h
  ·simp [List.getElem?_eq_none h] at ht
 have:ts.findIdx? (fun t=>t.no==no)=some k:=by
  rw [List.findIdx?_eq_some_iff_getElem]
  have e1:ts[k]=t:=by rw [List.getElem?_eq_getElem hk'] at ht;simpa using ht
  refine ⟨hk',by rw [e1];exact hq,fun j hj => ?_⟩
  have:=H j ts[j] hj (List.getElem?_eq_getElem _)
  simp [this]
 simp [dc,this]
theorem E9 {ts:List ar} {no:Int} (H:∀ (j:Nat) (s:ar),ts[j]?=some s->(s.no==no)=false):dc ts no = -1:=by
 have:ts.findIdx? (fun t=>t.no==no)=none:=by
  rw [List.findIdx?_eq_none_iff]
  intro t ht
  obtain ⟨j,hj,rfl⟩:=List.mem_iff_getElem.1 ht
  exact H j _ (List.getElem?_eq_getElem hj)
 simp [dc,this]
set_option maxHeartbeats 1000000 in
theorem tM:Ee:=by
 intro a cap ts no w hl hs
 unfold maxLen at hl
 generalize hn:ts.length=n at hl
 have Hn:Hid (ts.length=n):=hn
 clear hn
 go_enter Tryz.func17,Tryz.ntmps17
 go_wp2
 go_loopw [9] (fun i wr=>∃ k:Nat,k <= n /\ i = .int .i64 k /\ aa w wr /\ Hid (∀ j t,j < k->ts[j]?=some t->(t.no==no)=false)) (fun i _=>n - (intOf i).toNat)
 case atStart=>exact ⟨0,Nat.zero_le _,rfl,aa.refl _,fun j t hj=>by omega⟩
 case round =>
  obtain ⟨k,hk,rfl,hK,H⟩:=hrel
  by_cases hlt:k < n
  ·obtain ⟨t,ht⟩:=iT (xs:=ts) (k:=k) (by rw [Hn.out];exact hlt)
   obtain ⟨b,off,rfl,r0,r1⟩:=hs.at ht (by omega)
   have hlt':(k:Int) < (n:Int):=by omega
   have Ht:Hid (ts[k]?=some t):=ht
   clear hs ht
   cases hq:(t.no==no)
   ·go_wp2
    exact ⟨⟨k+1,by omega,by go_num,hK.alloc _,fun j s hj hs=>by
     by_cases e:j=k
     ·subst e;rw [Ht.out] at hs;cases hs;exact hq
     ·exact H.out j s (by omega) hs⟩,by simp only [intOf];omega⟩
   ·have Hr:Hid (dc ts no=k):=E8 Ht.out hq H.out
    go_wp2
    go_ret
    exact ⟨by rw [Hr.out];rfl,hK.alloc _⟩
  ·have Hr:Hid (dc ts no = -1):=E9 fun j s hs=>by
    refine H.out j s ?_ hs
    rcases Nat.lt_or_ge j ts.length with h' | h'
    ·have:=Hn.out;omega
    ·simp [List.getElem?_eq_none h'] at hs
   go_wp2
   go_ret
   exact ⟨by rw [Hr.out];rfl,hK⟩
end
def hH (s:Sy) (cpu:Int):Bool:=decide (0 <= cpu)&&decide (cpu < s.az)
def iY (s:Sy) (i:Nat) (l:Lk):Bool:=l.waits.all (fun x=>ew s i x)&&(l.owner==0||ew s i l.owner)
def inv0 (s:Sy):Bool:=aH s.now 0 100000&&aH s.az 1 4
def inv1 (s:Sy):Bool:=s.tasks.all (fun t=>hH s t.cpu)&&dz s.tasks
def inv2 (s:Sy):Bool:=s.ak.length==5&&(du s.ak&&(List.range s.ak.length).all (fun i=>iY s i (s.ak.getD i ⟨0,[]⟩)))
def l9 (s:Sy) (g:Gh):Bool:=hH s g.cpu&&(okB g.q g.p&&aH g.eX 0 100040)
def eZ (s:Sy):Bool:=s.af.all (l9 s)&&decide (s.af.length <= 12)
def gi (s:Sy):Bool:=(List.range s.az.toNat).all (fun c=>ji (dH s (c:Int)))
def gj (s:Sy):Bool:=s.ax.all (fun f=>aH f 0 100000000)&&((s.ax.length:Int)==s.az)
def fR (s:Sy):Bool:=aH s.seq 0 1000000&&(aH s.missed 0 100000&&decide (s.trace.length <= 400))
def pU (s:Sy):Bool:=inv0 s&&(inv1 s&&(inv2 s&&(eZ s&&(gi s&&(gj s&&fR s)))))
theorem x7 (s:Sy) (c:Int):hH s c=aH c 0 (s.az - 1):=by
 rw [Bool.eq_iff_iff]
 unfold hH
 simp only [Bool.and_eq_true,decide_eq_true_eq,dq]
 omega
theorem Fa (s:Sy):eZ s=iX s:=by
 have:l9 s=jD s.az:=by
  funext g
  unfold l9 jD
  rw [x7]
 unfold eZ iX
 rw [this]
theorem rH {s:Sy} {i:Nat} {l:Lk} {x:Int} (hl:s.ak[i]?=some l):ew s i x=true↔ct s.tasks x=true /\ (l.owner=0∨(ct s.tasks l.owner=true /\ (dB s.tasks l.owner).cpu=(dB s.tasks x).cpu)):=by
 have hlt:=cZ hl
 have h1:aH (i:Int) 0 ((s.ak.length:Int) - 1)=true:=dq.2 (by omega)
 unfold ew
 rw [h1,Int.toNat_natCast,iP hl]
 simp only [Bool.true_and,Bool.and_eq_true,Bool.or_eq_true,beq_iff_eq]
theorem Fb {s:Sy}:inv2 s=true↔gQ s=true:=by
 unfold inv2 gQ
 simp only [Bool.and_eq_true]
 constructor
 ·rintro ⟨h1,h2,h3⟩
  refine ⟨h1,h2,?_⟩
  rw [List.all_eq_true] at h3 ⊢
  intro l hm
  obtain ⟨i,hi⟩:=List.mem_iff_getElem?.1 hm
  have hlt:=cZ hi
  have h:=h3 i (List.mem_range.2 hlt)
  rw [lE hi] at h
  unfold iY at h
  simp only [Bool.and_eq_true,List.all_eq_true,Bool.or_eq_true,beq_iff_eq] at h
  unfold iE
  simp only [Bool.or_eq_true,beq_iff_eq,Bool.and_eq_true,List.all_eq_true]
  by_cases h0:l.owner=0
  ·exact .inl h0
  ·refine .inr ⟨?_,fun x hx => ?_⟩
   ·rcases h.2 with h4 | h4
    ·exact absurd h4 h0
    ·exact ((rH hi).1 h4).1
   ·obtain ⟨h5,h6⟩:=(rH hi).1 (h.1 x hx)
    rcases h6 with h6 | h6
    ·exact absurd h6 h0
    ·unfold jC
     simp only [Bool.and_eq_true,beq_iff_eq]
     exact ⟨h5,h6.2.symm⟩
 ·rintro ⟨h1,h2,h3⟩
  refine ⟨h1,h2,?_⟩
  rw [List.all_eq_true] at h3 ⊢
  intro i hm
  have hlt:=List.mem_range.1 hm
  obtain ⟨l,hi⟩:=cd hlt
  rw [lE hi]
  have h:=h3 l (List.mem_iff_getElem?.2 ⟨i,hi⟩)
  unfold iE at h
  simp only [Bool.or_eq_true,beq_iff_eq,Bool.and_eq_true,List.all_eq_true] at h
  unfold iY
  simp only [Bool.and_eq_true,List.all_eq_true,Bool.or_eq_true,beq_iff_eq]
  rcases h with h | ⟨h4,h5⟩
  ·have hw:=(pM.1 h2).free i l hi h
   exact ⟨fun x hx=>by rw [hw] at hx;simp at hx,.inl h⟩
  ·refine ⟨fun x hx => ?_,.inr ((rH hi).2 ⟨h4,.inr ⟨h4,rfl⟩⟩)⟩
   have h6:=h5 x hx
   unfold jC at h6
   simp only [Bool.and_eq_true,beq_iff_eq] at h6
   exact (rH hi).2 ⟨h6.1,.inr ⟨h4,h6.2.symm⟩⟩
theorem Fc (s:Sy):pU s=aY s:=by
 rw [Bool.eq_iff_iff,kQ]
 unfold pU
 rw [Fa]
 simp only [Bool.and_eq_true,Fb]
 unfold inv0 inv1 gi gj fR
 simp only [Bool.and_eq_true,dq,List.all_eq_true,decide_eq_true_eq,beq_iff_eq,List.mem_range,x7]
 constructor
 ·rintro ⟨⟨h1,h2⟩,⟨h3,h4⟩,h5,h6,h7,⟨h8,h9⟩,h10,h11,h12⟩
  refine ⟨h1,h2,h4,h5,h6,h9,h10,h11,h12,fun t ht=>by have:=h3 t ht;omega,fun c hc => ?_⟩
  unfold fA
  obtain ⟨x,hx⟩:=cd (xs:=s.ax) (k:=c) (by omega)
  rw [lE hx]
  simp only [Bool.and_eq_true,dq]
  exact ⟨h8 x (List.mem_iff_getElem?.2 ⟨c,hx⟩),h7 c (by omega)⟩
 ·intro h
  refine ⟨⟨h.now,h.az⟩,⟨fun t ht => ?_,h.tasks⟩,h.ak,h.af,fun c hc => ?_,⟨fun x hx => ?_,h.ax⟩,h.seq,h.missed,h.trace⟩
  ·obtain ⟨i,hi⟩:=List.mem_iff_getElem?.1 ht
   have:=x8 (tC h.tasks hi)
   have:=h.on t ht
   omega
  ·have:=h.cpu c (by omega)
   unfold fA at this
   simp only [Bool.and_eq_true] at this
   exact this.2
  ·obtain ⟨c,hc⟩:=List.mem_iff_getElem?.1 hx
   have hlt:=cZ hc
   have:=h.cpu c (by have:=h.ax;omega)
   unfold fA at this
   rw [lE hc] at this
   simp only [Bool.and_eq_true,dq] at this
   exact this.1
theorem Fe (s:Sy) (cpu:Int):(fI s cpu).tasks.length=s.tasks.length:=by
 unfold fI
 split
 ·rfl
 ·simp [rj]
theorem x9 (s:Sy):∀ k:Nat,(eh s k).tasks.length=s.tasks.length
 | 0=>rfl
 | k+1=>by
  show (fI (eh s k) k).tasks.length=_
  rw [Fe,x9 s k]
theorem Ff {s:Sy} (h:g9 s=true):(dF s).tasks.length=s.tasks.length /\ (dF s).az=s.az:=by
 have e:dF s=pP (eh (gh (eY (fi s))) s.az.toNat):=by unfold dF;rw [h];rfl
 rw [e]
 refine ⟨?_,?_⟩
 ·show (eh (gh (eY (fi s))) s.az.toNat).tasks.length=_
  rw [x9]
  simp [gh,eY,fi]
 ·show (eh (gh (eY (fi s))) s.az.toNat).az=_
  rw [(pV _ _).1]
  rfl
theorem yb:∀ (n:Nat) (s:Sy),(fj s n).1.tasks.length=s.tasks.length /\ (fj s n).1.az=s.az /\ bE (fj s n).1 <= max (bE s) 1600
 | 0,s=>⟨rfl,rfl,by show bE s <= _;omega⟩
 | n+1,s=>by
  cases h:g9 s
  ·have e:(fj s (n+1)).1=s:=by simp [fj,h]
   rw [e]
   exact ⟨rfl,rfl,by omega⟩
  ·have e:(fj s (n+1)).1=(fj (dF s) n).1:=by simp [fj,h]
   obtain ⟨h1,h2,h3⟩:=yb n (dF s)
   have h4:=Ff h
   have h5:=(yd h).2
   rw [e]
   exact ⟨h1.trans h4.1,h2.trans h4.2,by omega⟩
def lM (s:Sy):Prop:=s.tasks.length <= 13 /\ s.az <= 4 /\ bE s <= 3000
theorem Fg (ts:List ar) (t:ar):(bY ts t).length <= ts.length+1:=by
 unfold bY
 split
 ·split
  ·rw [pW];omega
  ·omega
 ·simp
theorem BP {s:Sy} {c:Cl} (h:gH s c=0):lM (fW s c):=by
 unfold gH at h
 split at h
 case isFalse=>omega
 case isTrue hb =>
  simp only [Bool.and_eq_true] at hb
  have R:=kQ.1 hb.1
  obtain ⟨f1,f2,f3,f4⟩:=R.few
  have f5:=R.small
  have f6:=R.az
  have e:fW s c=ee s c:=by unfold fW;rw [hb.1,hb.2,h];rfl
  rw [e]
  unfold ee
  split
  ·have:=Fg s.tasks (lj s c)
   unfold bE at f5
   refine ⟨by show (bY s.tasks (lj s c)).length <= _;omega,f6.2,?_⟩
   show (bY s.tasks (lj s c)).length+bR s.ak+s.af.length+s.ax.length+s.trace.length <= _
   omega
  ·split
   ·obtain ⟨h1,h2,h3⟩:=yb c.a.toNat s
    exact ⟨by omega,by omega,by omega⟩
   ·unfold kq
    unfold bE at f5
    have same:∀ (k:Nat) (t:ar),lM { s with tasks:=s.tasks.set k t }:=fun k t=>⟨by simp;omega,f6.2,by unfold bE;simp;omega⟩
    split
    ·exact same _ _
    ·split
     ·exact same _ _
     ·split
      ·have he:=List.length_eraseIdx_le s.tasks (dc s.tasks c.no).toNat
       refine ⟨by show (s.tasks.eraseIdx _).length <= _;omega,f6.2,?_⟩
       unfold fk bE
       dsimp only
       split
       ·simp only [List.length_append,List.length_singleton];omega
       ·omega
      ·split
       ·have:=vJ s.ak c.a c.no
        refine ⟨by show s.tasks.length <= _;omega,f6.2,?_⟩
        show s.tasks.length+bR (bM s.ak c.a c.no)+s.af.length+s.ax.length+s.trace.length <= _
        omega
       ·split
        ·have:=Ei s.ak c.a c.no (j3 s.tasks (lD s.ak c.a.toNat))
         refine ⟨by show s.tasks.length <= _;omega,f6.2,?_⟩
         show s.tasks.length+bR (fy s.ak c.a c.no (j3 s.tasks (lD s.ak c.a.toNat)))+s.af.length+s.ax.length+s.trace.length <= _
         omega
        ·split
         ·exact same _ _
         ·split
          ·exact same _ _
          ·exact ⟨by omega,f6.2,by unfold bE;omega⟩
theorem qN:∀ (cs:List Cl) (s:Sy) (c:Cl),bK s (cs++[c])=if gH (bK s cs) c==0 then fW (bK s cs) c else bK s cs
 | [],s,c=>by
  show (if gH s c==0 then bK (fW s c) [] else bK s [])=_
  rfl
 | x::r,s,c=>by
  show (if gH s x==0 then bK (fW s x) (r++[c]) else bK s (r++[c]))=_
  cases h:(gH s x==0)
  ·have e:bK s (x::r)=bK s r:=by show (if gH s x==0 then bK (fW s x) r else bK s r)=_;rw [h];rfl
   rw [e]
   exact qN r s c
  ·have e:bK s (x::r)=bK (fW s x) r:=by show (if gH s x==0 then bK (fW s x) r else bK s r)=_;rw [h];rfl
   rw [e]
   exact qN r (fW s x) c
theorem BG {n:Int} (h:aH n 1 4=true):lM (aP n):=by
 have:=dq.1 h
 unfold aP
 rw [h]
 refine ⟨by simp [Sy.zero],this.2,?_⟩
 simp [bE,Sy.zero,bR,bD]
 omega
section
attribute [local go_sem] aa.refl aa.alloc aa.drew aa.drewN
theorem fM.iZ {w w':World} {a:Option Addr} {n cap:Nat} {ts:List ar} (h:fM w a n cap ts) (x:Int) {z:Int} (hz:dc ts x=z) (k:aa w w'):Calls Tryz.prog 17 #[.slice a n cap,.int .i64 x] w' fun e w''=>e = .returned (.int .i64 z) /\ aa w' w'':=by
 have:=tM a cap ts x w' h.small (h.keeps k).lies
 rw [h.len,hz] at this
 exact this
set_option maxHeartbeats 8000000 in
theorem Fh:Fi:=by
 intro w v s i no h
 have hm:v.t.n <= 2000000 /\ v.l.n <= 2000000:=by have:=h.size;have:=h.lay.ll;have:=h.lay.tl;have:=lP s.ak;unfold bE at *;omega
 obtain ⟨hm1,hm2⟩:=hm
 have kW:=dw w (.cells (ae s v) 30)
 have hb:=dA w (ae s v) 30
 have hT:Hid (fM (w.alloc (.cells (ae s v) 30)) v.t.a v.t.n v.t.cap s.tasks):=h.gF.keeps kW
 have hL:Hid (On (w.alloc (.cells (ae s v) 30)) v.l.a v.l.n v.l.cap s.ak):=h.gx.keeps kW
 have HE:Hid (ew s i no=(aH i 0 ((v.l.n:Int) - 1)&&(ct s.tasks no&&(dY s.ak i.toNat==0||(ct s.tasks (dY s.ak i.toNat)&&(dB s.tasks (dY s.ak i.toNat)).cpu==(dB s.tasks no).cpu))))):=by show _=_;unfold ew;rw [hL.out.len]
 clear h
 obtain ⟨pa,eB⟩:∃ pa,Hid (dc s.tasks no=pa):=⟨_,rfl⟩
 go_enter Tryz.func156,Tryz.ntmps156
 go_wp2_with fail
 generalize w.alloc (.cells (ae s v) 30)=W at *
 refine (hT.out.iZ no eB.out (aa.refl _)).mono ?_
 rintro e w1 ⟨rfl,k1⟩
 cases c2:decide (pa < 0)
 rotate_left
 ·have Hr:Hid (ew s i no=false):=by show _=_;rw [HE.out];unfold ct;rw [eB.out,c2];simp
  go_wp2
  go_ret
  exact ⟨by rw [Hr.out];rfl,kW.trans k1⟩
 have hth:ct s.tasks no=true:=by unfold ct;rw [eB.out,c2];rfl
 obtain ⟨ka,ta,ea,iO,-⟩:=lQ.1 hth
 have fg:Hid (dB s.tasks no=ta):=lR ea iO
 obtain rfl:pa=(ka:Int):=by rw [<- eB.out];exact ea
 have ov:Hid (∀ w',Calls Tryz.prog 186 #[.slice v.l.a v.l.n v.l.cap,.int .i64 i] w' fun e w''=>e = .returned (.bool (aH i 0 ((v.l.n:Int) - 1))) /\ w''=w'):=fun w'=>ET v.l.a v.l.cap v.l.n i w' (by unfold maxLen;omega)
 cases c1:aH i 0 ((v.l.n:Int) - 1)
 ·have Hr:Hid (ew s i no=false):=by show _=_;rw [HE.out,c1];rfl
  rw [c1] at ov
  go_wp2_with (go_at_call 186;refine (ov.out _).mono ?_;rintro e w' ⟨rfl,hw'⟩;have hw2:=hw'.symm;subst hw2)
  go_ret
  exact ⟨by rw [Hr.out];rfl,kW.trans k1⟩
 rw [c1] at ov
 have hka:ka < v.t.n:=by have:=cZ iO;rw [hT.out.len] at this;exact this
 have sH:(ka:Int) < (v.t.n:Int):=by omega
 obtain ⟨bt,ot,hat,rt⟩:=hT.out.all (by omega)
 have ra:∀ w',aa W w'->w'.cell? ⟨bt,ot+ka*14+2,none⟩=some (.int .i64 ta.cpu):=fun w' h=>(rt ka ta iO).2 w' h 2 (by omega)
 have RT:Hid (∀ (i:Nat) (t:ar),s.tasks[i]?=some t->∀ w',aa W w'->w'.cell? ⟨bt,ot+i*14+2,none⟩=some (.int .i64 t.cpu)):=fun i t ht w' h=>(rt i t ht).2 w' h 2 (by omega)
 obtain ⟨i0,i1⟩:=dq.1 c1
 obtain ⟨k,rfl⟩:∃ k:Nat,i=(k:Int):=⟨i.toNat,by omega⟩
 obtain ⟨l,hl⟩:=cd (xs:=s.ak) (k:=k) (by rw [hL.out.len];omega)
 obtain ⟨hkn,b,off,a',cap',ha,r0,-,-,-⟩:=hL.out.at hl
 have hki:(k:Int) < (v.l.n:Int):=by omega
 rw [ha] at ov
 have HE2:Hid (ew s k no=(l.owner==0||(ct s.tasks l.owner&&(dB s.tasks l.owner).cpu==ta.cpu))):=by
  show _=_
  rw [HE.out,c1,hth,Int.toNat_natCast,iP hl,fg.out]
  rfl
 obtain ⟨po,jY⟩:∃ po,Hid (dc s.tasks l.owner=po):=⟨_,rfl⟩
 have TA:Hid (∀ w',aa W w'->Calls Tryz.prog 17 #[.slice v.t.a v.t.n v.t.cap,.int .i64 l.owner] w' fun e w''=>e = .returned (.int .i64 po) /\ aa w' w''):=fun w' h=>hT.out.iZ l.owner jY.out h
 rw [hat] at TA
 clear hth ea iO rt eB hl HE
 cases c3:(l.owner==0)
 rotate_left
 ·have Hr:Hid (ew s k no=true):=by show _=_;rw [HE2.out,c3];rfl
  go_wp2_with (go_at_call 186;refine (ov.out _).mono ?_;rintro e w' ⟨rfl,hw'⟩;have hw2:=hw'.symm;subst hw2)
  go_ret
  exact ⟨by rw [Hr.out];rfl,kW.trans k1⟩
 go_wp2_with (first
  | (go_at_call 186;refine (ov.out _).mono ?_;rintro e w' ⟨rfl,hw'⟩;have hw2:=hw'.symm;subst hw2)
  | (go_at_call 17;refine (TA.out _ k1).mono ?_;rintro e w5 ⟨rfl,k5⟩;have K5:=k1.trans k5))
 clear TA
 cases c4:decide (0 <= po)
 ·have Hr:Hid (ew s k no=false):=by
   have:ct s.tasks l.owner=false:=by unfold ct;rw [jY.out];simp only [decide_eq_false_iff_not] at c4;simp;omega
   show _=_
   rw [HE2.out,c3,this];rfl
  refine wp_region_held_drew (S:=(fun w'=>aa W w')) (by kernel_rfl) ?_ (fun hHeld => ?_)
  ·exact K5.drew
  refine ad.go [0,1,2] ?_
  iterate 3 (refine aM (h := ?_);try simp only [au])
  refine ad.nil ?_
  refine ad.go [3,4,5,6,7,8,9,10,11,12,13,14,15] ?_
  iterate 13 (refine dK (h := ?_);try simp only [au])
  refine ad.nil ?_
  refine ad.go [16,17] ?_
  iterate 2 (refine aM (h := ?_);try simp only [au])
  refine ad.nil ?_
  refine wpAnyH_done (by kernel_rfl) ?_ _
  go_wp2
  go_ret
  exact ⟨by rw [Hr.out];rfl,kW.trans K5.drew⟩
 have ix:ct s.tasks l.owner=true:=by unfold ct;rw [jY.out];simp only [decide_eq_true_eq] at c4;simp;omega
 obtain ⟨kx,tx,ex,htx,-⟩:=lQ.1 ix
 have pr:Hid (dB s.tasks l.owner=tx):=lR ex htx
 obtain rfl:po=(kx:Int):=by rw [<- jY.out];exact ex
 have hkx:kx < v.t.n:=by have:=cZ htx;rw [hT.out.len] at this;exact this
 have pt:(kx:Int) < (v.t.n:Int):=by omega
 have rx:∀ w',aa W w'->w'.cell? ⟨bt,ot+kx*14+2,none⟩=some (.int .i64 tx.cpu):=fun w' h=>RT.out kx tx htx w' h
 have Hr:Hid (ew s k no=(tx.cpu==ta.cpu)):=by show _=_;rw [HE2.out,c3,ix,pr.out];rfl
 clear ix ex htx jY
 refine wp_region_held_drew (S:=(fun w'=>aa W w')) (by kernel_rfl) ?_ (fun hHeld => ?_)
 ·exact K5.drew
 refine ad.go [0,1,2,3,4,5,6,7,8,9,10,11,12,13,14,15,16,17] ?_
 iterate 18 (refine aM (h := ?_);try simp only [au])
 refine ad.nil ?_
 refine wpAnyH_done (by kernel_rfl) ?_ _
 go_wp2
 go_ret
 exact ⟨by rw [Hr.out];rfl,kW.trans K5.drew⟩
structure gk (b:Nat) (C:Array Value) (b2:Nat) (C2:Array Value) (b3:Nat) (C3:Array Value) (w:World):Prop where
 one:aq w b C
 two:aq w b2 C2
 three:aq w b3 C3
theorem gk.go {b b2 b3:Nat} {C C2 C3:Array Value} {w w':World} (h:gk b C b2 C2 b3 C3 w) (k:aa w w'):gk b C b2 C2 b3 C3 w':=⟨h.one.keeps k,h.two.keeps k,h.three.keeps k⟩
set_option linter.unusedSimpArgs false in
set_option maxHeartbeats 4000000 in
theorem Fj {w:World} {lo ob:Nat} {v:Sv} {vs:List Lv} {s:Sy} (h:br w lo ob v vs s) (hsz:bE s <= 1048576) (no:Int) :
  Calls Tryz.prog 167 #[.pointer (some ⟨ob,0,none⟩),.int .i64 no] w fun e w'=>e = .returned (.bool (jV s no)) /\ aa w w':=by
 obtain ⟨⟨ta,tn,ag⟩,⟨la,ln,ah⟩,⟨ga,gn,ai⟩,⟨fa,fn,aj⟩,⟨ra,rn,ao⟩⟩:=v
 have HS:Hid (aA w ⟨⟨ta,tn,ag⟩,⟨la,ln,ah⟩,⟨ga,gn,ai⟩,⟨fa,fn,aj⟩,⟨ra,rn,ao⟩⟩ s):=h.own.on (by omega)
 have hb0:∀ w',aa w w'->∀ q,w'.cell? ⟨ob,q,none⟩=(ae s ⟨⟨ta,tn,ag⟩,⟨la,ln,ah⟩,⟨ga,gn,ai⟩,⟨fa,fn,aj⟩,⟨ra,rn,ao⟩⟩)[q]?:=fun w' kk=>(h.box.keeps kk).cells
 dsimp only [ae] at hb0
 have hb1:=hb0 w (aa.refl w)
 clear h
 obtain ⟨o,Ho⟩:∃ z,Hid (gO s.ak no=z):=⟨_,rfl⟩
 obtain ⟨z,Hz⟩:∃ z,Hid (dS s.ak no=z):=⟨_,rfl⟩
 have OA:Hid (∀ w',aa w w'->Calls Tryz.prog 14 #[.slice la ln ah,.int .i64 no] w' fun e w''=>e = .returned (.bool o) /\ aa w' w''):=fun w' kk=>by
  have:=xP la ah s.ak no w' (by unfold bE bR at hsz;unfold maxLen;omega) (HS.out.keeps kk).lay.l
  rw [show s.ak.length=ln from HS.out.lay.ll,Ho.out] at this
  exact this
 have WA:Hid (∀ w',aa w w'->Calls Tryz.prog 15 #[.slice la ln ah,.int .i64 no] w' fun e w''=>e = .returned (.int .i64 z) /\ aa w' w''):=fun w' kk=>by
  have:=xQ la ah s.ak no w' (by unfold bE at hsz;omega) (HS.out.keeps kk).lay.l
  rw [show s.ak.length=ln from HS.out.lay.ll,Hz.out] at this
  exact this
 cases o
 ·have HN:Hid (jV s no=decide (0 <= z)):=by
   show _=_
   unfold jV
   rw [Ho.out,Hz.out,Bool.false_or,Bool.eq_iff_iff]
   simp
  go_enter Tryz.func167,Tryz.ntmps167
  go_wp2_with (first
   | (go_at_call 14;refine (OA.out _ (aa.refl w)).mono ?_;rintro e w2 ⟨rfl,k2⟩;have hb2:=hb0 w2 k2)
   | (go_at_call 15;refine (WA.out _ k2).mono ?_;rintro e w3 ⟨rfl,k3⟩))
  go_ret
  exact ⟨by rw [HN.out];rfl,k2.trans k3⟩
 ·have HN:Hid (jV s no=true):=by
   show _=_
   unfold jV
   rw [Ho.out,Bool.true_or]
  go_enter Tryz.func167,Tryz.ntmps167
  go_wp2_with (go_at_call 14;refine (OA.out _ (aa.refl w)).mono ?_;rintro e w2 ⟨rfl,k2⟩;have hb2:=hb0 w2 k2)
  go_ret
  exact ⟨by rw [HN.out];rfl,k2⟩
set_option linter.unusedSimpArgs false in
set_option maxHeartbeats 8000000 in
theorem EG {w:World} {lo ob:Nat} {v:Sv} {vs:List Lv} {s:Sy} {er:Nat->Addr} (h:br w lo ob v vs s) (E:cQ w er) (EB:oq lo er) (R:cx s) {k:Nat} {t:ar} (ht:s.tasks[k]?=some t) (hat:dc s.tasks t.no=(k:Int)) (hd:cq t=true) :
  Calls Tryz.prog 135 #[.pointer (some ⟨ob,0,none⟩),ck ⟨6,t.no,0,0,0⟩] w (rD lo ob v vs s er (eH s t).toNat (fk s k t) w):=by
 obtain ⟨⟨ta,tn,ag⟩,⟨la,ln,ah⟩,⟨ga,gn,ai⟩,⟨fa,fn,aj⟩,⟨ra,rn,ao⟩⟩:=v
 have hk:k < s.tasks.length:=cZ ht
 obtain ⟨tb,htb⟩:=h.own.aW hk
 dsimp only at htb
 subst htb
 have hsz:bE s <= 1048576:=by have:=R.small;omega
 have kX:=dw w (.cells (cc ⟨6,t.no,0,0,0⟩) 32)
 have BC:Hid (aq (w.alloc (.cells (cc ⟨6,t.no,0,0,0⟩) 32)) w.heap.size (cc ⟨6,t.no,0,0,0⟩)):=aq.new _ _ _
 have VX:Hid (br (w.alloc (.cells (cc ⟨6,t.no,0,0,0⟩) 32)) lo ob ⟨⟨some ⟨tb,0,none⟩,tn,ag⟩,⟨la,ln,ah⟩,⟨ga,gn,ai⟩,⟨fa,fn,aj⟩,⟨ra,rn,ao⟩⟩ vs s):=h.keeps kX
 have HE:Hid (cQ (w.alloc (.cells (cc ⟨6,t.no,0,0,0⟩) 32)) er):=E.keeps kX
 have Fk:Hid (dc s.tasks t.no=(k:Int)):=hat
 have Ht:Hid (s.tasks[k]?=some t):=ht
 have kn:Hid (s.tasks.length=tn):=(h.own.t.row cF).1
 have mY:Hid (s.af.length=gn):=(h.own.g.row ia).1
 have htn:tn <= 12:=by rw [<- kn.out];exact R.few.1
 have hgn:gn <= 12:=by rw [<- mY.out];exact R.few.2.2.1
 have hkn:(k:Int) < (tn:Int):=by rw [<- kn.out];omega
 have hkn':k < tn:=by omega
 have ye:Hid (oq lo er):=EB
 have Fl:Hid (cQ w er):=E
 clear h E hat ht EB hk
 obtain ⟨bz,tP⟩:∃ z,Hid (jV s t.no=z):=⟨_,rfl⟩
 have tQ:Hid (t.cls=1):=by unfold cq at hd;rw [Bool.and_eq_true] at hd;show _=_;simpa using hd.2
 have yf:Hid (iC t=t.q /\ iD t=t.p):=by show _ /\ _;unfold iC iD;rw [if_pos hd,if_pos hd];exact ⟨rfl,rfl⟩
 have Hd:Hid (cq t=true):=hd
 clear hd
 have ld:Hid (je s t=decide (s.now < t.due)):=by show _=_;unfold je;rw [tQ.out];simp
 go_enter Tryz.func135,Tryz.ntmps135
 go_upto_region 1 with fail
 change Code.wp _ _ _ _ (w.alloc (.cells (cc ⟨6,t.no,0,0,0⟩) 32))
 generalize w.alloc (.cells (cc ⟨6,t.no,0,0,0⟩) 32)=X at *
 have HS:Hid (aA X ⟨⟨some ⟨tb,0,none⟩,tn,ag⟩,⟨la,ln,ah⟩,⟨ga,gn,ai⟩,⟨fa,fn,aj⟩,⟨ra,rn,ao⟩⟩ s):=VX.out.own.on (by omega)
 have rC:∀ w',aa X w'->∀ q,w'.cell? ⟨w.heap.size,q,none⟩=(cc ⟨6,t.no,0,0,0⟩)[q]?:=fun w' k=>(BC.out.keeps k).cells
 have rB:∀ w',aa X w'->∀ q,w'.cell? ⟨ob,q,none⟩=(ae s ⟨⟨some ⟨tb,0,none⟩,tn,ag⟩,⟨la,ln,ah⟩,⟨ga,gn,ai⟩,⟨fa,fn,aj⟩,⟨ra,rn,ao⟩⟩)[q]?:=fun w' k=>(VX.out.box.keeps k).cells
 dsimp only [ae] at rB
 have cA:∀ w',aa X w'->Calls Tryz.prog 17 #[.slice (some ⟨tb,0,none⟩) tn ag,.int .i64 t.no] w' fun e w''=>e = .returned (.int .i64 k) /\ aa w' w'':=fun w' k=>by
  have:=tM (some ⟨tb,0,none⟩) ag s.tasks t.no w' (by rw [kn.out];unfold maxLen;omega) (HS.out.keeps k).lay.t
  rw [kn.out,Fk.out] at this
  exact this
 refine wp_region_held_drew (S:=(fun w'=>aa X w')) (by kernel_rfl) ?_ (fun hHeld => ?_)
 ·exact (aa.refl X).drew
 refine ad.go [0,1,2,3,4,5] ?_
 iterate 6 (refine aM (h := ?_);try simp only [au])
 refine ad.nil ?_
 refine aR 6 (h:=fun K hK => ?_)
 go_simp
 (go_at_call 17;refine (cA _ (by assumption)).mono ?_;rintro e w2 ⟨rfl,k2⟩;clear cA)
 try go_wp2_with fail
 refine hK.out _ _ ?_ fun hHeld => ?_
 ·exact aa.trans (by assumption) (by assumption)
 clear hK K
 try simp only [au]
 refine di 7 (h := ?_)
 try simp only [au]
 refine wpAnyH_done (by kernel_rfl) ?_ _
 have K2:aa X w2:=by assumption
 clear k2 hHeld
 have hk0:decide ((k:Int) < 0)=false:=by simp
 have Fm:=rC w2 K2
 have Fo:=rB w2 K2
 have TI:∀ w',aa X w'->Calls Tryz.prog 167 #[.pointer (some ⟨ob,0,none⟩),.int .i64 t.no] w' fun e w''=>e = .returned (.bool bz) /\ aa w' w'':=fun w' k=>by
  have:=Fj (VX.out.keeps k) hsz t.no
  rw [tP.out] at this
  exact this
 cases bz
 rotate_left
 ·have HN:Hid ((eH s t).toNat=5):=by show (eH s t).toNat=5;unfold eH;rw [tP.out];rfl
  go_wp2_with (go_at_call 167;refine (TI _ K2).mono ?_;rintro e w3 ⟨rfl,k3⟩;clear TI;have e5:w3.cell? ⟨5,0,none⟩=some (.iface 284 (.pointer (some (er 5)))):=(HE.out.keeps (K2.trans k3)).var 5 (by omega) (by omega))
  go_ret
  exact Fp VX.out kX (K2.trans k3) HN.out (by decide)
 have dJ:Hid (eH s t=if decide (s.now < t.due)&&gn==12 then 4 else 0):=by show eH s t=_;unfold eH;rw [tP.out,ld.out,mY.out];rfl
 have T0:∀ w',aa X w'->∀ i,i < 14->w'.cell? ⟨tb,k*14+i,none⟩=(tc t)[i]?:=fun w' kk i hi=>(kk.cells tb _ (VX.out.own.aG (i:=0) (b:=tb) rfl).2).trans ((VX.out.own.aJ (rb:=tb) rfl Ht.out).1 i hi)
 have lf:∀ w',aa X w'->w'.cell? ⟨tb,k*14,none⟩=some (.int .i64 t.no):=fun w' kk=>T0 w' kk 0 (by omega)
 go_upto_region 7 with (go_at_call 167;refine (TI _ K2).mono ?_;rintro e w3 ⟨rfl,k3⟩;clear TI;have Fq:=rB w3 (K2.trans k3);have T3:=T0 w3 (K2.trans k3);have Fs:=lf w3 (K2.trans k3))
 have kY:aa X (w3.alloc (.cells (tc t) 43)):=(K2.trans k3).alloc _
 have BT:Hid (aq (w3.alloc (.cells (tc t) 43)) w3.heap.size (tc t)):=aq.new _ _ _
 have rI:Hid (X.heap.size <= w3.heap.size):=(K2.trans k3).size
 change Code.wp _ _ _ _ (w3.alloc (.cells (tc t) 43))
 clear Fm Fo Fq T3 Fs k3 K2 rC T0 lf
 generalize (w3.alloc (.cells (tc t) 43))=Y at *
 generalize w3.heap.size=eC at *
 have VY:Hid (br Y lo ob ⟨⟨some ⟨tb,0,none⟩,tn,ag⟩,⟨la,ln,ah⟩,⟨ga,gn,ai⟩,⟨fa,fn,aj⟩,⟨ra,rn,ao⟩⟩ vs s):=VX.out.keeps kY
 have rp:=rB Y kY
 clear rB
 have OT:Own 43 14 tc Y lo (.slice (some ⟨tb,0,none⟩) tn ag) s.tasks:=VY.out.own.t
 have yg:Hid (Calls Tryz.prog 168 #[.slice (some ⟨tb,0,none⟩) tn ag,.int .i64 k,.int .i64 ((k:Int)+1)] Y fun e w'=>e = .returned (.slice (some ⟨tb,0,none⟩) (tn - 1) ag) /\ Own 43 14 tc w' lo (.slice (some ⟨tb,0,none⟩) (tn - 1) ag) (s.tasks.eraseIdx k) /\ Y.grownBy w' (some tb)):=Ft OT hkn' (by omega)
 have tR:Hid (tb < X.heap.size /\ lo <= tb):=⟨(VX.out.own.aG (i:=0) (b:=tb) rfl).2,(VX.out.own.aG (i:=0) (b:=tb) rfl).1⟩
 have tS:Hid (ob < X.heap.size):=VX.out.box.lt
 clear OT
 go_upto_region 8 with (go_at_call 168;refine yg.out.mono ?_;rintro e w4 ⟨rfl,o4,g4⟩;clear yg;obtain ⟨_,p1,p2⟩:=VY.out.box.grown g4 (fun q e e2=>VY.out.far 0 (by rw [<- e2];exact e));dsimp only [ae] at p1)
 have G4:=aN.tasks VY.out.g (aa.refl Y) (x:=⟨some ⟨tb,0,none⟩,tn - 1,ag⟩) o4 g4 (fun q hq => .inl hq)
 have V4:Hid (br (w4.setCell ⟨ob,2,none⟩ (.slice (some ⟨tb,0,none⟩) (tn - 1) ag)) lo ob ⟨⟨some ⟨tb,0,none⟩,tn - 1,ag⟩,⟨la,ln,ah⟩,⟨ga,gn,ai⟩,⟨fa,fn,aj⟩,⟨ra,rn,ao⟩⟩ vs { s with tasks:=s.tasks.eraseIdx k }):=G4.var
 have T4:Hid (aB (fun b=>b=ob∨∃ i,aX ⟨⟨some ⟨tb,0,none⟩,tn,ag⟩,⟨la,ln,ah⟩,⟨ga,gn,ai⟩,⟨fa,fn,aj⟩,⟨ra,rn,ao⟩⟩ vs i b) X (w4.setCell ⟨ob,2,none⟩ (.slice (some ⟨tb,0,none⟩) (tn - 1) ag))):=aB.putC (.inl rfl) [.slice (some ⟨tb,0,none⟩) (tn - 1) ag] 2 ((aB.of kY).trans ((aB.grown g4).mono fun q e => .inr ⟨0,e⟩))
 have B4:Hid (aq (w4.setCell ⟨ob,2,none⟩ (.slice (some ⟨tb,0,none⟩) (tn - 1) ag)) eC (tc t)):=(BT.out.grown g4 (fun q e=>by have h1:=rI.out;have h2:=tR.out.1;have h3:tb=q:=Option.some.inj e;omega)).far (by have h1:=rI.out;have h2:=tS.out;omega) _
 change Code.wp _ _ _ _ (w4.setCell ⟨ob,2,none⟩ (.slice (some ⟨tb,0,none⟩) (tn - 1) ag))
 clear G4 p1 p2 o4 g4 rp BT VY kY
 generalize (w4.setCell ⟨ob,2,none⟩ (.slice (some ⟨tb,0,none⟩) (tn - 1) ag))=Z at *
 obtain ⟨s3,l6⟩:∃ x:Sy,Hid ({ s with tasks:=s.tasks.eraseIdx k }=x):=⟨_,rfl⟩
 have hs3:s3.now=s.now /\ s3.af=s.af:=by rw [<- l6.out];exact ⟨rfl,rfl⟩
 rw [l6.out] at V4
 have E4:Hid (cQ Z er):=yh HE.out ye.out T4.out (fun q hq=>by
  rcases hq with rfl | ⟨i,hi⟩
  ·exact VX.out.fu
  ·exact (VX.out.own.aG hi).1)
 have ij:Hid (eC < Z.heap.size):=B4.out.lt
 have rT:∀ w',aa Z w'->∀ q,w'.cell? ⟨eC,q,none⟩=(tc t)[q]?:=fun w' k=>(B4.out.keeps k).cells
 have Fu:=rT Z (aa.refl Z)
 have DS:Hid (∀ w',Calls Tryz.prog 169 #[tk t] w' fun e w''=>e = .returned (.tuple #[sh t.q t.p,.bool true]) /\ aa w' w''):=fun w'=>by
  have:=Fv t w'
  rw [yf.out.1,yf.out.2,Hd.out] at this
  exact this
 go_upto_region 9 with (go_at_call 169;refine (DS.out _).mono ?_;rintro e w5 ⟨rfl,k5⟩)
 have kU:aa Z (w5.alloc (.cells #[.int .i64 t.q,.int .i64 t.p] 51)):=k5.alloc _
 have BS:Hid (aq (w5.alloc (.cells #[.int .i64 t.q,.int .i64 t.p] 51)) w5.heap.size #[.int .i64 t.q,.int .i64 t.p]):=aq.new _ _ _
 have Fw:Hid (Z.heap.size <= w5.heap.size):=k5.size
 change Code.wp _ _ _ _ (w5.alloc (.cells #[.int .i64 t.q,.int .i64 t.p] 51))
 clear Fu k5 DS
 generalize (w5.alloc (.cells #[.int .i64 t.q,.int .i64 t.p] 51))=U at *
 generalize w5.heap.size=ma at *
 have VU:Hid (br U lo ob ⟨⟨some ⟨tb,0,none⟩,tn - 1,ag⟩,⟨la,ln,ah⟩,⟨ga,gn,ai⟩,⟨fa,fn,aj⟩,⟨ra,rn,ao⟩⟩ vs s3):=V4.out.keeps kU
 have TU:Hid (aB (fun b=>b=ob∨∃ i,aX ⟨⟨some ⟨tb,0,none⟩,tn,ag⟩,⟨la,ln,ah⟩,⟨ga,gn,ai⟩,⟨fa,fn,aj⟩,⟨ra,rn,ao⟩⟩ vs i b) w U):=(aB.of kX).trans (T4.out.trans (aB.of kU))
 have EU:Hid (cQ U er):=E4.out.keeps kU
 have BU:Hid (aq U eC (tc t)):=B4.out.keeps kU
 have Fx:∀ w',aa U w'->∀ q,w'.cell? ⟨eC,q,none⟩=(tc t)[q]?:=fun w' k=>(BU.out.keeps k).cells
 have tU:∀ w',aa U w'->∀ q,w'.cell? ⟨ob,q,none⟩=(ae s3 ⟨⟨some ⟨tb,0,none⟩,tn - 1,ag⟩,⟨la,ln,ah⟩,⟨ga,gn,ai⟩,⟨fa,fn,aj⟩,⟨ra,rn,ao⟩⟩)[q]?:=fun w' k=>(VU.out.box.keeps k).cells
 dsimp only [ae] at tU
 rw [hs3.1] at tU
 have pX:Hid (s3.af=s.af):=hs3.2
 have na:Hid (s3.now=s.now):=hs3.1
 clear hs3 rT V4 T4 E4 B4 kU
 by_cases hle:t.due <= s.now
 ·have tV:decide (t.due <= s.now)=true:=by simp [hle]
  have HN:Hid ((eH s t).toNat=0):=by
   show _=_
   rw [dJ.out,show decide (s.now < t.due)=false by simp;omega]
   rfl
  have HC:Hid (fk s k t=s3):=by
   show _=_
   unfold fk
   rw [ld.out,show decide (s.now < t.due)=false by simp;omega,<- l6.out]
   rfl
  refine wp_region_held_drew (S:=(fun w'=>aa U w')) (by kernel_rfl) ?_ (fun hHeld => ?_)
  ·exact (aa.refl U).drew
  refine ad.go [0,1,2,3,4,5,6,7,8,9,10] ?_
  iterate 11 (refine aM (h := ?_);try simp only [au])
  refine ad.nil ?_
  refine wpAnyH_done (by kernel_rfl) ?_ _
  go_wp2
  go_ret
  refine ⟨by rw [HN.out];rfl,TU.out.trans (aB.of (aa.refl U).drew),fun _=>⟨_,vs,by rw [HC.out];exact VU.out.keeps (aa.refl U).drew,?_⟩,_,_,(VU.out.keeps (aa.refl U).drew).box,na.out⟩
  intro i b hb
  match i,hb with
  | 0,hb=>exact .inl ⟨0,hb⟩
  | 1,hb=>exact .inl ⟨1,hb⟩
  | 2,hb=>exact .inl ⟨2,hb⟩
  | 3,hb=>exact .inl ⟨3,hb⟩
  | 4,hb=>exact .inl ⟨4,hb⟩
 have tV:decide (t.due <= s.now)=false:=by simp;omega
 have tW:Hid (decide (s.now < t.due)=true):=by show _=_;simp;omega
 refine wp_region_held_drew (S:=(fun w'=>aa U w')) (by kernel_rfl) ?_ (fun hHeld => ?_)
 ·exact (aa.refl U).drew
 refine ad.go [0,1,2,3,4,5,6,7,8,9,10] ?_
 iterate 11 (refine aM (h := ?_);try simp only [au])
 refine ad.nil ?_
 refine wpAnyH_done (by kernel_rfl) ?_ _
 have VD:Hid (br U.drew lo ob ⟨⟨some ⟨tb,0,none⟩,tn - 1,ag⟩,⟨la,ln,ah⟩,⟨ga,gn,ai⟩,⟨fa,fn,aj⟩,⟨ra,rn,ao⟩⟩ vs s3):=VU.out.keeps (aa.refl U).drew
 have TD:Hid (aB (fun b=>b=ob∨∃ i,aX ⟨⟨some ⟨tb,0,none⟩,tn,ag⟩,⟨la,ln,ah⟩,⟨ga,gn,ai⟩,⟨fa,fn,aj⟩,⟨ra,rn,ao⟩⟩ vs i b) w U.drew):=TU.out.trans (aB.of (aa.refl U).drew)
 have ED:Hid (cQ U.drew er):=EU.out.keeps (aa.refl U).drew
 have HD:Hid (gk ob (ae s3 ⟨⟨some ⟨tb,0,none⟩,tn - 1,ag⟩,⟨la,ln,ah⟩,⟨ga,gn,ai⟩,⟨fa,fn,aj⟩,⟨ra,rn,ao⟩⟩) eC (tc t) ma #[.int .i64 t.q,.int .i64 t.p] U.drew):=⟨VD.out.box,BU.out.keeps (aa.refl U).drew,BS.out.keeps (aa.refl U).drew⟩
 have Fy:Hid (X.heap.size <= ma):=by show _ <= _;have h2:=rI.out;have h3:=Fw.out;have h4:=ij.out;omega
 clear Fx tU VU TU EU BU BS hHeld
 go_upto_region 11 with fail
 generalize U.drew=D at *
 have e0:∀ w',gk ob (ae s3 ⟨⟨some ⟨tb,0,none⟩,tn - 1,ag⟩,⟨la,ln,ah⟩,⟨ga,gn,ai⟩,⟨fa,fn,aj⟩,⟨ra,rn,ao⟩⟩) eC (tc t) ma #[.int .i64 t.q,.int .i64 t.p] w'->∀ j,w'.cell? ⟨ob,j,none⟩=(ae s3 ⟨⟨some ⟨tb,0,none⟩,tn - 1,ag⟩,⟨la,ln,ah⟩,⟨ga,gn,ai⟩,⟨fa,fn,aj⟩,⟨ra,rn,ao⟩⟩)[j]?:=fun w' hh=>hh.one.cells
 have e1:∀ w',gk ob (ae s3 ⟨⟨some ⟨tb,0,none⟩,tn - 1,ag⟩,⟨la,ln,ah⟩,⟨ga,gn,ai⟩,⟨fa,fn,aj⟩,⟨ra,rn,ao⟩⟩) eC (tc t) ma #[.int .i64 t.q,.int .i64 t.p] w'->∀ j,w'.cell? ⟨eC,j,none⟩=(tc t)[j]?:=fun w' hh=>hh.two.cells
 have e2:∀ w',gk ob (ae s3 ⟨⟨some ⟨tb,0,none⟩,tn - 1,ag⟩,⟨la,ln,ah⟩,⟨ga,gn,ai⟩,⟨fa,fn,aj⟩,⟨ra,rn,ao⟩⟩) eC (tc t) ma #[.int .i64 t.q,.int .i64 t.p] w'->∀ j,w'.cell? ⟨ma,j,none⟩=(#[.int .i64 t.q,.int .i64 t.p]:Array Value)[j]?:=fun w' hh=>hh.three.cells
 dsimp only [ae] at e0
 obtain ⟨m7,jy⟩:∃ m,Hid ((s.af++[f8 t]).length=m):=⟨_,rfl⟩
 have sy:m7=gn+1:=by rw [<- jy.out,<- mY.out];simp
 have pY:Hid (m7=gn+1):=sy
 clear sy
 refine tf 13 (S:=(fun w'=>gk ob (ae s3 ⟨⟨some ⟨tb,0,none⟩,tn - 1,ag⟩,⟨la,ln,ah⟩,⟨ga,gn,ai⟩,⟨fa,fn,aj⟩,⟨ra,rn,ao⟩⟩) eC (tc t) ma #[.int .i64 t.q,.int .i64 t.p] w')) (by kernel_rfl) ?_ (fun hHeld => ?_)
 ·exact HD.out.go (aa.refl _).drew
 refine ad.go [0,1,2,3,4,5,6,7,8,9,10] ?_
 iterate 11 (refine j4 (h := ?_);try simp only [au])
 refine ad.nil ?_
 refine mW (i:=11) (h:=fun K hK => ?_)
 go_simp
 try go_wp2_with fail
 refine hK.out _ _ ?_ fun hHeld => ?_
 ·exact gk.go (by assumption) ((aa.refl _).alloc _)
 clear hK K
 try simp only [au]
 refine mW (i:=12) (h:=fun K hK => ?_)
 (refine mr rfl (.tmp 62) (.tmp 69) 26 rfl lo 87 (.agg (cP Gh.zero)) 4 32 cP Tryz.underlying26 (by kernel_rfl) rfl (by decide) ia nR (.slice ga gn ai) s.af (by simp [Act.eval]) (by have:=VD.out.own.g.keeps ((aa.refl D).alloc (.cells (cP (f8 t)) 87)).drew;rw [pX.out] at this;exact this) (by have:=VD.out.fu;have:=VD.out.box.lt;simp;omega) [f8 t] _ 0 1 (nS ((aq.new D (cP (f8 t)) 87).keeps (aa.refl _).drew)) (by simp [Act.eval]) (by have:=mY.out;simp [maxLen];omega) (by have:=mY.out;simp;omega) ?_;intro v7 w7 o7 g7 f7;obtain ⟨a7,c7,e7⟩:=o7.form ia;rw [jy.out] at e7;subst e7;have G7:=aN.af VD.out.g ((aa.refl D).alloc (.cells (cP (f8 t)) 87)).drew (x:=⟨a7,m7,c7⟩) o7 g7 (fun q hq=>(f7 q hq).imp id (fun e=>by rw [e];simp));have f7':Hid (∀ q,aX ⟨⟨some ⟨tb,0,none⟩,tn - 1,ag⟩,⟨la,ln,ah⟩,⟨a7,m7,c7⟩,⟨fa,fn,aj⟩,⟨ra,rn,ao⟩⟩ vs 2 q->(∃ j,aX ⟨⟨some ⟨tb,0,none⟩,tn,ag⟩,⟨la,ln,ah⟩,⟨ga,gn,ai⟩,⟨fa,fn,aj⟩,⟨ra,rn,ao⟩⟩ vs j q)∨D.heap.size <= q):=(fun q hq=>(f7 q hq).imp (fun e=>⟨2,e⟩) (fun e=>by rw [e];simp));have T7:Hid (aB (fun b=>b=ob∨∃ i,aX ⟨⟨some ⟨tb,0,none⟩,tn,ag⟩,⟨la,ln,ah⟩,⟨ga,gn,ai⟩,⟨fa,fn,aj⟩,⟨ra,rn,ao⟩⟩ vs i b) w (w7.setCell ⟨ob,4,none⟩ (.slice a7 m7 c7))):=aB.putC (.inl rfl) [.slice a7 m7 c7] 4 ((TD.out.trans (aB.of ((aa.refl D).alloc (.cells (cP (f8 t)) 87)).drew)).trans ((aB.grown g7).mono fun q e => .inr ⟨2,e⟩)))
 refine hK.out _ _ ?_ fun hHeld => ?_
 ·(have B1:=(HD.out.go ((aa.refl D).alloc (.cells (cP (f8 t)) 87)).drew);refine ⟨B1.one.grown g7 (fun q e e2=>VD.out.far 2 (by rw [<- e2];exact e)),B1.two.grown g7 (fun q e e2 => ?_),B1.three.grown g7 (fun q e e2 => ?_)⟩ <;> (have h1:=(VX.out.own.aG (i:=2) (b:=q) e).2;have h2:=rI.out;have h3:=Fy.out;omega))
 clear hK K
 try simp only [au]
 refine j5 (i:=13) (h:=fun K hK => ?_)
 have pZ:gk ob (ae s3 ⟨⟨some ⟨tb,0,none⟩,tn - 1,ag⟩,⟨la,ln,ah⟩,⟨ga,gn,ai⟩,⟨fa,fn,aj⟩,⟨ra,rn,ao⟩⟩) eC (tc t) ma #[.int .i64 t.q,.int .i64 t.p] w7:=(by assumption);obtain ⟨_,z1,z2⟩:=pZ.one
 go_simp
 try go_wp2_with fail
 refine hK.out _ _ ?_
 clear hK K
 try simp only [au]
 refine j5 (i:=14) (h:=fun K hK => ?_)
 go_simp
 try go_wp2_with fail
 refine hK.out _ _ ?_
 clear hK K
 try simp only [au]
 refine j5 (i:=15) (h:=fun K hK => ?_)
 go_simp
 try go_wp2_with fail
 refine hK.out _ _ ?_
 clear hK K
 try simp only [au]
 refine td (by kernel_rfl) ?_
 have V7:Hid (br (w7.setCell ⟨ob,4,none⟩ (.slice a7 m7 c7)) lo ob ⟨⟨some ⟨tb,0,none⟩,tn - 1,ag⟩,⟨la,ln,ah⟩,⟨a7,m7,c7⟩,⟨fa,fn,aj⟩,⟨ra,rn,ao⟩⟩ vs { s3 with af:=s.af++[f8 t] }):=G7.var
 clear G7 o7 g7 f7 z1 z2 pZ e0 e1 e2 HD VD ED
 go_upto_region 12 with fail
 change Code.wp _ _ _ _ (w7.setCell ⟨ob,4,none⟩ (.slice a7 m7 c7))
 generalize (w7.setCell ⟨ob,4,none⟩ (.slice a7 m7 c7))=G at *
 have E7:Hid (cQ G er):=yh Fl.out ye.out T7.out (fun q hq=>by
  rcases hq with rfl | ⟨i,hi⟩
  ·exact VX.out.fu
  ·exact (VX.out.own.aG hi).1)
 obtain ⟨_,y1,y2⟩:=V7.out.box
 dsimp only [ae] at y1
 by_cases hg:gn=12
 ·have HN:Hid ((eH s t).toNat=4):=by
   show _=_
   rw [dJ.out,tW.out,hg]
   rfl
  have hm:decide ((12:Int) < (m7:Int))=true:=by have:=pY.out;simp;omega
  have e4:G.cell? ⟨4,0,none⟩=some (.iface 284 (.pointer (some (er 4)))):=E7.out.var 4 (by omega) (by omega)
  go_wp2
  go_ret
  exact ⟨by rw [HN.out];rfl,T7.out,fun e=>absurd (HN.out.symm.trans e) (by decide),_,_,V7.out.box,na.out⟩
 ·have HN:Hid ((eH s t).toNat=0):=by
   show _=_
   rw [dJ.out,tW.out,show (gn==12)=false by simpa using hg]
   rfl
  have HC:Hid (fk s k t={ s3 with af:=s.af++[f8 t] }):=by
   show _=_
   unfold fk
   rw [ld.out,tW.out,<- l6.out]
   rfl
  have hm:decide ((12:Int) < (m7:Int))=false:=by have:=pY.out;simp;omega
  go_wp2
  go_ret
  refine ⟨by rw [HN.out];rfl,T7.out,fun _=>⟨_,vs,by rw [HC.out];exact V7.out,?_⟩,_,_,V7.out.box,na.out⟩
  intro i b hb
  match i,hb with
  | 0,hb=>exact .inl ⟨0,hb⟩
  | 1,hb=>exact .inl ⟨1,hb⟩
  | 2,hb=>exact (f7'.out b hb).imp id fun h=>Nat.le_trans TD.out.size h
  | 3,hb=>exact .inl ⟨3,hb⟩
  | 4,hb=>exact .inl ⟨4,hb⟩
theorem Fz (t:ar) (w:World):(Instr.field 84 (.agg (fJ t)) 1).run Tryz.prog w = .ok (.agg #[.int .i64 t.q,.int .i64 t.p,.int .i64 t.left,.int .i64 t.due]) w:=by kernel_rfl
theorem FA (q p l d:Int) (w:World):(Instr.field 82 (.agg #[.int .i64 q,.int .i64 p,.int .i64 l,.int .i64 d]) 0).run Tryz.prog w = .ok (.agg #[.int .i64 q,.int .i64 p]) w:=by kernel_rfl
attribute [local go_sem] Fz FA
set_option maxHeartbeats 4000000 in
theorem tL:FB:=by
 intro w v s cpu h
 obtain ⟨⟨ta,tn,ag⟩,vl,⟨ga,gn,ai⟩,vf,vr⟩:=v
 have hm1:tn <= 2000000:=by have h1:=h.size;have h2:s.tasks.length=tn:=h.lay.tl;unfold bE at h1;omega
 have hm2:gn <= 2000000:=by have h1:=h.size;have h2:s.af.length=gn:=h.lay.gl;unfold bE at h1;omega
 have Hn:Hid (s.tasks.length=tn):=h.lay.tl
 have Hg:Hid (s.af.length=gn):=h.lay.gl
 have kW:=dw w (.cells (ae s ⟨⟨ta,tn,ag⟩,vl,⟨ga,gn,ai⟩,vf,vr⟩) 30)
 have hb:=dA w (ae s ⟨⟨ta,tn,ag⟩,vl,⟨ga,gn,ai⟩,vf,vr⟩) 30
 have hs1:Hid (Ts (w.alloc (.cells (ae s ⟨⟨ta,tn,ag⟩,vl,⟨ga,gn,ai⟩,vf,vr⟩) 30)) ta s.tasks):=h.lay.t.keeps kW
 have hs2:Hid (Gs (w.alloc (.cells (ae s ⟨⟨ta,tn,ag⟩,vl,⟨ga,gn,ai⟩,vf,vr⟩) 30)) ga s.af):=h.lay.g.keeps kW
 clear h
 have HE:Hid (dH s cpu=(s.tasks.filter (eE cpu)).map gg++(s.af.filter (df cpu)).map gZ):=rfl
 go_enter Tryz.func16,Tryz.ntmps16
 go_wp2
 have HW:Hid (w.heap.size <= (w.alloc (.cells (ae s ⟨⟨ta,tn,ag⟩,vl,⟨ga,gn,ai⟩,vf,vr⟩) 30)).heap.size):=kW.size
 generalize w.alloc (.cells (ae s ⟨⟨ta,tn,ag⟩,vl,⟨ga,gn,ai⟩,vf,vr⟩) 30)=W at *
 go_loopw [5,13] (fun o i wr=>∃ (k:Nat) (xs:List (Int × Int)),k <= tn /\ i = .int .i64 k /\ xs.length <= k /\ Hid (xs=((s.tasks.take k).filter (eE cpu)).map gg) /\ Hid (dQ wr W.heap.size o xs) /\ aa W wr) (fun _ i _=>tn - (intOf i).toNat)
 case atStart=>exact ⟨0,[],Nat.zero_le _,rfl,by simp,by show _=_;simp,World.ownsRow_nil _ _ _ _,aa.refl _⟩
 case round =>
  obtain ⟨k,xs,hk,rfl,hxl,HX,O,hK⟩:=hrel
  by_cases hlt:k < tn
  ·obtain ⟨t,ht⟩:=cd (xs:=s.tasks) (k:=k) (by rw [Hn.out];exact hlt)
   obtain ⟨b,off,rfl,r0,r1⟩:=hs1.out.at ht (by omega)
   have hlt':(k:Int) < (tn:Int):=by omega
   have cw:=rJ (eE cpu) gg ht
   rw [<- HX.out] at cw
   have HS:Hid (((s.tasks.take (k+1)).filter (eE cpu)).map gg=xs++(if eE cpu t then [gg t] else [])):=cw
   clear ht cw
   cases c1:(t.cls==1)
   ·have Hx:Hid (xs=((s.tasks.take (k+1)).filter (eE cpu)).map gg):=by show _=_;rw [HS.out];simp [eE,c1]
    go_wp2
    exact ⟨⟨k+1,xs,by omega,by go_num,by omega,Hx,O.out.keeps ((aa.refl _).alloc _),hK.alloc _⟩,by simp only [intOf];omega⟩
   cases c2:(t.cpu==cpu)
   ·have Hx:Hid (xs=((s.tasks.take (k+1)).filter (eE cpu)).map gg):=by show _=_;rw [HS.out];simp [eE,c1,c2]
    go_wp2
    exact ⟨⟨k+1,xs,by omega,by go_num,by omega,Hx,O.out.keeps ((aa.refl _).alloc _),hK.alloc _⟩,by simp only [intOf];omega⟩
   have Hx:Hid (xs++[(t.q,t.p)]=((s.tasks.take (k+1)).filter (eE cpu)).map gg):=by show _=_;rw [HS.out];simp [eE,c1,c2,gg]
   go_wp2_with (first
    | (go_at_call 43;refine (tX t _).mono ?_;rintro e w4 ⟨rfl,k4⟩;have K4:aa wr w4:=((aa.refl wr).alloc _).trans k4;clear k4)
    | (at_builtin;(refine ib rfl _ _ 46 rfl W 51 (.agg (pc (0,0))) 2 16 pc Tryz.underlying46 (by kernel_rfl) rfl (by decide) iR nV _ xs rfl wr O.out hK (K4.alloc _) (t.q,t.p) _ 1 (aq.new _ _ _) rfl ?c1 ?c2 ?_)))
   case c1=>unfold maxLen;omega
   case c2=>omega
   intro v' w5 cz k5 _
   have HO:Hid (dQ w5 W.heap.size v' (xs++[(t.q,t.p)])):=cz
   clear cz O
   go_wp2
   exact ⟨⟨k+1,xs++[(t.q,t.p)],by omega,by go_num,by simp;omega,Hx,HO,k5⟩,by simp only [intOf];omega⟩
  ·have hlt':decide ((k:Int) < (tn:Int))=false:=by simp;omega
   have HP:Hid ((s.tasks.filter (eE cpu)).map gg=xs):=by
    have h1:=HX.out
    rw [List.take_of_length_le (by have:=Hn.out;omega)] at h1
    exact h1.symm
   clear HX
   go_wp2
   generalize wr=V at *
   go_loopw [5,37] (fun o i wr=>∃ (j:Nat) (ys:List (Int × Int)),j <= gn /\ i = .int .i64 j /\ ys.length <= tn+j /\ Hid (ys=xs++((s.af.take j).filter (df cpu)).map gZ) /\ Hid (dQ wr W.heap.size o ys) /\ aa W wr) (fun _ i _=>gn - (intOf i).toNat)
   case atStart=>exact ⟨0,xs,Nat.zero_le _,rfl,by omega,by show _=_;simp,O,hK⟩
   case round =>
    obtain ⟨j,ys,hj,rfl,hyl,HY,O2,hK2⟩:=hrel
    clear O hK
    by_cases hjt:j < gn
    ·obtain ⟨g,hg⟩:=cd (xs:=s.af) (k:=j) (by rw [Hg.out];exact hjt)
     obtain ⟨b,off,rfl,r0,r1⟩:=hs2.out.at hg (by omega)
     have jo:(j:Int) < (gn:Int):=by omega
     have HS:Hid (xs++((s.af.take (j+1)).filter (df cpu)).map gZ=ys++(if df cpu g then [gZ g] else [])):=by
      show _=_
      rw [rJ (df cpu) gZ hg,HY.out,List.append_assoc]
     clear hg
     cases c1:(g.cpu==cpu)
     ·have Hx:Hid (ys=xs++((s.af.take (j+1)).filter (df cpu)).map gZ):=by show _=_;rw [HS.out];simp [df,c1]
      go_wp2
      exact ⟨⟨j+1,ys,by omega,by go_num,by omega,Hx,O2.out.keeps ((aa.refl _).alloc _),hK2.alloc _⟩,by simp only [intOf];omega⟩
     have Hx:Hid (ys++[(g.q,g.p)]=xs++((s.af.take (j+1)).filter (df cpu)).map gZ):=by show _=_;rw [HS.out];simp [df,c1,gZ]
     go_wp2_with (at_builtin;(refine ib rfl _ _ 46 rfl W 51 (.agg (pc (0,0))) 2 16 pc Tryz.underlying46 (by kernel_rfl) rfl (by decide) iR nV _ ys rfl wr O2.out hK2 (((aa.refl _).alloc _).alloc _) (g.q,g.p) (wr.heap.size+1) 1 (by have:=aq.new (wr.alloc (.cells (cP g) 87)) (pc (g.q,g.p)) 51;simpa using this) rfl ?c1 ?c2 ?_))
     case c1=>unfold maxLen;omega
     case c2=>omega
     intro v' w5 cz k5 _
     have HO:Hid (dQ w5 W.heap.size v' (ys++[(g.q,g.p)])):=cz
     clear cz O2
     go_wp2
     exact ⟨⟨j+1,ys++[(g.q,g.p)],by omega,by go_num,by simp;omega,Hx,HO,k5⟩,by simp only [intOf];omega⟩
    ·have jo:decide ((j:Int) < (gn:Int))=false:=by simp;omega
     have HQ:Hid (dH s cpu=ys):=by
      have h1:=HY.out
      rw [List.take_of_length_le (by have:=Hg.out;omega)] at h1
      show _=_
      rw [HE.out,h1,HP.out]
     go_wp2
     go_ret
     exact ⟨_,rfl,by rw [HQ.out];exact O2.out.base HW.out,kW.trans hK2⟩
end
end Go.Proofs.YteagpjlgjfaclaaGreatDoor
