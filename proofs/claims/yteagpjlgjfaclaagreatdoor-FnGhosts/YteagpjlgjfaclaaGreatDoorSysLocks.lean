/-
  The system: its locks are of tasks, each of one processor.
  The system: it is right.
-/
import Derived.Test.YteagpjlgjfaclaaGreatDoorSysShares
namespace Go.Proofs.YteagpjlgjfaclaaGreatDoor
set_option maxRecDepth 100000
open Go.RowKit
attribute [local go_sem] aa.refl aa.alloc aa.drew aa.drewN
set_option maxHeartbeats 8000000 in
theorem I9 {w:World} {v:Sv} {s:Sy} (h:aA w v s) :
  Calls Tryz.prog 29 #[.agg (ae s v)] w fun e w'=>e = .returned (.bool (gQ s)) /\ aa w w':=by
 have hm:v.t.n <= 2000000 /\ v.l.n <= 2000000:=by have:=h.size;have:=h.lay.ll;have:=h.lay.tl;have:=lP s.ak;unfold bE at *;omega
 obtain ⟨hm1,hm2⟩:=hm
 have kW:=dw w (.cells (ae s v) 30)
 have hb:=dA w (ae s v) 30
 have hT:Hid (fM (w.alloc (.cells (ae s v) 30)) v.t.a v.t.n v.t.cap s.tasks):=h.gF.keeps kW
 have hL:Hid (On (w.alloc (.cells (ae s v) 30)) v.l.a v.l.n v.l.cap s.ak):=h.gx.keeps kW
 have HE:Hid (gQ s=(s.ak.length==5&&(du s.ak&&s.ak.all (iE s.tasks)))):=rfl
 clear h
 cases c1:((v.l.n:Int) != 5)
 rotate_left
 ·have Hr:Hid (gQ s=false):=by
   have:(s.ak.length==5)=false:=by
    rw [hL.out.len]
    simp only [bne_iff_ne,ne_eq] at c1
    simp only [beq_eq_false_iff_ne,ne_eq]
    omega
   show _=_
   rw [HE.out,this];rfl
  go_enter Tryz.func29,Tryz.ntmps29
  go_wp2
  go_ret
  exact ⟨by rw [Hr.out];rfl,kW⟩
 have c5:v.l.n=5:=by simp at c1;omega
 have H5:Hid (v.l.n=5):=c5
 clear c5
 go_enter Tryz.func29,Tryz.ntmps29
 go_wp2_with fail
 generalize w.alloc (.cells (ae s v) 30)=W at *
 refine (hL.out.kh rfl (aa.refl _)).mono ?_
 rintro e w1 ⟨rfl,k1⟩
 cases c2:du s.ak
 ·have Hr:Hid (gQ s=false):=by show _=_;rw [HE.out,c2];simp
  go_wp2
  go_ret
  exact ⟨by rw [Hr.out];rfl,kW.trans k1⟩
 have HE2:Hid (gQ s=s.ak.all (iE s.tasks)):=by
  show _=_
  have:(s.ak.length==5)=true:=by rw [hL.out.len,H5.out];rfl
  rw [HE.out,c2,this];rfl
 clear HE
 go_wp2_with fail
 go_loopw [3] (fun i wr=>∃ k:Nat,k <= v.l.n /\ i = .int .i64 k /\ Hid ((s.ak.take k).all (iE s.tasks)=true) /\ aa W wr) (fun i _=>v.l.n - (intOf i).toNat)
 case atStart=>exact ⟨0,Nat.zero_le _,rfl,by show _=_;simp,k1⟩
 case round =>
  obtain ⟨k,hk,rfl,HA,hK⟩:=hrel
  clear k1
  by_cases hlt:k < v.l.n
  rotate_left
  ·have hlt':decide ((k:Int) < (v.l.n:Int))=false:=by simp;omega
   have Hr:Hid (gQ s=true):=by
    have h1:=HA.out
    rw [List.take_of_length_le (by have:=hL.out.len;omega)] at h1
    show _=_
    rw [HE2.out,h1]
   go_wp2
   go_ret
   exact ⟨by rw [Hr.out];rfl,kW.trans hK⟩
  obtain ⟨l,hl⟩:=cd (xs:=s.ak) (k:=k) (by rw [hL.out.len];exact hlt)
  obtain ⟨-,b,off,a',cap',ha,r0,r1,hle,hns⟩:=hL.out.at hl
  have hlt':(k:Int) < (v.l.n:Int):=by omega
  have cw:Hid ((s.ak.take (k+1)).all (iE s.tasks)=iE s.tasks l):=by
   show _=_
   rw [jd hl,List.all_append,HA.out]
   simp
  have Hno:Hid (iE s.tasks l=false->gQ s=false):=fun e=>by
   rw [HE2.out]
   exact List.all_eq_false.2 ⟨l,List.mem_of_getElem? hl,by rw [e];simp⟩
  have N1:Hid (Ns W a' l.waits):=hns
  have lF:Hid (l.waits.length <= maxLen):=hle
  clear hl hns hle HA
  obtain ⟨m,Hm⟩:∃ m:Nat,Hid (l.waits.length=m):=⟨_,rfl⟩
  rw [Hm.out] at r1
  have KL:m <= 9223372036854775807:=by have:=lF.out;rw [Hm.out] at this;exact this
  cases c3:(l.owner==0)
  rotate_left
  ·have HG:Hid ((s.ak.take (k+1)).all (iE s.tasks)=true):=by show _=_;rw [cw.out];unfold iE;rw [c3];rfl
   go_wp2
   exact ⟨⟨k+1,by omega,by go_num,HG,hK.alloc _⟩,by simp only [intOf];omega⟩
  have K0:aa W (wr.alloc (.cells #[.int .i64 l.owner,.slice a' m cap'] 37)):=hK.alloc _
  have hX:∀ w',aa (wr.alloc (.cells #[.int .i64 l.owner,.slice a' m cap'] 37)) w'->∀ j,w'.cell? ⟨wr.heap.size,j,none⟩=(#[.int .i64 l.owner,.slice a' m cap']:Array Value)[j]?:=fun w' h=>((aq.new wr #[.int .i64 l.owner,.slice a' m cap'] 37).keeps h).cells
  obtain ⟨p,Hp⟩:∃ p,Hid (dc s.tasks l.owner=p):=⟨_,rfl⟩
  go_wp2_with fail
  generalize wr.alloc (.cells #[.int .i64 l.owner,.slice a' m cap'] 37)=X at *
  refine (hT.out.aU l.owner Hp.out K0).mono ?_
  rintro e w2 ⟨rfl,k2⟩
  cases c4:decide (p < 0)
  rotate_left
  ·have Hr:Hid (gQ s=false):=Hno.out (by unfold iE ct;rw [c3,Hp.out,c4];rfl)
   go_wp2
   go_ret
   exact ⟨by rw [Hr.out];rfl,kW.trans (K0.trans k2)⟩
  have hth:ct s.tasks l.owner=true:=by unfold ct;rw [Hp.out,c4];rfl
  obtain ⟨ka,ta,ea,iO,-⟩:=lQ.1 hth
  have fg:Hid (dB s.tasks l.owner=ta):=lR ea iO
  obtain rfl:p=(ka:Int):=by rw [<- Hp.out];exact ea
  have hkn:ka < v.t.n:=by have:=cZ iO;rw [hT.out.len] at this;exact this
  have hki:(ka:Int) < (v.t.n:Int):=by omega
  obtain ⟨bt,ot,hat,rt⟩:=hT.out.all (by omega)
  have ra:∀ w',aa W w'->w'.cell? ⟨bt,ot+ka*14+2,none⟩=some (.int .i64 ta.cpu):=fun w' h=>(rt ka ta iO).2 w' h 2 (by omega)
  have RT:Hid (∀ (i:Nat) (t:ar),s.tasks[i]?=some t->∀ w',aa W w'->w'.cell? ⟨bt,ot+i*14+2,none⟩=some (.int .i64 t.cpu)):=fun i t ht w' h=>(rt i t ht).2 w' h 2 (by omega)
  have HL:Hid (iE s.tasks l=l.waits.all (jC s.tasks ta.cpu)):=by show _=_;unfold iE;rw [c3,hth,fg.out];rfl
  clear hth ea iO rt Hp hlt' r0 r1 ha
  go_wp2_with fail
  generalize wr=U at *
  go_loopw [6] (fun i wx=>∃ j:Nat,j <= m /\ i = .int .i64 j /\ Hid ((l.waits.take j).all (jC s.tasks ta.cpu)=true) /\ aa X wx) (fun i _=>m - (intOf i).toNat)
  case atStart=>exact ⟨0,Nat.zero_le _,rfl,by show _=_;simp,k2⟩
  case round =>
   obtain ⟨j,hj,rfl,HB,hK2⟩:=hrel
   clear k2
   by_cases hjt:j < m
   rotate_left
   ·have jo:decide ((j:Int) < (m:Int))=false:=by simp;omega
    have HG:Hid ((s.ak.take (k+1)).all (iE s.tasks)=true):=by
     have h1:=HB.out
     rw [List.take_of_length_le (by have:=Hm.out;omega)] at h1
     show _=_
     rw [cw.out,HL.out,h1]
    go_wp2
    exact ⟨⟨k+1,by omega,by go_num,HG,K0.trans hK2⟩,by simp only [intOf];omega⟩
   obtain ⟨x,hx⟩:=cd (xs:=l.waits) (k:=j) (by rw [Hm.out];exact hjt)
   obtain ⟨bw,ow,haw,Am⟩:=N1.out.at hx
   subst haw
   have jo:(j:Int) < (m:Int):=by omega
   have nw:Hid ((l.waits.take (j+1)).all (jC s.tasks ta.cpu)=jC s.tasks ta.cpu x):=by
    show _=_
    rw [jd hx,List.all_append,HB.out]
    simp
   have qt:Hid (jC s.tasks ta.cpu x=false->gQ s=false):=fun e=>Hno.out (by rw [HL.out];exact List.all_eq_false.2 ⟨x,List.mem_of_getElem? hx,by rw [e];simp⟩)
   have rx:∀ w',aa X w'->w'.cell? ⟨bw,ow+j,none⟩=some (.int .i64 x):=fun w' h=>Am w' (K0.trans h)
   have hbX:∀ w',aa X w'->∀ j,w'.cell? ⟨w.heap.size,j,none⟩=(ae s v)[j]?:=fun w' h=>hb w' (K0.trans h)
   have KM:∀ w',aa X w'->w'.cell? ⟨bt,ot+ka*14+2,none⟩=some (.int .i64 ta.cpu):=fun w' h=>ra w' (K0.trans h)
   obtain ⟨p,Hp⟩:∃ p,Hid (dc s.tasks x=p):=⟨_,rfl⟩
   have TA:Hid (∀ w',aa X w'->Calls Tryz.prog 71 #[.slice v.t.a v.t.n v.t.cap,.int .i64 x] w' fun e w''=>e = .returned (.int .i64 p) /\ aa w' w''):=fun w' h=>hT.out.aU x Hp.out (K0.trans h)
   rw [hat] at TA
   clear hx HB Am
   go_wp2_with fail
   refine wp_region_held_drew (S:=(fun w'=>aa X w')) (by kernel_rfl) ?_ (fun hHeld => ?_)
   ·exact hK2.drew
   refine ad.go [0,1,2,3,4,5,6] ?_
   iterate 7 (refine aM (h := ?_);try simp only [au])
   refine ad.nil ?_
   refine aR 7 (h:=fun K hK => ?_)
   go_simp
   first
    | (go_at_call 71;refine (TA.out _ hK2.drew).mono ?_;rintro e w5 ⟨rfl,k5⟩)
   try go_wp2_with fail
   refine hK.out _ _ ?_ fun hHeld => ?_
   ·exact aa.trans (by assumption) (by assumption)
   clear hK K
   try simp only [au]
   refine di 8 (h := ?_)
   try simp only [au]
   refine wpAnyH_done (by kernel_rfl) ?_ _
   have K5:aa X w5:=by assumption
   cases c6:decide (p < 0)
   rotate_left
   ·have Hr:Hid (gQ s=false):=qt.out (by unfold jC ct;rw [Hp.out,c6];rfl)
    go_wp2_with fail
    refine wp_region_held_drew (S:=(fun w'=>aa X w')) (by kernel_rfl) ?_ (fun hHeld => ?_)
    ·exact K5.drew
    refine ad.go [0,1,2] ?_
    iterate 3 (refine aM (h := ?_);try simp only [au])
    refine ad.nil ?_
    refine ad.go [3,4,5,6,7,8,9,10,11,12,13,14,15] ?_
    iterate 13 (refine dK (h := ?_);try simp only [au])
    refine ad.nil ?_
    refine di 16 (h := ?_)
    try simp only [au]
    refine wpAnyH_done (by kernel_rfl) ?_ _
    go_wp2
    go_ret
    exact ⟨by rw [Hr.out];rfl,kW.trans (K0.trans K5.drew)⟩
   have nx:ct s.tasks x=true:=by unfold ct;rw [Hp.out,c6];rfl
   obtain ⟨kx,tx,ex,htx,-⟩:=lQ.1 nx
   have pr:Hid (dB s.tasks x=tx):=lR ex htx
   obtain rfl:p=(kx:Int):=by rw [<- Hp.out];exact ex
   have hkx:kx < v.t.n:=by have:=cZ htx;rw [hT.out.len] at this;exact this
   have pt:(kx:Int) < (v.t.n:Int):=by omega
   have KO:∀ w',aa X w'->w'.cell? ⟨bt,ot+kx*14+2,none⟩=some (.int .i64 tx.cpu):=fun w' h=>RT.out kx tx htx w' (K0.trans h)
   have HO:Hid (jC s.tasks ta.cpu x=(tx.cpu==ta.cpu)):=by show _=_;unfold jC;rw [nx,pr.out];rfl
   clear nx ex htx Hp
   cases c7:(tx.cpu != ta.cpu)
   rotate_left
   ·have Hr:Hid (gQ s=false):=qt.out (by rw [HO.out];simp only [bne_iff_ne,ne_eq] at c7;simp [c7])
    go_wp2_with fail
    refine wp_region_held_drew (S:=(fun w'=>aa X w')) (by kernel_rfl) ?_ (fun hHeld => ?_)
    ·exact K5.drew
    refine ad.go [0,1,2,3,4,5,6,7,8,9,10,11,12,13,14,15,16] ?_
    iterate 17 (refine aM (h := ?_);try simp only [au])
    refine ad.nil ?_
    refine wpAnyH_done (by kernel_rfl) ?_ _
    go_wp2
    go_ret
    exact ⟨by rw [Hr.out];rfl,kW.trans (K0.trans K5.drew)⟩
   ·have HB2:Hid ((l.waits.take (j+1)).all (jC s.tasks ta.cpu)=true):=by show _=_;rw [nw.out,HO.out];simp only [bne_eq_false_iff_eq] at c7;simp [c7]
    go_wp2_with fail
    refine wp_region_held_drew (S:=(fun w'=>aa X w')) (by kernel_rfl) ?_ (fun hHeld => ?_)
    ·exact K5.drew
    refine ad.go [0,1,2,3,4,5,6,7,8,9,10,11,12,13,14,15,16] ?_
    iterate 17 (refine aM (h := ?_);try simp only [au])
    refine ad.nil ?_
    refine wpAnyH_done (by kernel_rfl) ?_ _
    go_wp2
    exact ⟨⟨j+1,by omega,by go_num,HB2,K5.drew⟩,by simp only [intOf];omega⟩
theorem sS {w:World} {base:Nat} {u:Value} {xs:List (Int × Int)} (h:dQ w base u xs):Calls Tryz.prog 31 #[u] w fun e w'=>e = .returned (.bool (ji xs)) /\ aa w w':=by
 obtain ⟨a,cap,rfl,l,h1,h2⟩:=h.slice iR
 exact I0 a cap xs w (by omega) (yt l)
set_option maxHeartbeats 8000000 in
theorem qV {w:World} {v:Sv} {s:Sy} (h:aA w v s) :
  Calls Tryz.prog 9 #[.agg (ae s v)] w fun e w'=>e = .returned (.bool (aY s)) /\ aa w w':=by
 have hm:v.t.n <= 2000000 /\ v.f.n <= 2000000 /\ v.r.n <= 2000000:=by have:=h.size;have:=h.lay.tl;have:=h.lay.fl;have:=h.lay.rl;unfold bE at *;omega
 obtain ⟨hm1,hm2,KP⟩:=hm
 have kW:=dw w (.cells (ae s v) 30)
 have hb:=dA w (ae s v) 30
 have hS:Hid (aA (w.alloc (.cells (ae s v) 30)) v s):=h.keeps kW
 clear h
 go_enter Tryz.func9,Tryz.ntmps9
 go_wp2_with fail
 generalize w.alloc (.cells (ae s v) 30)=W at *
 refine (bq _ _ _ _).mono ?_
 rintro e w' ⟨rfl,hw'⟩
 have hw2:=hw'.symm
 subst hw2
 cases c1:aH s.now 0 100000
 ·have Hr:Hid (aY s=false):=by show _=_;unfold aY jE;rw [c1];rfl
  go_wp2
  go_ret
  exact ⟨by rw [Hr.out];rfl,kW⟩
 go_wp2_with fail
 refine (bq _ _ _ _).mono ?_
 rintro e w' ⟨rfl,hw'⟩
 have hw2:=hw'.symm
 subst hw2
 cases c2:aH s.az 1 4
 ·have Hr:Hid (aY s=false):=by show _=_;unfold aY jE;rw [c1,c2];rfl
  go_wp2
  go_ret
  exact ⟨by rw [Hr.out];rfl,kW⟩
 obtain ⟨p1,p2⟩:=dq.1 c2
 go_wp2_with fail
 refine (hS.out.gF.fP rfl (aa.refl _)).mono ?_
 rintro e w3 ⟨rfl,k3⟩
 cases c3:dz s.tasks
 ·have Hr:Hid (aY s=false):=by show _=_;unfold aY jE;rw [c1,c2,c3];rfl
  go_wp2
  go_ret
  exact ⟨by rw [Hr.out];rfl,kW.trans k3⟩
 go_wp2_with fail
 refine (I9 (hS.out.keeps k3)).mono ?_
 rintro e w4 ⟨rfl,k4⟩
 have K4:=k3.trans k4
 clear k3 k4
 cases c4:gQ s
 ·have Hr:Hid (aY s=false):=by show _=_;unfold aY jE;rw [c1,c2,c3,c4];rfl
  go_wp2
  go_ret
  exact ⟨by rw [Hr.out];rfl,kW.trans K4⟩
 go_wp2_with fail
 refine (Ja (hS.out.keeps K4) ⟨p1,p2⟩).mono ?_
 rintro e w5 ⟨rfl,k5⟩
 have K5:=K4.trans k5
 clear K4 k5
 cases c5:iX s
 ·have Hr:Hid (aY s=false):=by show _=_;unfold aY jE;rw [c1,c2,c3,c4,c5];rfl
  go_wp2
  go_ret
  exact ⟨by rw [Hr.out];rfl,kW.trans K5⟩
 have jz:Hid (s.ax.length=v.f.n):=hS.out.lay.fl
 have Hrl:Hid (s.trace.length=v.r.n):=hS.out.lay.rl
 cases d6:((v.f.n:Int) != s.az)
 rotate_left
 ·have c6:((s.ax.length:Int)==s.az)=false:=by rw [jz.out];simpa [bne] using d6
  have Hr:Hid (aY s=false):=by show _=_;unfold aY jE;rw [c1,c2,c3,c4,c5,c6];rfl
  go_wp2
  go_ret
  exact ⟨by rw [Hr.out];rfl,kW.trans K5⟩
 have H6:Hid (((s.ax.length:Int)==s.az)=true):=by show _=_;rw [jz.out];simpa [bne] using d6
 go_wp2_with fail
 refine (bq _ _ _ _).mono ?_
 rintro e w' ⟨rfl,hw'⟩
 have hw2:=hw'.symm
 subst hw2
 cases c7:aH s.seq 0 1000000
 ·have Hr:Hid (aY s=false):=by show _=_;unfold aY jE;rw [c1,c2,c3,c4,c5,H6.out,c7];rfl
  go_wp2
  go_ret
  exact ⟨by rw [Hr.out];rfl,kW.trans K5⟩
 go_wp2_with fail
 refine (bq _ _ _ _).mono ?_
 rintro e w' ⟨rfl,hw'⟩
 have hw2:=hw'.symm
 subst hw2
 cases c8:aH s.missed 0 100000
 ·have Hr:Hid (aY s=false):=by show _=_;unfold aY jE;rw [c1,c2,c3,c4,c5,H6.out,c7,c8];rfl
  go_wp2
  go_ret
  exact ⟨by rw [Hr.out];rfl,kW.trans K5⟩
 cases d9:decide ((400:Int) < (v.r.n:Int))
 rotate_left
 ·have c9:decide (s.trace.length <= 400)=false:=by rw [Hrl.out];simp only [decide_eq_true_eq] at d9;simp only [decide_eq_false_iff_not];omega
  have Hr:Hid (aY s=false):=by show _=_;unfold aY jE;rw [c1,c2,c3,c4,c5,H6.out,c7,c8,c9];rfl
  go_wp2
  go_ret
  exact ⟨by rw [Hr.out];rfl,kW.trans K5⟩
 have HE:Hid (aY s=(s.tasks.all (fun t=>decide (t.cpu < s.az))&&(List.range s.az.toNat).all (fA s))):=by
  have c9:decide (s.trace.length <= 400)=true:=by rw [Hrl.out];simp only [decide_eq_false_iff_not] at d9;simp only [decide_eq_true_eq];omega
  show _=_
  unfold aY jE
  rw [c1,c2,c3,c4,c5,H6.out,c7,c8,c9];rfl
 clear c1 c2 c3 c4 c5 c7 c8
 go_wp2_with fail
 go_loopw [3] (fun i wr=>∃ k:Nat,k <= v.t.n /\ i = .int .i64 k /\ Hid ((s.tasks.take k).all (fun t=>decide (t.cpu < s.az))=true) /\ aa W wr) (fun i _=>v.t.n - (intOf i).toNat)
 case atStart=>exact ⟨0,Nat.zero_le _,rfl,by show _=_;simp,K5⟩
 case round =>
  obtain ⟨k,hk,rfl,HA,hK⟩:=hrel
  clear K5
  by_cases hlt:k < v.t.n
  ·obtain ⟨t,ht⟩:=cd (xs:=s.tasks) (k:=k) (by rw [hS.out.lay.tl];exact hlt)
   obtain ⟨b,off,ha,r0,r1⟩:=hS.out.lay.t.at ht (by omega)
   have hlt':(k:Int) < (v.t.n:Int):=by omega
   have rc:∀ w',aa W w'->w'.cell? ⟨b,off+k*14+2,none⟩=some (.int .i64 t.cpu):=fun w' h=>r1 w' h 2 (by omega)
   have cw:Hid ((s.tasks.take (k+1)).all (fun t=>decide (t.cpu < s.az))=decide (t.cpu < s.az)):=by
    show _=_
    rw [jd ht,List.all_append,HA.out]
    simp
   have Hno:Hid (decide (t.cpu < s.az)=false->aY s=false):=fun e=>by
    rw [HE.out,List.all_eq_false.2 ⟨t,List.mem_of_getElem? ht,by rw [e];simp⟩]
    rfl
   clear ht r0 r1 HA
   cases c:decide (s.az <= t.cpu)
   rotate_left
   ·have Hr:Hid (aY s=false):=Hno.out (by simp only [decide_eq_true_eq] at c;simp;omega)
    go_wp2_with fail
    refine wp_region_held_drew (S:=(fun w'=>aa W w')) (by kernel_rfl) ?_ (fun hHeld => ?_)
    ·exact hK.drew
    refine ad.go [0,1,2,3,4,5,6,7,8] ?_
    iterate 9 (refine aM (h := ?_);try simp only [au])
    refine ad.nil ?_
    refine wpAnyH_done (by kernel_rfl) ?_ _
    go_wp2
    go_ret
    exact ⟨by rw [Hr.out];rfl,kW.trans hK.drew⟩
   ·have HG:Hid ((s.tasks.take (k+1)).all (fun t=>decide (t.cpu < s.az))=true):=by show _=_;rw [cw.out];simp only [decide_eq_false_iff_not] at c;simp;omega
    go_wp2_with fail
    refine wp_region_held_drew (S:=(fun w'=>aa W w')) (by kernel_rfl) ?_ (fun hHeld => ?_)
    ·exact hK.drew
    refine ad.go [0,1,2,3,4,5,6,7,8] ?_
    iterate 9 (refine aM (h := ?_);try simp only [au])
    refine ad.nil ?_
    refine wpAnyH_done (by kernel_rfl) ?_ _
    go_wp2
    exact ⟨⟨k+1,by omega,by go_num,HG,hK.drew⟩,by simp only [intOf];omega⟩
  ·have hlt':decide ((k:Int) < (v.t.n:Int))=false:=by simp;omega
   have HE2:Hid (aY s=(List.range s.az.toNat).all (fA s)):=by
    have h1:=HA.out
    rw [List.take_of_length_le (by have:=hS.out.lay.tl;omega)] at h1
    show _=_
    rw [HE.out,h1];rfl
   clear HA HE
   have An:Hid ((v.f.n:Int)=s.az):=by show _=_;simpa [bne] using d6
   obtain ⟨b,off,ha,RF⟩:∃ b off,v.f.a=some ⟨b,off,none⟩ /\ Hid (∀ (j:Nat) (x:Int),s.ax[j]?=some x->∀ w',aa W w'->w'.cell? ⟨b,off+j,none⟩=some (.int .i64 x)):=by
    obtain ⟨x0,h0⟩:=cd (xs:=s.ax) (k:=0) (by rw [jz.out];have:=An.out;omega)
    obtain ⟨b,off,ha,-⟩:=hS.out.lay.f.at h0
    refine ⟨b,off,ha,fun j x hx w' h => ?_⟩
    obtain ⟨b',off',ha',r⟩:=hS.out.lay.f.at hx
    rw [ha] at ha'
    simp only [Option.some.injEq,Addr.mk.injEq] at ha'
    obtain ⟨rfl,rfl,-⟩:=ha'
    exact r w' h
   go_wp2_with fail
   generalize wr=V at *
   try rw [ha]
   go_loopw [4] (fun i wr=>∃ j:Nat,(j:Int) <= s.az /\ i = .int .i64 j /\ Hid ((List.range j).all (fA s)=true) /\ aa W wr) (fun i _=>s.az.toNat - (intOf i).toNat)
   case atStart=>exact ⟨0,by omega,rfl,by show _=_;simp,hK⟩
   case round =>
    obtain ⟨j,hj,rfl,HB,hK2⟩:=hrel
    clear hK
    by_cases hjt:(j:Int) < s.az
    rotate_left
    ·have Hr:Hid (aY s=true):=by
      have e:s.az.toNat=j:=by omega
      show _=_
      rw [HE2.out,e,HB.out]
     have jo:decide ((j:Int) < s.az)=false:=by simp;omega
     go_wp2
     go_ret
     exact ⟨by rw [Hr.out];rfl,kW.trans hK2⟩
    have Jb:j < v.f.n:=by have:=An.out;omega
    have Jc:(j:Int) < (v.f.n:Int):=by omega
    obtain ⟨x,hx⟩:=cd (xs:=s.ax) (k:=j) (by rw [jz.out];exact Jb)
    have rx:∀ w',aa W w'->w'.cell? ⟨b,off+j,none⟩=some (.int .i64 x):=RF.out j x hx
    have cw:Hid ((List.range (j+1)).all (fA s)=(aH x 0 100000000&&ji (dH s j))):=by
     show _=_
     rw [List.range_succ,List.all_append,HB.out]
     simp only [List.all_cons,List.all_nil,Bool.and_true,Bool.true_and]
     unfold fA
     rw [lE hx]
    have Hno:Hid ((aH x 0 100000000&&ji (dH s j))=false->aY s=false):=fun e=>by
     rw [HE2.out]
     refine List.all_eq_false.2 ⟨j,List.mem_range.2 (by omega),?_⟩
     unfold fA
     rw [lE hx,e];simp
    clear hx HB
    go_wp2_with fail
    refine (bq _ _ _ _).mono ?_
    rintro e w' ⟨rfl,hw'⟩
    have hw2:=hw'.symm
    subst hw2
    cases c1:aH x 0 100000000
    ·have Hr:Hid (aY s=false):=Hno.out (by rw [c1];rfl)
     go_wp2
     go_ret
     exact ⟨by rw [Hr.out];rfl,kW.trans hK2⟩
    have HS:Hid (aA wr v s):=hS.out.keeps hK2
    have SH:Hid (Calls Tryz.prog 32 #[.agg (ae s v),.int .i64 (j:Int)] wr fun e w'=>∃ u,e = .returned u /\ dQ w' wr.heap.size u (dH s j) /\ aa wr w'):=sQ HS.out (j:Int)
    unfold ae at SH
    rw [ha] at SH
    go_wp2_with fail
    refine SH.out.mono ?_
    rintro e w6 ⟨u,rfl,OU,k6⟩
    have HU:Hid (dQ w6 wr.heap.size u (dH s j)):=OU
    have K6:aa W w6:=hK2.trans k6
    clear OU SH k6
    go_wp2_with fail
    refine (sS HU.out).mono ?_
    rintro e w7 ⟨rfl,k7⟩
    have K7:aa W w7:=K6.trans k7
    clear k7 K6
    cases c2:ji (dH s j)
    ·have Hr:Hid (aY s=false):=Hno.out (by rw [c1,c2];rfl)
     go_wp2
     go_ret
     exact ⟨by rw [Hr.out];rfl,kW.trans K7⟩
    ·have HG:Hid ((List.range (j+1)).all (fA s)=true):=by show _=_;rw [cw.out,c1,c2];rfl
     go_wp2
     exact ⟨⟨j+1,by omega,by go_num,HG,K7⟩,by simp only [intOf];omega⟩
end Go.Proofs.YteagpjlgjfaclaaGreatDoor
