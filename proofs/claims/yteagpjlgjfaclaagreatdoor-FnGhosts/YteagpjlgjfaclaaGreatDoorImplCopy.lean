/-
  The program's locks: copies of them, and what may be passed
  The program's copy of a system.
-/
import Derived.Test.YteagpjlgjfaclaaGreatDoorImplLockA
import Derived.Test.YteagpjlgjfaclaaGreatDoorCur
import Derived.Test.YteagpjlgjfaclaaGreatDoorLockAsk
import Derived.Deep.Cut
import Derived.Test.YteagpjlgjfaclaaGreatDoorSysCopy
namespace Go.Proofs.YteagpjlgjfaclaaGreatDoor
set_option maxRecDepth 100000
open Go.RowKit
attribute [local go_sem] aa.refl aa.alloc aa.drew aa.drewN
theorem ET (a:Option Addr) (cap n:Nat) (i:Int) (w:World) (hl:n <= maxLen) :
  Calls Tryz.prog 186 #[.slice a n cap,.int .i64 i] w fun e w'=>e = .returned (.bool (aH i 0 ((n:Int) - 1))) /\ w'=w:=by
 unfold maxLen at hl
 have l8:IntKind.i64.wrap ((n:Int) - 1)=(n:Int) - 1:=Go.IntWalk.i64_in _ (by omega)
 obtain ⟨q,Hq⟩:∃ q,Hid (aH i 0 ((n:Int) - 1)=q):=⟨_,rfl⟩
 rw [Hq.out]
 go_enter Tryz.func186,Tryz.ntmps186
 go_wp2_with (go_at_call 105;refine (eW _ _ _ _).mono ?_;rintro e w' ⟨rfl,hw'⟩;have hw2:=hw'.symm;subst hw2;rw [Hq.out])
 go_ret
 exact ⟨rfl,rfl⟩
set_option maxHeartbeats 1000000 in
theorem x3 (a:Option Addr) (cap:Nat) (xs:List Int) (w:World) (hl:xs.length <= 2097152) (hs:Ns w a xs) :
  Calls Tryz.prog 128 #[.slice a xs.length cap] w fun e w'=>e = .returned (.slice (some ⟨w.heap.size,0,none⟩) xs.length xs.length) /\ aS w' w.heap.size (.slice (some ⟨w.heap.size,0,none⟩) xs.length xs.length) xs /\ aa w w':=by
 generalize hn:xs.length=n at hl
 have Hn:Hid (xs.length=n):=hn
 clear hn
 obtain ⟨C,hC,hmk⟩:=rG (P:=Tryz.prog) 27 3 (.int .i64 0) 1 8 Tryz.underlying27 (by kernel_rfl) n (by omega) (by omega)
 have hr0:=Row.new w C 3
 have hs0:=hs.lies.keeps ((aa.refl w).alloc (.cells C 3))
 have HC:Hid (C.size=n*1):=hC
 clear hC
 go_enter Tryz.func128,Tryz.ntmps128
 go_upto_region 2 with fail
 have kW:=dw w (.cells C 3)
 clear hmk hs
 generalize w.alloc (.cells C 3)=W at *
 have hrun:∀ ty,(Builtin.copy_ #[27,27] ty #[.slice (some ⟨w.heap.size,0,none⟩) n n,.slice a n cap]).run Tryz.prog W = .ok (goInt n) (W.setRow w.heap.size (bQ C 0 (aV ic xs))):=fun ty=>by
  have:=qX (P:=Tryz.prog) ic 1 fq (by decide) kV W 27 27 ty 3 (some ⟨w.heap.size,0,none⟩) a n n n cap C 3 w.heap.size 0 xs Tryz.underlying27 (by kernel_rfl) hr0 (by rw [Hn.out];simp) (fun _=>rfl) hs0 (by rw [Hn.out,HC.out];omega)
  rwa [Hn.out] at this
 have R1:Hid (Row (W.setRow w.heap.size (bQ C 0 (aV ic xs))) w.heap.size 3 (aV ic xs).toArray):=by
  have e:=pT (L:=aV ic xs) (C:=C) (by rw [fG fq,Hn.out,HC.out])
  have:=hr0.setRow (bQ C 0 (aV ic xs))
  show Row _ _ _ _
  rw [<- e];exact this
 have K1:Hid (aa w (W.setRow w.heap.size (bQ C 0 (aV ic xs)))):=kW.setRow (Nat.le_refl _) _
 clear hr0 hs0 kW
 generalize W.setRow w.heap.size (bQ C 0 (aV ic xs))=X at *
 go_wp2
 go_ret
 refine ⟨rfl,?_,K1.out⟩
 have:=R1.out.own (sz:=1) fq (base:=w.heap.size) (Nat.le_refl _) (by rw [Hn.out];unfold maxLen;omega)
 rwa [Hn.out] at this
set_option maxHeartbeats 4000000 in
theorem EV (a:Option Addr) (cap:Nat) (ls:List Lk) (w:World) (hl:bR ls <= 2097152) (hs:dL true w a ls) :
  Calls Tryz.prog 126 #[.slice a ls.length cap] w fun e w'=>∃ b vs,e = .returned (.slice (some ⟨b,0,none⟩) ls.length ls.length) /\ Mine w' w.heap.size w'.heap.size (.slice (some ⟨b,0,none⟩) ls.length ls.length) vs ls /\ aa w w':=by
 have hl0:ls.length <= 2097152:=by unfold bR at hl;omega
 have HL:Hid (bR ls <= 2097152):=hl
 clear hl
 generalize hn:ls.length=n at hl0
 have Hn:Hid (ls.length=n):=hn
 clear hn
 have hmk:=qR (P:=Tryz.prog) 25 37 (.agg #[.int .i64 0,.slice none 0 0]) 2 32 Tryz.underlying25 (by kernel_rfl) n (by omega) (by omega)
 simp only [Value.cells] at hmk
 have M0:Hid (Mine (w.alloc (.cells (madeCells #[.int .i64 0,.slice none 0 0] (n*2)) 37)) w.heap.size (w.heap.size+1) (.slice (some ⟨w.heap.size,0,none⟩) n n) (List.replicate n Lv.zero) (List.replicate n ⟨0,[]⟩)):=Mine.zero w n (by unfold maxLen;omega)
 go_enter Tryz.func126,Tryz.ntmps126
 go_wp2
 go_loopw [11] (fun i wr=>∃ (k:Nat) (vs:List Lv) (P:List Lk),k <= n /\ i = .int .i64 k /\ aa w wr /\ Hid (Mine wr w.heap.size wr.heap.size (.slice (some ⟨w.heap.size,0,none⟩) n n) vs P) /\ Hid (P.length=n) /\ Hid (∀ (j:Nat) (l:Lk),j < k->ls[j]?=some l->P[j]?=some l)) (fun i _=>n - (intOf i).toNat)
 case atStart=>exact ⟨0,_,_,Nat.zero_le _,rfl,(aa.refl _).alloc _,M0.out.widen (Nat.le_refl _) (by simp),by show _=_;simp,fun j _ hj=>by omega⟩
 case round =>
  obtain ⟨k,vs,P,hk,rfl,hK,M,hP,hf⟩:=hrel
  clear hmk M0
  by_cases hlt:k < n
  ·obtain ⟨l,hl1⟩:=cd (xs:=ls) (k:=k) (by rw [Hn.out];exact hlt)
   obtain ⟨b,off,a',cap',rfl,r0,r1,hle,hns⟩:=hs.at hl1
   have hlt':(k:Int) < (n:Int):=by omega
   have Hl:Hid (ls[k]?=some l):=hl1
   have N1:Hid (Ns w a' l.waits):=hns
   have hw:Hid (l.waits.length <= 2097152):=by show _ <= _;have:=lh hl1;have:=HL.out;unfold bR at this;omega
   clear hs hl1 hns hle
   have hvl:Hid (k < vs.length):=by show _ < _;rw [M.out.len,hP.out];exact hlt
   obtain ⟨x,hx⟩:=cd hvl.out
   have Hx:Hid (vs[k]?=some x):=hx
   have x4:vs.length=n:=M.out.len.trans hP.out
   have O0:=M.out.own
   rw [<- x4] at O0
   have s0:Hid (∀ w',aa wr w'->w'.cell? ⟨w.heap.size,k*2,none⟩=some (.int .i64 x.o)):=aa.has (O0.cellAt gz (k:=0) hx (by omega))
   have s1:Hid (∀ w',aa wr w'->w'.cell? ⟨w.heap.size,k*2+1,none⟩=some x.row):=aa.has (O0.cellAt gz (k:=1) hx (by omega))
   have bl:Hid (w.heap.size < wr.heap.size):=(O0.cr _ rfl).2
   have s2:Hid (∀ w',aa wr w'->∀ o,w'.frozen? ⟨w.heap.size,o,none⟩=false):=fun w' h o=>(h.aO _ _ bl.out).trans (O0.frozenAt o)
   clear O0 hx x4
   obtain ⟨m,Hm⟩:∃ m,Hid (l.waits.length=m):=⟨_,rfl⟩
   rw [Hm.out] at r1
   go_wp2_with fail
   have kX:Hid (aa wr (wr.alloc (.cells #[.int .i64 l.owner,.slice a' m cap'] 37))):=(aa.refl wr).alloc _
   have B0:Hid (aq (wr.alloc (.cells #[.int .i64 l.owner,.slice a' m cap'] 37)) wr.heap.size #[.int .i64 l.owner,.slice a' m cap']):=aq.new _ _ _
   generalize wr.alloc (.cells #[.int .i64 l.owner,.slice a' m cap'] 37)=X at *
   have H0:Hid (Has w wr.heap.size #[.int .i64 l.owner,.slice a' m cap'] X):=⟨hK.trans kX.out,B0.out⟩
   have q0:∀ w',Has w wr.heap.size #[.int .i64 l.owner,.slice a' m cap'] w'->w'.cell? ⟨wr.heap.size,0,none⟩=some (.int .i64 l.owner):=fun w' h=>h.box.cells 0
   have q1:∀ w',Has w wr.heap.size #[.int .i64 l.owner,.slice a' m cap'] w'->w'.cell? ⟨wr.heap.size,1,none⟩=some (.slice a' m cap'):=fun w' h=>h.box.cells 1
   have C1:Hid (∀ w',aa w w'->Calls Tryz.prog 128 #[.slice a' m cap'] w' fun e w''=>∃ b',e = .returned (.slice (some ⟨b',0,none⟩) m m) /\ aS w'' w'.heap.size (.slice (some ⟨b',0,none⟩) m m) l.waits /\ aa w' w''):=fun w' h=>by
    have:=x3 a' cap' l.waits w' hw.out (N1.out.keeps h)
    rw [Hm.out] at this
    exact this.mono fun e w'' h=>⟨_,h.1,h.2.1,h.2.2⟩
   have hbx:wr.heap.size≠w.heap.size:=by have:=bl.out;omega
   clear r0 r1
   refine wp_region_held_drew (S:=(fun w'=>Has w wr.heap.size #[.int .i64 l.owner,.slice a' m cap'] w')) (by kernel_rfl) ?_ (fun hHeld => ?_)
   ·exact H0.out.go (aa.refl _).drew
   refine ad.go [0,1,2,3,4,5] ?_
   iterate 6 (refine aM (h := ?_);try simp only [au])
   refine ad.nil ?_
   refine aR 6 (h:=fun K hK => ?_)
   go_simp
   first
    | (go_at_call 128;refine (C1.out _ H0.out.keeps.drew).mono ?_;rintro e w6 ⟨b',rfl,o6,k6⟩;have O6:Hid (aS w6 X.heap.size (.slice (some ⟨b',0,none⟩) m m) l.waits):=o6;have K6:Hid (aa X w6):=(aa.refl X).drew.trans k6;clear o6)
   try go_wp2_with fail
   refine hK.out _ _ ?_ fun hHeld => ?_
   ·first | exact Has.go (by assumption) (by assumption) | assumption
   clear hK K
   try simp only [au]
   refine ad.go [7,8] ?_
   iterate 2 (refine aM (h := ?_);try simp only [au])
   refine ad.nil ?_
   refine aR 9 (h:=fun K hK => ?_)
   have z0:=s0.out w6 (kX.out.trans K6.out);have z1:=s1.out w6 (kX.out.trans K6.out);have z2:=s2.out w6 (kX.out.trans K6.out)
   go_simp
   try go_wp2_with fail
   refine hK.out _ _ ?_ fun hHeld => ?_
   ·exact Has.put (by assumption) (r:=w.heap.size) (Nat.le_refl _) (by omega) (k*2) [.int .i64 l.owner,.slice (some ⟨b',0,none⟩) m m]
   clear hK K
   try simp only [au]
   refine wpAnyH_done (by kernel_rfl) ?_ _
   go_wp2
   have M1:=M.out.keeps (kX.out.trans K6.out)
   have hb':=O6.out.cr b' rfl
   have sz:=kX.out.size
   have hne:b'≠w.heap.size:=by have:=bl.out;omega
   refine ⟨⟨k+1,vs.set k ⟨l.owner,some ⟨b',0,none⟩,m,m⟩,P.set k l,by omega,by go_num,((hK.trans (kX.out.trans K6.out)).setCell (p:=⟨w.heap.size,k*2,none⟩) (Nat.le_refl _) _).setCell (p:=⟨w.heap.size,k*2+1,none⟩) (Nat.le_refl _) _,?_,by show _=_;simpa using hP.out,?_⟩,by simp only [intOf];omega⟩
   ·refine M1.swap (x:=x) (y:=⟨l.owner,some ⟨b',0,none⟩,m,m⟩) (l:=l) Hx.out (M1.own.iI Hx.out ⟨l.owner,some ⟨b',0,none⟩,m,m⟩) (fun b2 h1 h2 h3 => ?_) rfl ?_ (by have:=K6.out.size;simp;omega) (fun b2 e => ?_)
    ·have:b2≠w.heap.size:=fun e=>h1 (by rw [e];rfl)
     rw [gA this,gA this]
    ·refine Own.base (Own.same O6.out fun b2 e => ?_) (by have:=bl.out;omega)
     have e2:b2=b':=by simpa [Value.ownBlock] using e.symm
     rw [gA (by omega),gA (by omega)]
    ·have e2:b2=b':=by simpa [Value.ownBlock] using e.symm
     subst e2
     exact .inl ⟨by omega,by simpa using hb'.2⟩
   ·intro j m2 hj hm2
    by_cases e:j=k
    ·subst e
     rw [Hl.out] at hm2
     cases hm2
     exact List.getElem?_set_self (by rw [hP.out];exact hlt)
    ·rw [List.getElem?_set_ne (Ne.symm e)]
     exact hf.out j m2 (by omega) hm2
  ·have e:k=n:=by omega
   subst e
   have e2:Hid (P=ls):=by
    show _=_
    apply List.ext_getElem?
    intro j
    rcases Nat.lt_or_ge j k with hj | hj
    ·obtain ⟨m,hm⟩:=cd (xs:=ls) (k:=j) (by rw [Hn.out];exact hj)
     rw [hm];exact hf.out j m hj hm
    ·rw [List.getElem?_eq_none (by rw [hP.out];exact hj),List.getElem?_eq_none (by rw [Hn.out];exact hj)]
   go_wp2
   go_ret
   exact ⟨w.heap.size,vs,rfl,by have:=M.out;rw [e2.out] at this;exact this,hK⟩
set_option maxHeartbeats 1000000 in
theorem EX (a:Option Addr) (cap n:Nat) (rs:List ar) (w:World) (hn:rs.length=n) (hl:n <= 1048576) (hs:cm 14 tc w a rs) :
  Calls Tryz.prog 125 #[.slice a n cap] w fun e w'=>e = .returned (.slice (some ⟨w.heap.size,0,none⟩) n n) /\ Own 43 14 tc w' w.heap.size (.slice (some ⟨w.heap.size,0,none⟩) n n) rs /\ aa w w':=by
 have Hn:Hid (rs.length=n):=hn
 clear hn
 obtain ⟨C,hC,hmk⟩:=rG (P:=Tryz.prog) 24 43 (tk ar.zero) 14 112 Tryz.underlying24 (by kernel_rfl) n (by omega) (by omega)
 have hr0:=Row.new w C 43
 have hs0:=hs.keeps ((aa.refl w).alloc (.cells C 43))
 have HC:Hid (C.size=n*14):=hC
 clear hC
 go_enter Tryz.func125,Tryz.ntmps125
 go_upto_region 2 with fail
 have kW:=dw w (.cells C 43)
 clear hmk hs
 generalize w.alloc (.cells C 43)=W at *
 have hrun:∀ ty,(Builtin.copy_ #[24,24] ty #[.slice (some ⟨w.heap.size,0,none⟩) n n,.slice a n cap]).run Tryz.prog W = .ok (goInt n) (W.setRow w.heap.size (bQ C 0 (aV tc rs))):=fun ty=>by
  have:=qX (P:=Tryz.prog) tc 14 cF (by decide) gV W 24 24 ty 43 (some ⟨w.heap.size,0,none⟩) a n n n cap C 43 w.heap.size 0 rs Tryz.underlying24 (by kernel_rfl) hr0 (by rw [Hn.out];simp) (fun _=>rfl) hs0 (by rw [Hn.out,HC.out];omega)
  rwa [Hn.out] at this
 have R1:Hid (Row (W.setRow w.heap.size (bQ C 0 (aV tc rs))) w.heap.size 43 (aV tc rs).toArray):=by
  have e:=pT (L:=aV tc rs) (C:=C) (by rw [fG cF,Hn.out,HC.out])
  have:=hr0.setRow (bQ C 0 (aV tc rs))
  show Row _ _ _ _
  rw [<- e];exact this
 have K1:Hid (aa w (W.setRow w.heap.size (bQ C 0 (aV tc rs)))):=kW.setRow (Nat.le_refl _) _
 clear hr0 hs0 kW
 generalize W.setRow w.heap.size (bQ C 0 (aV tc rs))=X at *
 go_wp2
 go_ret
 refine ⟨rfl,?_,K1.out⟩
 have:=R1.out.own (sz:=14) cF (base:=w.heap.size) (Nat.le_refl _) (by rw [Hn.out];unfold maxLen;omega)
 rwa [Hn.out] at this
set_option maxHeartbeats 1000000 in
theorem EY (a:Option Addr) (cap n:Nat) (rs:List Gh) (w:World) (hn:rs.length=n) (hl:n <= 1048576) (hs:cm 4 cP w a rs) :
  Calls Tryz.prog 127 #[.slice a n cap] w fun e w'=>e = .returned (.slice (some ⟨w.heap.size,0,none⟩) n n) /\ Own 87 4 cP w' w.heap.size (.slice (some ⟨w.heap.size,0,none⟩) n n) rs /\ aa w w':=by
 have Hn:Hid (rs.length=n):=hn
 clear hn
 obtain ⟨C,hC,hmk⟩:=rG (P:=Tryz.prog) 26 87 (.agg (cP Gh.zero)) 4 32 Tryz.underlying26 (by kernel_rfl) n (by omega) (by omega)
 have hr0:=Row.new w C 87
 have hs0:=hs.keeps ((aa.refl w).alloc (.cells C 87))
 have HC:Hid (C.size=n*4):=hC
 clear hC
 go_enter Tryz.func127,Tryz.ntmps127
 go_upto_region 2 with fail
 have kW:=dw w (.cells C 87)
 clear hmk hs
 generalize w.alloc (.cells C 87)=W at *
 have hrun:∀ ty,(Builtin.copy_ #[26,26] ty #[.slice (some ⟨w.heap.size,0,none⟩) n n,.slice a n cap]).run Tryz.prog W = .ok (goInt n) (W.setRow w.heap.size (bQ C 0 (aV cP rs))):=fun ty=>by
  have:=qX (P:=Tryz.prog) cP 4 ia (by decide) nR W 26 26 ty 87 (some ⟨w.heap.size,0,none⟩) a n n n cap C 87 w.heap.size 0 rs Tryz.underlying26 (by kernel_rfl) hr0 (by rw [Hn.out];simp) (fun _=>rfl) hs0 (by rw [Hn.out,HC.out];omega)
  rwa [Hn.out] at this
 have R1:Hid (Row (W.setRow w.heap.size (bQ C 0 (aV cP rs))) w.heap.size 87 (aV cP rs).toArray):=by
  have e:=pT (L:=aV cP rs) (C:=C) (by rw [fG ia,Hn.out,HC.out])
  have:=hr0.setRow (bQ C 0 (aV cP rs))
  show Row _ _ _ _
  rw [<- e];exact this
 have K1:Hid (aa w (W.setRow w.heap.size (bQ C 0 (aV cP rs)))):=kW.setRow (Nat.le_refl _) _
 clear hr0 hs0 kW
 generalize W.setRow w.heap.size (bQ C 0 (aV cP rs))=X at *
 go_wp2
 go_ret
 refine ⟨rfl,?_,K1.out⟩
 have:=R1.out.own (sz:=4) ia (base:=w.heap.size) (Nat.le_refl _) (by rw [Hn.out];unfold maxLen;omega)
 rwa [Hn.out] at this
set_option maxHeartbeats 1000000 in
theorem EZ (a:Option Addr) (cap n:Nat) (rs:List Tn) (w:World) (hn:rs.length=n) (hl:n <= 1048576) (hs:cm 3 dX w a rs) :
  Calls Tryz.prog 129 #[.slice a n cap] w fun e w'=>e = .returned (.slice (some ⟨w.heap.size,0,none⟩) n n) /\ Own 104 3 dX w' w.heap.size (.slice (some ⟨w.heap.size,0,none⟩) n n) rs /\ aa w w':=by
 have Hn:Hid (rs.length=n):=hn
 clear hn
 obtain ⟨C,hC,hmk⟩:=rG (P:=Tryz.prog) 28 104 (.agg (dX Tn.zero)) 3 24 Tryz.underlying28 (by kernel_rfl) n (by omega) (by omega)
 have hr0:=Row.new w C 104
 have hs0:=hs.keeps ((aa.refl w).alloc (.cells C 104))
 have HC:Hid (C.size=n*3):=hC
 clear hC
 go_enter Tryz.func129,Tryz.ntmps129
 go_upto_region 2 with fail
 have kW:=dw w (.cells C 104)
 clear hmk hs
 generalize w.alloc (.cells C 104)=W at *
 have hrun:∀ ty,(Builtin.copy_ #[28,28] ty #[.slice (some ⟨w.heap.size,0,none⟩) n n,.slice a n cap]).run Tryz.prog W = .ok (goInt n) (W.setRow w.heap.size (bQ C 0 (aV dX rs))):=fun ty=>by
  have:=qX (P:=Tryz.prog) dX 3 iv (by decide) nT W 28 28 ty 104 (some ⟨w.heap.size,0,none⟩) a n n n cap C 104 w.heap.size 0 rs Tryz.underlying28 (by kernel_rfl) hr0 (by rw [Hn.out];simp) (fun _=>rfl) hs0 (by rw [Hn.out,HC.out];omega)
  rwa [Hn.out] at this
 have R1:Hid (Row (W.setRow w.heap.size (bQ C 0 (aV dX rs))) w.heap.size 104 (aV dX rs).toArray):=by
  have e:=pT (L:=aV dX rs) (C:=C) (by rw [fG iv,Hn.out,HC.out])
  have:=hr0.setRow (bQ C 0 (aV dX rs))
  show Row _ _ _ _
  rw [<- e];exact this
 have K1:Hid (aa w (W.setRow w.heap.size (bQ C 0 (aV dX rs)))):=kW.setRow (Nat.le_refl _) _
 clear hr0 hs0 kW
 generalize W.setRow w.heap.size (bQ C 0 (aV dX rs))=X at *
 go_wp2
 go_ret
 refine ⟨rfl,?_,K1.out⟩
 have:=R1.out.own (sz:=3) iv (base:=w.heap.size) (Nat.le_refl _) (by rw [Hn.out];unfold maxLen;omega)
 rwa [Hn.out] at this
def E5 (s:Sy) (w:World) (e:Ending) (w':World):Prop:=∃ v vs,e = .returned (.agg (ae s v)) /\ ay w' w.heap.size v vs s /\ aa w w' /\ ∃ tb,v.t.a=some ⟨tb,0,none⟩
abbrev dZ:Array Value:=#[.int .i64 0,.int .i64 0,.slice none 0 0,.slice none 0 0,.slice none 0 0,.slice none 0 0,.int .i64 0,.int .i64 0,.slice none 0 0]
set_option maxHeartbeats 8000000 in
theorem xZ (v:Sv) (s:Sy) (w:World) (h:aA w v s) (hsz:bE s <= 1048576) :
  Calls Tryz.prog 77 #[.agg (ae s v)] w (E5 s w):=by
 obtain ⟨⟨ta,tn,ag⟩,⟨la,ln,ah⟩,⟨ga,gn,ai⟩,⟨fa,fn,aj⟩,⟨ra,rn,ao⟩⟩:=v
 have kZ:aa w ((w.alloc (.cells (ae s ⟨⟨ta,tn,ag⟩,⟨la,ln,ah⟩,⟨ga,gn,ai⟩,⟨fa,fn,aj⟩,⟨ra,rn,ao⟩⟩) 30)).alloc (.cells dZ 30)):=((aa.refl w).alloc _).alloc _
 have B0:Hid (aq ((w.alloc (.cells (ae s ⟨⟨ta,tn,ag⟩,⟨la,ln,ah⟩,⟨ga,gn,ai⟩,⟨fa,fn,aj⟩,⟨ra,rn,ao⟩⟩) 30)).alloc (.cells dZ 30)) w.heap.size (ae s ⟨⟨ta,tn,ag⟩,⟨la,ln,ah⟩,⟨ga,gn,ai⟩,⟨fa,fn,aj⟩,⟨ra,rn,ao⟩⟩)):=(aq.new _ _ _).alloc _
 have R0:Hid (aq ((w.alloc (.cells (ae s ⟨⟨ta,tn,ag⟩,⟨la,ln,ah⟩,⟨ga,gn,ai⟩,⟨fa,fn,aj⟩,⟨ra,rn,ao⟩⟩) 30)).alloc (.cells dZ 30)) (w.heap.size+1) dZ):=by
  have:=aq.new (w.alloc (.cells (ae s ⟨⟨ta,tn,ag⟩,⟨la,ln,ah⟩,⟨ga,gn,ai⟩,⟨fa,fn,aj⟩,⟨ra,rn,ao⟩⟩) 30)) dZ 30
  show aq _ _ _
  simpa using this
 have HS:Hid (aA ((w.alloc (.cells (ae s ⟨⟨ta,tn,ag⟩,⟨la,ln,ah⟩,⟨ga,gn,ai⟩,⟨fa,fn,aj⟩,⟨ra,rn,ao⟩⟩) 30)).alloc (.cells dZ 30)) ⟨⟨ta,tn,ag⟩,⟨la,ln,ah⟩,⟨ga,gn,ai⟩,⟨fa,fn,aj⟩,⟨ra,rn,ao⟩⟩ s):=h.keeps kZ
 have hzs:((w.alloc (.cells (ae s ⟨⟨ta,tn,ag⟩,⟨la,ln,ah⟩,⟨ga,gn,ai⟩,⟨fa,fn,aj⟩,⟨ra,rn,ao⟩⟩) 30)).alloc (.cells dZ 30)).heap.size=w.heap.size+2:=by simp
 have HL:=h.lay
 obtain ⟨tl,-,-,ll,-,-,gl,-,-,fl,-,-,rl,-,-⟩:=HL
 dsimp only at tl ll gl fl rl
 have q0:Hid (s.tasks.length=tn /\ s.ak.length=ln /\ s.af.length=gn /\ s.ax.length=fn /\ s.trace.length=rn):=⟨tl,ll,gl,fl,rl⟩
 have q1:tn <= 1048576 /\ gn <= 1048576 /\ fn <= 1048576 /\ rn <= 1048576:=by unfold bE at hsz;omega
 have q2:Hid (bR s.ak <= 2097152):=by show _ <= _;unfold bE at hsz;omega
 have H0:Hid (aA w ⟨⟨ta,tn,ag⟩,⟨la,ln,ah⟩,⟨ga,gn,ai⟩,⟨fa,fn,aj⟩,⟨ra,rn,ao⟩⟩ s):=h
 clear h tl ll gl fl rl
 go_enter Tryz.func77,Tryz.ntmps77
 go_upto_region 1 with fail
 change Code.wp _ _ _ _ ((w.alloc (.cells (ae s ⟨⟨ta,tn,ag⟩,⟨la,ln,ah⟩,⟨ga,gn,ai⟩,⟨fa,fn,aj⟩,⟨ra,rn,ao⟩⟩) 30)).alloc (.cells dZ 30))
 generalize ((w.alloc (.cells (ae s ⟨⟨ta,tn,ag⟩,⟨la,ln,ah⟩,⟨ga,gn,ai⟩,⟨fa,fn,aj⟩,⟨ra,rn,ao⟩⟩) 30)).alloc (.cells dZ 30))=Z at *
 have cT:=fun w' (k:aa Z w')=>EX ta ag tn s.tasks w' q0.out.1 q1.1 (HS.out.keeps k).lay.t
 have cL:=fun w' (k:aa Z w')=>EV la ah s.ak w' q2.out (HS.out.keeps k).lay.l
 rw [q0.out.2.1] at cL
 have cG:=fun w' (k:aa Z w')=>EY ga ai gn s.af w' q0.out.2.2.1 q1.2.1 (HS.out.keeps k).lay.g
 have e0:∀ w',aa Z w'->∀ q,w'.cell? ⟨w.heap.size,q,none⟩=(ae s ⟨⟨ta,tn,ag⟩,⟨la,ln,ah⟩,⟨ga,gn,ai⟩,⟨fa,fn,aj⟩,⟨ra,rn,ao⟩⟩)[q]?:=fun w' k=>(B0.out.keeps k).cells
 dsimp only [ae] at e0
 refine tf 10 (S:=(fun w'=>aa Z w')) (by kernel_rfl) ?_ (fun hHeld => ?_)
 ·exact (aa.refl Z).drew
 refine ad.go [0,1,3,4,6,7] ?_
 iterate 6 (refine j4 (h := ?_);try simp only [au])
 refine ad.nil ?_
 refine mW (i:=2) (h:=fun K hK => ?_)
 go_simp
 first
  | (go_at_call 125;refine (cT _ (by assumption)).mono ?_;rintro e w2 ⟨rfl,o2,k2⟩;clear cT)
  | (go_at_call 126;refine (cL _ (by assumption)).mono ?_;rintro e w4 ⟨b2,vs,rfl,o4,k4⟩;clear cL)
  | (go_at_call 127;refine (cG _ (by assumption)).mono ?_;rintro e w6 ⟨rfl,o6,k6⟩;clear cG)
 try go_wp2_with fail
 refine hK.out _ _ ?_ fun hHeld => ?_
 ·exact aa.trans (by assumption) (by assumption)
 clear hK K
 try simp only [au]
 refine ad.go [9] ?_
 iterate 1 (refine j4 (h := ?_);try simp only [au])
 refine ad.nil ?_
 refine mW (i:=5) (h:=fun K hK => ?_)
 go_simp
 first
  | (go_at_call 125;refine (cT _ (by assumption)).mono ?_;rintro e w2 ⟨rfl,o2,k2⟩;clear cT)
  | (go_at_call 126;refine (cL _ (by assumption)).mono ?_;rintro e w4 ⟨b2,vs,rfl,o4,k4⟩;clear cL)
  | (go_at_call 127;refine (cG _ (by assumption)).mono ?_;rintro e w6 ⟨rfl,o6,k6⟩;clear cG)
 try go_wp2_with fail
 refine hK.out _ _ ?_ fun hHeld => ?_
 ·exact aa.trans (by assumption) (by assumption)
 clear hK K
 try simp only [au]
 refine mW (i:=8) (h:=fun K hK => ?_)
 go_simp
 first
  | (go_at_call 125;refine (cT _ (by assumption)).mono ?_;rintro e w2 ⟨rfl,o2,k2⟩;clear cT)
  | (go_at_call 126;refine (cL _ (by assumption)).mono ?_;rintro e w4 ⟨b2,vs,rfl,o4,k4⟩;clear cL)
  | (go_at_call 127;refine (cG _ (by assumption)).mono ?_;rintro e w6 ⟨rfl,o6,k6⟩;clear cG)
 try go_wp2_with fail
 refine hK.out _ _ ?_ fun hHeld => ?_
 ·exact aa.trans (by assumption) (by assumption)
 clear hK K
 try simp only [au]
 refine j5 (i:=10) (h:=fun K hK => ?_)
 have K6:aa Z w6:=(by assumption);have B6:Hid (aq w6 w.heap.size (ae s ⟨⟨ta,tn,ag⟩,⟨la,ln,ah⟩,⟨ga,gn,ai⟩,⟨fa,fn,aj⟩,⟨ra,rn,ao⟩⟩)):=B0.out.keeps K6;obtain ⟨_,z1,z2⟩:=B6.out;clear e0
 go_simp
 try go_wp2_with fail
 refine hK.out _ _ ?_
 clear hK K
 try simp only [au]
 refine j5 (i:=11) (h:=fun K hK => ?_)
 go_simp
 try go_wp2_with fail
 refine hK.out _ _ ?_
 clear hK K
 try simp only [au]
 refine j5 (i:=12) (h:=fun K hK => ?_)
 go_simp
 try go_wp2_with fail
 refine hK.out _ _ ?_
 clear hK K
 try simp only [au]
 refine j5 (i:=13) (h:=fun K hK => ?_)
 go_simp
 try go_wp2_with fail
 refine hK.out _ _ ?_
 clear hK K
 try simp only [au]
 refine j5 (i:=14) (h:=fun K hK => ?_)
 go_simp
 try go_wp2_with fail
 refine hK.out _ _ ?_
 clear hK K
 try simp only [au]
 refine td (by kernel_rfl) ?_
 have hzd:Z.drew.heap.size=w.heap.size+2:=hzs
 rw [hzd] at o2
 have e1:w.heap.size+2 <= w2.heap.size:=by have:=k2.size;omega
 have e2:=k4.size
 have e3:=k6.size
 have r1:=(o2.cr _ rfl).2
 have KB:ab w.heap.size w6 (((w6.setCell ⟨w.heap.size,2,none⟩ (.slice (some ⟨w.heap.size+2,0,none⟩) tn tn)).setCell ⟨w.heap.size,3,none⟩ (.slice (some ⟨b2,0,none⟩) ln ln)).setCell ⟨w.heap.size,4,none⟩ (.slice (some ⟨w4.heap.size,0,none⟩) gn gn)):=(((ab.refl _ w6).setCell 2 _).setCell 3 _).setCell 4 _
 have O1:Hid (Own 43 14 tc (((w6.setCell ⟨w.heap.size,2,none⟩ (.slice (some ⟨w.heap.size+2,0,none⟩) tn tn)).setCell ⟨w.heap.size,3,none⟩ (.slice (some ⟨b2,0,none⟩) ln ln)).setCell ⟨w.heap.size,4,none⟩ (.slice (some ⟨w4.heap.size,0,none⟩) gn gn)) (w.heap.size+2) (.slice (some ⟨w.heap.size+2,0,none⟩) tn tn) s.tasks):=((o2.keeps k4).keeps k6).cy KB (by omega)
 have O2:Hid (Mine (((w6.setCell ⟨w.heap.size,2,none⟩ (.slice (some ⟨w.heap.size+2,0,none⟩) tn tn)).setCell ⟨w.heap.size,3,none⟩ (.slice (some ⟨b2,0,none⟩) ln ln)).setCell ⟨w.heap.size,4,none⟩ (.slice (some ⟨w4.heap.size,0,none⟩) gn gn)) w2.heap.size w4.heap.size (.slice (some ⟨b2,0,none⟩) ln ln) vs s.ak):=(o4.keeps k6).same fun q hq hq1 hq2=>KB.block q hq2 (by omega)
 have O3:Hid (Own 87 4 cP (((w6.setCell ⟨w.heap.size,2,none⟩ (.slice (some ⟨w.heap.size+2,0,none⟩) tn tn)).setCell ⟨w.heap.size,3,none⟩ (.slice (some ⟨b2,0,none⟩) ln ln)).setCell ⟨w.heap.size,4,none⟩ (.slice (some ⟨w4.heap.size,0,none⟩) gn gn)) w4.heap.size (.slice (some ⟨w4.heap.size,0,none⟩) gn gn) s.af):=o6.cy KB (by omega)
 have BY:Hid (aq (((w6.setCell ⟨w.heap.size,2,none⟩ (.slice (some ⟨w.heap.size+2,0,none⟩) tn tn)).setCell ⟨w.heap.size,3,none⟩ (.slice (some ⟨b2,0,none⟩) ln ln)).setCell ⟨w.heap.size,4,none⟩ (.slice (some ⟨w4.heap.size,0,none⟩) gn gn)) w.heap.size (ae s ⟨⟨some ⟨w.heap.size+2,0,none⟩,tn,tn⟩,⟨some ⟨b2,0,none⟩,ln,ln⟩,⟨some ⟨w4.heap.size,0,none⟩,gn,gn⟩,⟨fa,fn,aj⟩,⟨ra,rn,ao⟩⟩)):=(((B6.out.set 2 (by simp) _).set 3 (by simp) _).set 4 (by simp) _)
 have RY:Hid (aq (((w6.setCell ⟨w.heap.size,2,none⟩ (.slice (some ⟨w.heap.size+2,0,none⟩) tn tn)).setCell ⟨w.heap.size,3,none⟩ (.slice (some ⟨b2,0,none⟩) ln ln)).setCell ⟨w.heap.size,4,none⟩ (.slice (some ⟨w4.heap.size,0,none⟩) gn gn)) (w.heap.size+1) dZ):=(R0.out.keeps K6).aside KB (by omega)
 have KY:Hid (aa w (((w6.setCell ⟨w.heap.size,2,none⟩ (.slice (some ⟨w.heap.size+2,0,none⟩) tn tn)).setCell ⟨w.heap.size,3,none⟩ (.slice (some ⟨b2,0,none⟩) ln ln)).setCell ⟨w.heap.size,4,none⟩ (.slice (some ⟨w4.heap.size,0,none⟩) gn gn))):=KB.keeps (kZ.trans K6) (Nat.le_refl _)
 have E6:(((w6.setCell ⟨w.heap.size,2,none⟩ (.slice (some ⟨w.heap.size+2,0,none⟩) tn tn)).setCell ⟨w.heap.size,3,none⟩ (.slice (some ⟨b2,0,none⟩) ln ln)).setCell ⟨w.heap.size,4,none⟩ (.slice (some ⟨w4.heap.size,0,none⟩) gn gn)).heap.size=w6.heap.size:=by simp
 change Exit.then _ _ _ _ (((w6.setCell ⟨w.heap.size,2,none⟩ (.slice (some ⟨w.heap.size+2,0,none⟩) tn tn)).setCell ⟨w.heap.size,3,none⟩ (.slice (some ⟨b2,0,none⟩) ln ln)).setCell ⟨w.heap.size,4,none⟩ (.slice (some ⟨w4.heap.size,0,none⟩) gn gn))
 clear z1 z2 B6 R0 KB o2 o4 o6 k2 k4 K6 hHeld hzd HS
 generalize (((w6.setCell ⟨w.heap.size,2,none⟩ (.slice (some ⟨w.heap.size+2,0,none⟩) tn tn)).setCell ⟨w.heap.size,3,none⟩ (.slice (some ⟨b2,0,none⟩) ln ln)).setCell ⟨w.heap.size,4,none⟩ (.slice (some ⟨w4.heap.size,0,none⟩) gn gn))=Y at *
 go_upto_region 2 with fail
 have cN:=fun w' (k:aa Y w')=>x3 fa aj s.ax w' (by rw [q0.out.2.2.2.1];omega) (H0.out.keeps (KY.out.trans k)).lay.f
 rw [q0.out.2.2.2.1] at cN
 have cR:=fun w' (k:aa Y w')=>EZ ra ao rn s.trace w' q0.out.2.2.2.2 q1.2.2.2 (H0.out.keeps (KY.out.trans k)).lay.r
 have e0:∀ w',aa Y w'->∀ q,w'.cell? ⟨w.heap.size,q,none⟩=(ae s ⟨⟨some ⟨w.heap.size+2,0,none⟩,tn,tn⟩,⟨some ⟨b2,0,none⟩,ln,ln⟩,⟨some ⟨w4.heap.size,0,none⟩,gn,gn⟩,⟨fa,fn,aj⟩,⟨ra,rn,ao⟩⟩)[q]?:=fun w' k=>(BY.out.keeps k).cells
 dsimp only [ae] at e0
 refine tf 7 (S:=(fun w'=>aa Y w')) (by kernel_rfl) ?_ (fun hHeld => ?_)
 ·exact (aa.refl Y).drew
 refine ad.go [0,1,3,4] ?_
 iterate 4 (refine j4 (h := ?_);try simp only [au])
 refine ad.nil ?_
 refine mW (i:=2) (h:=fun K hK => ?_)
 go_simp
 first
  | (go_at_call 128;refine (cN _ (by assumption)).mono ?_;rintro e w7 ⟨rfl,o7,k7⟩;clear cN)
  | (go_at_call 129;refine (cR _ (by assumption)).mono ?_;rintro e w8 ⟨rfl,o8,k8⟩;clear cR)
 try go_wp2_with fail
 refine hK.out _ _ ?_ fun hHeld => ?_
 ·exact aa.trans (by assumption) (by assumption)
 clear hK K
 try simp only [au]
 refine ad.go [6] ?_
 iterate 1 (refine j4 (h := ?_);try simp only [au])
 refine ad.nil ?_
 refine mW (i:=5) (h:=fun K hK => ?_)
 go_simp
 first
  | (go_at_call 128;refine (cN _ (by assumption)).mono ?_;rintro e w7 ⟨rfl,o7,k7⟩;clear cN)
  | (go_at_call 129;refine (cR _ (by assumption)).mono ?_;rintro e w8 ⟨rfl,o8,k8⟩;clear cR)
 try go_wp2_with fail
 refine hK.out _ _ ?_ fun hHeld => ?_
 ·exact aa.trans (by assumption) (by assumption)
 clear hK K
 try simp only [au]
 refine j5 (i:=7) (h:=fun K hK => ?_)
 have K8:aa Y w8:=(by assumption);have B8:Hid (aq w8 w.heap.size (ae s ⟨⟨some ⟨w.heap.size+2,0,none⟩,tn,tn⟩,⟨some ⟨b2,0,none⟩,ln,ln⟩,⟨some ⟨w4.heap.size,0,none⟩,gn,gn⟩,⟨fa,fn,aj⟩,⟨ra,rn,ao⟩⟩)):=BY.out.keeps K8;obtain ⟨_,z1,z2⟩:=B8.out;clear e0
 go_simp
 try go_wp2_with fail
 refine hK.out _ _ ?_
 clear hK K
 try simp only [au]
 refine j5 (i:=8) (h:=fun K hK => ?_)
 go_simp
 try go_wp2_with fail
 refine hK.out _ _ ?_
 clear hK K
 try simp only [au]
 refine j5 (i:=9) (h:=fun K hK => ?_)
 go_simp
 try go_wp2_with fail
 refine hK.out _ _ ?_
 clear hK K
 try simp only [au]
 refine td (by kernel_rfl) ?_
 have x5:Y.drew.heap.size=w6.heap.size:=E6
 rw [x5] at o7
 have e4:w6.heap.size <= w7.heap.size:=by have:=k7.size;omega
 have e5:=k8.size
 have r2:=(o7.cr _ rfl).2
 have KB:ab w.heap.size w8 ((w8.setCell ⟨w.heap.size,5,none⟩ (.slice (some ⟨w6.heap.size,0,none⟩) fn fn)).setCell ⟨w.heap.size,8,none⟩ (.slice (some ⟨w7.heap.size,0,none⟩) rn rn)):=((ab.refl _ w8).setCell 5 _).setCell 8 _
 have KC:ab w.heap.size Y ((w8.setCell ⟨w.heap.size,5,none⟩ (.slice (some ⟨w6.heap.size,0,none⟩) fn fn)).setCell ⟨w.heap.size,8,none⟩ (.slice (some ⟨w7.heap.size,0,none⟩) rn rn)):=(ab.of K8).trans KB
 have BZ:Hid (aq ((w8.setCell ⟨w.heap.size,5,none⟩ (.slice (some ⟨w6.heap.size,0,none⟩) fn fn)).setCell ⟨w.heap.size,8,none⟩ (.slice (some ⟨w7.heap.size,0,none⟩) rn rn)) w.heap.size (ae s ⟨⟨some ⟨w.heap.size+2,0,none⟩,tn,tn⟩,⟨some ⟨b2,0,none⟩,ln,ln⟩,⟨some ⟨w4.heap.size,0,none⟩,gn,gn⟩,⟨some ⟨w6.heap.size,0,none⟩,fn,fn⟩,⟨some ⟨w7.heap.size,0,none⟩,rn,rn⟩⟩)):=((B8.out.set 5 (by simp) _).set 8 (by simp) _)
 have RZ:Hid (aq ((w8.setCell ⟨w.heap.size,5,none⟩ (.slice (some ⟨w6.heap.size,0,none⟩) fn fn)).setCell ⟨w.heap.size,8,none⟩ (.slice (some ⟨w7.heap.size,0,none⟩) rn rn)) (w.heap.size+1) dZ):=RY.out.aside KC (by omega)
 have KZ:aa w ((w8.setCell ⟨w.heap.size,5,none⟩ (.slice (some ⟨w6.heap.size,0,none⟩) fn fn)).setCell ⟨w.heap.size,8,none⟩ (.slice (some ⟨w7.heap.size,0,none⟩) rn rn)):=KC.keeps KY.out (Nat.le_refl _)
 have OS:ay ((w8.setCell ⟨w.heap.size,5,none⟩ (.slice (some ⟨w6.heap.size,0,none⟩) fn fn)).setCell ⟨w.heap.size,8,none⟩ (.slice (some ⟨w7.heap.size,0,none⟩) rn rn)) (w.heap.size+2) ⟨⟨some ⟨w.heap.size+2,0,none⟩,tn,tn⟩,⟨some ⟨b2,0,none⟩,ln,ln⟩,⟨some ⟨w4.heap.size,0,none⟩,gn,gn⟩,⟨some ⟨w6.heap.size,0,none⟩,fn,fn⟩,⟨some ⟨w7.heap.size,0,none⟩,rn,rn⟩⟩ vs s:=by
  refine ⟨O1.out.cy KC (by omega),(O2.out.same fun q hq hq1 hq2=>KC.block q hq2 (by omega)).widen (by omega) (by simp;omega),(O3.out.cy KC (by omega)).base (by omega),((o7.keeps k8).cy KB (by omega)).base (by omega),(o8.cy KB (by omega)).base (by omega),?_⟩
  refine x6 (w.heap.size+2) w2.heap.size w4.heap.size w6.heap.size w7.heap.size w8.heap.size (fun q hq => ?_) ?_ (fun q hq => ?_) (fun q hq => ?_) (fun q hq => ?_) (by omega) (by omega) (by omega)
  ·have h1:=(O1.out.cr q hq).1
   have h2:some (w.heap.size+2)=some q:=hq
   have h3:=Option.some.inj h2
   omega
  ·rintro q (hq | ⟨x,hx,hq⟩)
   ·exact ⟨(O2.out.own.cr q hq).1,O2.out.out q hq⟩
   ·obtain ⟨j,hj⟩:=List.mem_iff_getElem?.1 hx
    exact ⟨(O2.out.aG (.inr ⟨x,hx,hq⟩)).1,(O2.out.fx j x q hj hq).1⟩
  ·have:=O3.out.cr q hq
   exact ⟨this.1,by omega⟩
  ·have:=o7.cr q hq
   exact ⟨this.1,by omega⟩
  ·have:=o8.cr q hq
   exact ⟨this.1,by omega⟩
 change Exit.then _ _ _ _ ((w8.setCell ⟨w.heap.size,5,none⟩ (.slice (some ⟨w6.heap.size,0,none⟩) fn fn)).setCell ⟨w.heap.size,8,none⟩ (.slice (some ⟨w7.heap.size,0,none⟩) rn rn))
 clear z1 z2 B8 KB KC o7 o8 k7 k8 K8 hHeld O1 O2 O3 BY RY x5
 generalize ((w8.setCell ⟨w.heap.size,5,none⟩ (.slice (some ⟨w6.heap.size,0,none⟩) fn fn)).setCell ⟨w.heap.size,8,none⟩ (.slice (some ⟨w7.heap.size,0,none⟩) rn rn))=U at *
 have y1:=BZ.out.cells
 obtain ⟨_,y3,y4⟩:=RZ.out
 dsimp only [ae] at y1
 go_wp2
 have D:=RZ.out.putC (ae s ⟨⟨some ⟨w.heap.size+2,0,none⟩,tn,tn⟩,⟨some ⟨b2,0,none⟩,ln,ln⟩,⟨some ⟨w4.heap.size,0,none⟩,gn,gn⟩,⟨some ⟨w6.heap.size,0,none⟩,fn,fn⟩,⟨some ⟨w7.heap.size,0,none⟩,rn,rn⟩⟩).toList rfl
 have KD:=aa.putC (b:=w.heap.size+1) (by omega) (ae s ⟨⟨some ⟨w.heap.size+2,0,none⟩,tn,tn⟩,⟨some ⟨b2,0,none⟩,ln,ln⟩,⟨some ⟨w4.heap.size,0,none⟩,gn,gn⟩,⟨some ⟨w6.heap.size,0,none⟩,fn,fn⟩,⟨some ⟨w7.heap.size,0,none⟩,rn,rn⟩⟩).toList 0 KZ
 have OD:ay (putC U (w.heap.size+1) 0 (ae s ⟨⟨some ⟨w.heap.size+2,0,none⟩,tn,tn⟩,⟨some ⟨b2,0,none⟩,ln,ln⟩,⟨some ⟨w4.heap.size,0,none⟩,gn,gn⟩,⟨some ⟨w6.heap.size,0,none⟩,fn,fn⟩,⟨some ⟨w7.heap.size,0,none⟩,rn,rn⟩⟩).toList) w.heap.size ⟨⟨some ⟨w.heap.size+2,0,none⟩,tn,tn⟩,⟨some ⟨b2,0,none⟩,ln,ln⟩,⟨some ⟨w4.heap.size,0,none⟩,gn,gn⟩,⟨some ⟨w6.heap.size,0,none⟩,fn,fn⟩,⟨some ⟨w7.heap.size,0,none⟩,rn,rn⟩⟩ vs s:=(ay.aT (c:=w.heap.size+1) (fun i hi=>by have:=(OS.aG hi).1;omega) _ _ OS).base (by omega)
 change bodyPost _ _ _ _ _ (putC U (w.heap.size+1) 0 (ae s ⟨⟨some ⟨w.heap.size+2,0,none⟩,tn,tn⟩,⟨some ⟨b2,0,none⟩,ln,ln⟩,⟨some ⟨w4.heap.size,0,none⟩,gn,gn⟩,⟨some ⟨w6.heap.size,0,none⟩,fn,fn⟩,⟨some ⟨w7.heap.size,0,none⟩,rn,rn⟩⟩).toList)
 generalize putC U (w.heap.size+1) 0 (ae s ⟨⟨some ⟨w.heap.size+2,0,none⟩,tn,tn⟩,⟨some ⟨b2,0,none⟩,ln,ln⟩,⟨some ⟨w4.heap.size,0,none⟩,gn,gn⟩,⟨some ⟨w6.heap.size,0,none⟩,fn,fn⟩,⟨some ⟨w7.heap.size,0,none⟩,rn,rn⟩⟩).toList=Q at D KD OD ⊢
 exact bodyPost_ret (v := .agg (ae s ⟨⟨some ⟨w.heap.size+2,0,none⟩,tn,tn⟩,⟨some ⟨b2,0,none⟩,ln,ln⟩,⟨some ⟨w4.heap.size,0,none⟩,gn,gn⟩,⟨some ⟨w6.heap.size,0,none⟩,fn,fn⟩,⟨some ⟨w7.heap.size,0,none⟩,rn,rn⟩⟩)) (by simp [results,Tryz.results77,go_sem,D.cells]) rfl ⟨⟨⟨some ⟨w.heap.size+2,0,none⟩,tn,tn⟩,⟨some ⟨b2,0,none⟩,ln,ln⟩,⟨some ⟨w4.heap.size,0,none⟩,gn,gn⟩,⟨some ⟨w6.heap.size,0,none⟩,fn,fn⟩,⟨some ⟨w7.heap.size,0,none⟩,rn,rn⟩⟩,vs,rfl,OD,KD,_,rfl⟩
end Go.Proofs.YteagpjlgjfaclaaGreatDoor
