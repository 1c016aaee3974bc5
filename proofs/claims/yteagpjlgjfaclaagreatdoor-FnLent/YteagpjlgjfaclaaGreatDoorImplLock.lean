/-
  The program's locks: asking for one, freeing one; what each
  The program's SysCall of the kind 8, of a right system.
-/
import Derived.Test.YteagpjlgjfaclaaGreatDoorDraw1
import Derived.Test.YteagpjlgjfaclaaGreatDoorTaskSpec
import Derived.Test.YteagpjlgjfaclaaGreatDoorLoneLeaves
import Derived.Test.YteagpjlgjfaclaaGreatDoorImplCalled8
import Derived.Test.YteagpjlgjfaclaaGreatDoorImplSysOk
import Derived.Test.YteagpjlgjfaclaaGreatDoorDueHeap2
import Derived.Test.YteagpjlgjfaclaaGreatDoorSysNewS
namespace Go.Proofs.YteagpjlgjfaclaaGreatDoor
set_option maxRecDepth 100000
open Go.RowKit
attribute [local go_sem] aa.refl aa.alloc aa.drew aa.drewN
theorem JM {ls:List Lk} {j:Nat} {l:Lk} (hb:dm ls=true) (hl:ls[j]?=some l) (no next:Int):eD ls (j:Int) no next=l6 l no next:=by
 unfold eD l6
 have h1:aF (j:Int) 0 ((ls.length:Int) - 1)=true:=tM (by omega) (by have:=da hl;omega)
 rw [hb,h1,Int.toNat_natCast,gO hl]
 simp [jm,hl]
set_option maxHeartbeats 4000000 in
theorem JN (a:Option Addr) (cap:Nat) (ls:List Lk) (i no next:Int) (w:World) (hl:bT ls <= 2097152) (hs:dU true w a ls) :
  Calls Tryz.prog 172 #[.slice a ls.length cap,.int .i64 i,.int .i64 no,.int .i64 next] w fun e w'=>∃ v vs,e = .returned (.tuple #[v,.bool (eD ls i no next)]) /\ Mine w' w.heap.size w'.heap.size v vs (dV ls i no next) /\ aa w w':=by
 have HL:Hid (bT ls <= 2097152):=hl
 have hl0:ls.length <= 2097152:=by unfold bT at hl;omega
 clear hl
 have HS:Hid (dU true w a ls):=hs
 clear hs
 have LO:Hid (∀ w',aa w w'->Calls Tryz.prog 75 #[.slice a ls.length cap] w' fun e w''=>e = .returned (.bool (dm ls)) /\ aa w' w''):=fun w' h=>vH a cap ls w' HL.out (HS.out.keeps h)
 have CP:Hid (∀ w',aa w w'->Calls Tryz.prog 126 #[.slice a ls.length cap] w' fun e w''=>∃ b vs,e = .returned (.slice (some ⟨b,0,none⟩) ls.length ls.length) /\ Mine w'' w'.heap.size w''.heap.size (.slice (some ⟨b,0,none⟩) ls.length ls.length) vs ls /\ aa w' w''):=fun w' h=>AF a cap ls w' HL.out (HS.out.keeps h)
 have PL:Hid (∀ w',aa w w'->Calls Tryz.prog 42 #[.slice a ls.length cap] w' fun e w''=>e = .returned (.map (some w'.heap.size)) /\ aW w'' w'.heap.size (dK ls) /\ aa w' w''):=fun w' k=>sS a cap ls w' HL.out (HS.out.keeps k)
 generalize hn:ls.length=n at hl0
 have Hn:Hid (ls.length=n):=hn
 rw [hn] at LO CP PL
 clear hn
 have hn1:n <= maxLen:=by unfold maxLen;omega
 have rz:Hid (∀ w',Calls Tryz.prog 186 #[.slice a n cap,.int .i64 i] w' fun e w''=>e = .returned (.bool (aF i 0 ((n:Int) - 1))) /\ w''=w'):=fun w'=>vI a cap n i w' hn1
 clear hn1
 cases hb:dm ls
 ·have Hr:Hid (eD ls i no next=false):=by show _=_;unfold eD;rw [hb];rfl
  have Hq:Hid (dV ls i no next=[]):=by show _=_;unfold dV;rw [hb];rfl
  rw [hb] at LO
  go_enter Tryz.func172,Tryz.ntmps172
  go_wp2_with (go_at_call 75;refine (LO.out _ (aa.refl _)).mono ?_;rintro e w1 ⟨rfl,k1⟩)
  go_ret2
  refine ⟨_,[],by rw [Hr.out];rfl,?_,k1⟩
  rw [Hq.out]
  exact Mine.none _ _ _ _ (World.ownsRow_nil _ _ _ _) (fun q hq=>by simp [Value.ownBlock] at hq)
 rw [hb] at LO
 have jz:Hid (∀ (_:eD ls i no next=false),dV ls i no next=ls):=by
  intro h
  unfold dV
  rw [hb,h];rfl
 cases c1:aF i 0 ((n:Int) - 1)
 ·have Hr:Hid (eD ls i no next=false):=by show _=_;unfold eD;rw [hb,Hn.out,c1];rfl
  have Hq:Hid (dV ls i no next=ls):=jz.out Hr.out
  rw [c1] at rz
  go_enter Tryz.func172,Tryz.ntmps172
  go_wp2_with (first
   | (go_at_call 75;refine (LO.out _ (aa.refl _)).mono ?_;rintro e w1 ⟨rfl,k1⟩)
   | (go_at_call 126;refine (CP.out _ k1).mono ?_;rintro e w2 ⟨b3,vs,rfl,m2,k2⟩;have M:Hid (Mine w2 w.heap.size w2.heap.size (.slice (some ⟨b3,0,none⟩) n n) vs ls):=m2.widen k1.size (Nat.le_refl _);have K2:aa w w2:=k1.trans k2;clear m2)
   | (go_at_call 186;refine (rz.out _).mono ?_;rintro e w' ⟨rfl,hw'⟩;have hw2:=hw'.symm;subst hw2))
  go_ret2
  exact ⟨_,vs,by rw [Hr.out];rfl,by rw [Hq.out];exact M.out,K2⟩
 rw [c1] at rz
 obtain ⟨h0,h1⟩:=dq.1 c1
 obtain ⟨j,rfl⟩:∃ j:Nat,i=(j:Int):=⟨i.toNat,by omega⟩
 have hj:j < n:=by omega
 have hj':(j:Int) < (n:Int):=by omega
 obtain ⟨l,hl1⟩:=bW (xs:=ls) (k:=j) (by rw [Hn.out];exact hj)
 obtain ⟨b,off,a',cap',rfl,r0,r1,hle,hns⟩:=HS.out.at hl1
 have Hl:Hid (ls[j]?=some l):=hl1
 have N1:Hid (Ns w a' l.waits):=hns
 have lx:Hid (l.waits.length <= maxLen):=hle
 have hw1:Hid (l.waits.length <= 2097152):=by show _ <= _;have:=lM Hl.out;have:=HL.out;unfold bT at this;omega
 have HF:Hid (eD ls (j:Int) no next=l6 l no next):=JM hb hl1 no next
 clear hl1 hns hle h0 h1
 obtain ⟨m,Hm⟩:∃ m:Nat,Hid (l.waits.length=m):=⟨_,rfl⟩
 rw [Hm.out] at r1
 obtain ⟨g,Hg⟩:∃ g,Hid (l6 l no next=g):=⟨_,rfl⟩
 have CN:Hid (∀ w',aa w w'->Calls Tryz.prog 192 #[.agg #[.int .i64 l.owner,.slice a' m cap'],.int .i64 no,.int .i64 next] w' fun e w''=>e = .returned (.bool g) /\ aa w' w''):=fun w' k=>by
  have:=Jq l.owner a' cap' l.waits no next w' lx.out (N1.out.keeps k)
  rwa [Hm.out,show (⟨l.owner,l.waits⟩:Lk)=l from rfl,Hg.out] at this
 cases g
 ·have Hr:Hid (eD ls (j:Int) no next=false):=HF.out.trans Hg.out
  have Hq:Hid (dV ls (j:Int) no next=ls):=jz.out Hr.out
  go_enter Tryz.func172,Tryz.ntmps172
  go_wp2_with (first
   | (go_at_call 75;refine (LO.out _ (aa.refl _)).mono ?_;rintro e w1 ⟨rfl,k1⟩)
   | (go_at_call 126;refine (CP.out _ k1).mono ?_;rintro e w2 ⟨b3,vs,rfl,m2,k2⟩;have M:Hid (Mine w2 w.heap.size w2.heap.size (.slice (some ⟨b3,0,none⟩) n n) vs ls):=m2.widen k1.size (Nat.le_refl _);have K2:aa w w2:=k1.trans k2;clear m2)
   | (go_at_call 186;refine (rz.out _).mono ?_;rintro e w' ⟨rfl,hw'⟩;have hw2:=hw'.symm;subst hw2)
   | (go_at_call 192;refine (CN.out _ K2).mono ?_;rintro e w3 ⟨rfl,k3⟩))
  go_ret2
  exact ⟨_,vs,by rw [Hr.out];rfl,by rw [Hq.out];exact (M.out.keeps k3).widen (Nat.le_refl _) k3.size,K2.trans k3⟩
 have Hr:Hid (eD ls (j:Int) no next=true):=HF.out.trans Hg.out
 have Hq:Hid (dV ls (j:Int) no next=ls.set j ⟨next,eK l.waits next⟩):=by show _=_;unfold dV;rw [hb,Hr.out,Int.toNat_natCast,pW Hl.out (pQ next)];rfl
 have AZ:Hid (l.waits.filter (fun y=>cX (eZ (dK ls) next) y)=eK l.waits next):=EY Hl.out next
 have ST:Hid (∀ B w',aa w w'->aW w' B (eZ (dK ls) next)->Calls Tryz.prog 193 #[.map (some B),.agg #[.int .i64 l.owner,.slice a' m cap']] w' fun e w''=>∃ a4 m4 c4,e = .returned (.slice a4 m4 c4) /\ aS w'' w'.heap.size (.slice a4 m4 c4) (eK l.waits next) /\ aa w' w''):=fun B w' k mm=>by
  have:=Jr B (eZ (dK ls) next) l.owner a' cap' l.waits w' hw1.out (N1.out.keeps k) mm
  rw [Hm.out,AZ.out] at this
  refine this.mono ?_
  rintro e w'' ⟨v,rfl,o,k'⟩
  obtain ⟨a4,c4,e4,-,-,-⟩:=aS.ns o
  subst e4
  exact ⟨_,_,_,rfl,o,k'⟩
 clear HF jz AZ
 go_enter Tryz.func172,Tryz.ntmps172
 go_wp2_with (first
  | (go_at_call 75;refine (LO.out _ (aa.refl _)).mono ?_;rintro e w1 ⟨rfl,k1⟩)
  | (go_at_call 126;fail)
  | fail)
 refine (CP.out _ k1).mono ?_
 rintro e w2 ⟨b3,vs,rfl,m2,k2⟩
 have M:Hid (Mine w2 w.heap.size w2.heap.size (.slice (some ⟨b3,0,none⟩) n n) vs ls):=m2.widen k1.size (Nat.le_refl _)
 have K2:aa w w2:=k1.trans k2
 clear m2
 have jA:Hid (vs.length=n):=M.out.len.trans Hn.out
 obtain ⟨x,hx⟩:=bW (xs:=vs) (k:=j) (by rw [jA.out];exact hj)
 have Hx:Hid (vs[j]?=some x):=hx
 have O0:Own 37 2 gk w2 w.heap.size (.slice (some ⟨b3,0,none⟩) vs.length n) vs:=by rw [jA.out];exact M.out.own
 have bl:Hid (b3 < w2.heap.size):=(O0.cD b3 rfl).2
 have l8:Hid (w.heap.size <= b3):=(O0.cD b3 rfl).1
 have s0:∀ w',aa w2 w'->w'.cell? ⟨b3,j*2,none⟩=some (.int .i64 x.o):=aa.has (O0.cellAt gJ (k:=0) hx (by omega))
 have s1:∀ w',aa w2 w'->w'.cell? ⟨b3,j*2+1,none⟩=some x.row:=aa.has (O0.cellAt gJ (k:=1) hx (by omega))
 have s2:∀ w',aa w2 w'->∀ o,w'.frozen? ⟨b3,o,none⟩=false:=fun w' h o=>(h.aM _ _ bl.out).trans (O0.frozenAt o)
 clear O0 hx
 obtain ⟨xo,xa,xn,xc⟩:=x
 dsimp only at s0 s1
 go_wp2_with (first
  | (go_at_call 186;refine (rz.out _).mono ?_;rintro e w' ⟨rfl,hw'⟩;have hw2:=hw'.symm;subst hw2)
  | (go_at_call 192;refine (CN.out _ K2).mono ?_;rintro e w3 ⟨rfl,k3⟩;have K3:aa w w3:=K2.trans k3)
  | (go_at_call 42;refine (PL.out _ K3).mono ?_;rintro e w4 ⟨rfl,m4,k4⟩;have M4:Hid (aW w4 w3.heap.size (dK ls)):=m4;clear m4)
  | (at_delete;refine EF rfl _ _ 77 3 rfl 3 Tryz.underlying77 Tryz.underlying3 w3.heap.size (dK ls) rfl M4.out next rfl ?_;intro w5 m5 g5;have M5:Hid (aW w5 w3.heap.size (eZ (dK ls) next)):=m5;have k25:aa w2 w5:=(k3.trans k4).grown g5 (by rintro q ⟨⟩;exact k3.size);have K5:aa w w5:=K2.trans k25;clear m5 g5)
  | (go_at_call 193;refine (ST.out _ _ K5 M5.out).mono ?_;rintro e w6 ⟨a4,m4,c4,rfl,o6,k6⟩;have O6:Hid (aS w6 w5.heap.size (.slice a4 m4 c4) (eK l.waits next)):=o6;have k26:aa w2 w6:=k25.trans k6;have K6:aa w w6:=K5.trans k6;clear o6))
 go_ret2
 refine ⟨_,vs.set j ⟨next,a4,m4,c4⟩,by rw [Hr.out];rfl,?_,(K6.setCell (p:=⟨b3,j*2,none⟩) l8.out _).setCell (p:=⟨b3,j*2+1,none⟩) l8.out _⟩
 rw [Hq.out]
 have nz:Mine w6 w.heap.size w5.heap.size (.slice (some ⟨b3,0,none⟩) n n) vs ls:=(M.out.keeps k26).widen (Nat.le_refl _) k25.size
 have hb4:∀ q,(Value.slice a4 m4 c4).ownBlock=some q->w5.heap.size <= q /\ q < w6.heap.size:=fun q hq=>O6.out.cD q hq
 have jR:∀ q,(Value.slice a4 m4 c4).ownBlock=some q->q≠b3:=fun q hq=>by have:=(hb4 q hq).1;have:=bl.out;have:=k25.size;omega
 refine nz.swap (x:=⟨xo,xa,xn,xc⟩) (y:=⟨next,a4,m4,c4⟩) Hx.out (nz.own.ix Hx.out ⟨next,a4,m4,c4⟩) (fun q h1 h2 h3 => ?_) rfl ?_ (by have:=k6.size;simp;omega) (fun q hq => .inl ⟨(hb4 q hq).1,by have:=(hb4 q hq).2;simp;omega⟩)
 ·have:q≠b3:=fun e=>h1 (by rw [e];rfl)
  rw [gz this,gz this]
 ·refine Own.same (Own.base O6.out K5.size) fun q hq => ?_
  rw [gz (jR q hq),gz (jR q hq)]
theorem JO:rr:=fun a cap ls i no next w hl _ hs=>JN a cap ls i no next w hl hs
def A1 (s:Sy) (n:Int) (w:World) (e:Ending) (w':World):Prop:=∃ v vs,e = .returned (.tuple #[.agg (ae s v),.int .i64 n]) /\ ay w' w.heap.size v vs s /\ aa w w'
set_option linter.unusedSimpArgs false in
set_option maxHeartbeats 8000000 in
theorem JP (v:Sv) (s s':Sy) (w:World) (h:aA w v s) (hr:bf s=true) (hg:dF w) (no cpu a b:Int) (hcb:ey ⟨8,no,cpu,a,b⟩=true) {er:Nat->Addr} (E:dZ w er) (n:Nat) (hn:n <= 6)
  (H:∀ W,dZ W er->aA W v s->Calls Tryz.prog 36 #[.agg (ae s v),ck ⟨8,no,cpu,a,b⟩] W (vK s s' er n W)) :
  Calls Tryz.prog 11 #[.agg (ae s v),ck ⟨8,no,cpu,a,b⟩] w (A1 (if n=0 then s' else s) (n:Int) w):=by
 obtain ⟨s2,rA⟩:∃ x,Hid ((if n=0 then s' else s)=x):=⟨_,rfl⟩
 rw [rA.out]
 have kZ:aa w (((w.alloc (.cells (ae s v) 30)).alloc (.cells (cc ⟨8,no,cpu,a,b⟩) 32)).alloc (.cells eE 30)):=(((aa.refl w).alloc _).alloc _).alloc _
 have B1:Hid (ai (((w.alloc (.cells (ae s v) 30)).alloc (.cells (cc ⟨8,no,cpu,a,b⟩) 32)).alloc (.cells eE 30)) w.heap.size (ae s v)):=((ai.new _ _ _).alloc _).alloc _
 have B2:Hid (ai (((w.alloc (.cells (ae s v) 30)).alloc (.cells (cc ⟨8,no,cpu,a,b⟩) 32)).alloc (.cells eE 30)) (w.heap.size+1) (cc ⟨8,no,cpu,a,b⟩)):=by
  have:=(ai.new (w.alloc (.cells (ae s v) 30)) (cc ⟨8,no,cpu,a,b⟩) 32).alloc (.cells eE 30)
  show ai _ _ _
  simpa using this
 have B3:Hid (ai (((w.alloc (.cells (ae s v) 30)).alloc (.cells (cc ⟨8,no,cpu,a,b⟩) 32)).alloc (.cells eE 30)) (w.heap.size+1+1) eE):=by
  have:=ai.new ((w.alloc (.cells (ae s v) 30)).alloc (.cells (cc ⟨8,no,cpu,a,b⟩) 32)) eE 30
  show ai _ _ _
  simpa using this
 have HS:Hid (aA (((w.alloc (.cells (ae s v) 30)).alloc (.cells (cc ⟨8,no,cpu,a,b⟩) 32)).alloc (.cells eE 30)) v s):=h.keeps kZ
 have HE:Hid (dZ (((w.alloc (.cells (ae s v) 30)).alloc (.cells (cc ⟨8,no,cpu,a,b⟩) 32)).alloc (.cells eE 30)) er):=E.keeps kZ
 have HG:Hid (dF (((w.alloc (.cells (ae s v) 30)).alloc (.cells (cc ⟨8,no,cpu,a,b⟩) 32)).alloc (.cells eE 30))):=hg.keeps kZ
 have HH:Hid (∀ W,dZ W er->aA W v s->Calls Tryz.prog 36 #[.agg (ae s v),ck ⟨8,no,cpu,a,b⟩] W (vK s s' er n W)):=H
 have hws:w.heap.size+1+1 < (((w.alloc (.cells (ae s v) 30)).alloc (.cells (cc ⟨8,no,cpu,a,b⟩) 32)).alloc (.cells eE 30)).heap.size:=by simp
 clear h hg E H
 go_enter Tryz.func11,Tryz.ntmps11
 go_upto_region 1 with fail
 change Code.wp _ _ _ _ (((w.alloc (.cells (ae s v) 30)).alloc (.cells (cc ⟨8,no,cpu,a,b⟩) 32)).alloc (.cells eE 30))
 generalize (((w.alloc (.cells (ae s v) 30)).alloc (.cells (cc ⟨8,no,cpu,a,b⟩) 32)).alloc (.cells eE 30))=Z at *
 obtain ⟨cb,rD⟩:∃ x,w.heap.size+1=x:=⟨_,rfl⟩
 rw [rD] at B2 B3 hws ⊢
 obtain ⟨rb,hrb⟩:∃ x,cb+1=x:=⟨_,rfl⟩
 rw [hrb] at B3 hws ⊢
 have i1:w.heap.size < cb:=by omega
 have i2:cb < rb:=by omega
 have i4:rb < Z.heap.size:=hws
 clear rD hrb hws
 have e1:∀ w',aa Z w'->∀ q,w'.cell? ⟨w.heap.size,q,none⟩=(ae s v)[q]?:=fun w' k=>(B1.out.keeps k).cells
 have e2:∀ w',aa Z w'->∀ q,w'.cell? ⟨cb,q,none⟩=(cc ⟨8,no,cpu,a,b⟩)[q]?:=fun w' k=>(B2.out.keeps k).cells
 dsimp only [ae] at e1
 have cK:=fun w'=>H8 ⟨8,no,cpu,a,b⟩ w'
 rw [hcb] at cK
 go_upto_region 3 with first
  | (go_at_call 8;refine (A2 _ v s HG.out HS.out).mono ?_;rintro e w1 ⟨rfl,k1⟩;rw [hr])
  | (go_at_call 35;refine (cK _).mono ?_;rintro e w2 ⟨rfl,k2⟩)
 have K2:aa Z w2:=k1.trans k2
 have f1:∀ w',aa w2 w'->∀ q,w'.cell? ⟨w.heap.size,q,none⟩=(ae s v)[q]?:=fun w' k=>(B1.out.keeps (K2.trans k)).cells
 have f2:∀ w',aa w2 w'->∀ q,w'.cell? ⟨cb,q,none⟩=(cc ⟨8,no,cpu,a,b⟩)[q]?:=fun w' k=>(B2.out.keeps (K2.trans k)).cells
 dsimp only [ae] at f1
 clear e1 e2 cK k1 k2
 have cM:=HH.out w2 (HE.out.keeps K2) (HS.out.keeps K2)
 go_upto_region 4 with (go_at_call 36;refine cM.mono ?_;rintro e w3 ⟨v3,vs3,rfl,o3,k3⟩)
 rw [rA.out] at o3 ⊢
 have kN:aa Z (w3.alloc (.cells (ae s2 v3) 30)):=(K2.trans k3).alloc _
 have N0:Hid (ai (w3.alloc (.cells (ae s2 v3) 30)) w3.heap.size (ae s2 v3)):=ai.new _ _ _
 have O0:Hid (ay (w3.alloc (.cells (ae s2 v3) 30)) w2.heap.size v3 vs3 s2):=o3.keeps ((aa.refl w3).alloc _)
 have R0:Hid (ai (w3.alloc (.cells (ae s2 v3) 30)) rb eE):=B3.out.keeps kN
 have KN:Hid (aa w (w3.alloc (.cells (ae s2 v3) 30))):=kZ.trans kN
 have EN:Hid (dZ (w3.alloc (.cells (ae s2 v3) 30)) er):=HE.out.keeps kN
 have hz2:rb < w2.heap.size:=Nat.lt_of_lt_of_le i4 K2.size
 have hnb:rb < w3.heap.size:=Nat.lt_of_lt_of_le hz2 k3.size
 change Code.wp _ _ _ _ (w3.alloc (.cells (ae s2 v3) 30))
 clear cM f1 f2 k3 K2 o3 B1 B2 B3 HS HE HG HH kZ kN
 generalize (w3.alloc (.cells (ae s2 v3) 30))=X at *
 generalize w3.heap.size=nb at *
 have e0:∀ w',ai w' nb (ae s2 v3)->∀ q,w'.cell? ⟨nb,q,none⟩=(ae s2 v3)[q]?:=fun w' hh=>hh.cells
 dsimp only [ae] at e0
 refine wp_region_held_drew (S:=(fun w'=>ai w' nb (ae s2 v3))) (by kernel_rfl) ?_ (fun hHeld => ?_)
 ·exact N0.out.keeps (aa.refl X).drew
 refine ad.go [0,1] ?_
 iterate 2 (refine aJ (h := ?_);try simp only [ar])
 refine ad.nil ?_
 refine aO 2 (h:=fun K hK => ?_)
 go_simp
 (go_at_call 37;refine (IT (EN.out.keeps (aa.refl X).drew) n hn).mono ?_;rintro e w5 ⟨rfl,A7⟩;have yS:=A7;subst yS;clear A7)
 try go_wp2_with fail
 refine hK.out _ _ ?_ fun hHeld => ?_
 ·exact N0.out.keeps (aa.refl X).drew
 clear hK K
 try simp only [ar]
 refine aO 3 (h:=fun K hK => ?_)
 obtain ⟨_,r1,r2⟩:=R0.out;have hne1:nb≠rb:=(by omega);have hne2:rb≠nb:=(by omega)
 go_simp
 try go_wp2_with fail
 refine hK.out _ _ ?_ fun hHeld => ?_
 ·exact (ai.aU (c:=rb) (by omega) (ae s2 v3).toList 0 N0.out).keeps (aa.refl _).drew
 clear hK K
 try simp only [ar]
 refine cU 4 (h := ?_)
 try simp only [ar]
 refine wpAnyH_done (by kernel_rfl) ?_ _
 have D:Hid (ai (putC X rb 0 (ae s2 v3).toList).drew rb (ae s2 v3)):=(R0.out.putC (ae s2 v3).toList rfl).keeps (aa.refl _).drew
 have KQ:Hid (aa w (putC X rb 0 (ae s2 v3).toList).drew):=(aa.putC (b:=rb) (by omega) _ 0 KN.out).drew
 have OQ:Hid (ay (putC X rb 0 (ae s2 v3).toList).drew w.heap.size v3 vs3 s2):=((ay.aU (c:=rb) (fun i hi=>by have:=(O0.out.aG hi).1;omega) _ _ O0.out).keeps (aa.refl _).drew).base (by omega)
 change Exit.then _ _ _ _ (putC X rb 0 (ae s2 v3).toList).drew
 clear e0 r1 r2 hHeld N0 O0 R0 KN EN
 generalize (putC X rb 0 (ae s2 v3).toList).drew=Q at *
 go_wp2
 have y1:=D.out.cells
 exact bodyPost_ret (v := .tuple #[.agg (ae s2 v3),.int .i64 (n:Int)]) (by simp [results,Tryz.results11,go_sem,y1]) rfl ⟨v3,vs3,rfl,OQ.out,KQ.out⟩
end Go.Proofs.YteagpjlgjfaclaaGreatDoor
