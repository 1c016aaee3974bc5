/-
  Drawn systems: a new system, what is asked of it, and what
  Drawn systems: one in which something may be amiss.
-/
import Derived.Test.YteagpjlgjfaclaaGreatDoorCallDraw1
import Derived.Test.YteagpjlgjfaclaaGreatDoorCallSys
import Derived.Test.YteagpjlgjfaclaaGreatDoorImplEnd
import Derived.Test.YteagpjlgjfaclaaGreatDoorSysNewS
import Derived.Test.YteagpjlgjfaclaaGreatDoorSysSet
import Derived.Deep.Cut
import Derived.Test.YteagpjlgjfaclaaGreatDoorLockCopy
import Derived.Test.YteagpjlgjfaclaaGreatDoorLaidErrs
import Derived.Test.YteagpjlgjfaclaaGreatDoorCallMove
import Derived.Test.YteagpjlgjfaclaaGreatDoorFairList
import Derived.Deep.CutBlock
namespace Go.Proofs.YteagpjlgjfaclaaGreatDoor
set_option maxRecDepth 100000
open Go.RowKit
theorem By (c:Cl):∀ u∈(cc c).toList,u.oneCell'=true:=by
 intro u hu
 simp at hu
 rcases hu with rfl | rfl | rfl | rfl | rfl <;> rfl
structure DV (w wr:World) (g lb sb ob:Nat) (v0:Sv) (bX:List Lv) (s0:Sy) (v:Sv) (vs:List Lv) (s:Sy) (u:Value) (cs:List Cl):Prop where
 cur:bf wr g
 kb:ab g w wr
 gl:g < w.heap.size
 r1:aq wr w.heap.size zc
 r2:aq wr (w.heap.size+1) zc
 st:ay wr (w.heap.size+2) v0 bX s0
 nO:aq wr sb (ae s0 v0)
 own:ay wr (w.heap.size+2) v vs s
 box:aq wr ob (ae s v)
 row:Own 32 5 cc wr lb u cs
 nP:∀ i b,aX v0 bX i b->b < sb
 ord:w.heap.size+2 <= sb /\ sb < ob /\ ob < lb
 far:∀ i,¬ aX v vs i ob
 ap:∀ i b,aX v vs i b->u.ownBlock≠some b
 qK:lb <= wr.heap.size
section
variable {w wr:World} {g lb sb ob:Nat} {v0:Sv} {bX:List Lv} {s0:Sy} {v:Sv} {vs:List Lv} {s:Sy} {u:Value} {cs:List Cl}
theorem DV.but (h:DV w wr g lb sb ob v0 bX s0 v vs s u cs) {wr':World} (hc:bf wr' g) (k:ab g wr wr'):DV w wr' g lb sb ob v0 bX s0 v vs s u cs:=by
 have hg:=h.gl
 have ho:=h.ord
 exact ⟨hc,h.kb.trans k,hg,h.r1.but k (by omega),h.r2.but k (by omega),h.st.cy k (by omega),h.nO.but k (by omega),h.own.cy k (by omega),h.box.but k (by omega),h.row.cy k (by omega),h.nP,ho,h.far,h.ap,Nat.le_trans h.qK k.size⟩
theorem DV.keeps (h:DV w wr g lb sb ob v0 bX s0 v vs s u cs) {wr':World} (k:aa wr wr'):DV w wr' g lb sb ob v0 bX s0 v vs s u cs:=h.but (h.cur.keeps k) (.of k)
theorem DV.push (h:DV w wr g lb sb ob v0 bX s0 v vs s u cs) {w2:World} {u':Value} {cs':List Cl} (O:Own 32 5 cc w2 lb u' cs') (G:wr.grownBy w2 u.ownBlock) (f:∀ q,u'.ownBlock=some q->u.ownBlock=some q∨q=wr.heap.size):DV w w2 g lb sb ob v0 bX s0 v vs s u' cs':=by
 have hg:=h.gl
 have ho:=h.ord
 have hb:∀ q,u.ownBlock=some q->lb <= q:=fun q hq=>(h.row.cr q hq).1
 refine ⟨h.cur.grown G (fun k hk=>by have:=hb k hk;omega),h.kb.grown G (fun k hk=>by have:=hb k hk;omega),hg,h.r1.grown G (fun q e e2=>by have:=hb q e;omega),h.r2.grown G (fun q e e2=>by have:=hb q e;omega),?_,h.nO.grown G (fun q e e2=>by have:=hb q e;omega),?_,h.box.grown G (fun q e e2=>by have:=hb q e;omega),O,h.nP,ho,h.far,?_,Nat.le_trans h.qK G.size⟩
 ·exact h.st.aside G.size fun i b hi=>G.block b (h.st.aG hi).2 (fun e=>by have:=hb b e.symm;have:=h.nP i b hi;omega)
 ·exact h.own.aside G.size fun i b hi=>G.block b (h.own.aG hi).2 (fun e=>h.ap i b hi e.symm)
 ·intro i b hi e
  rcases f b e with h1 | h1
  ·exact h.ap i b hi h1
  ·have:=(h.own.aG hi).2
   omega
theorem DV.call (h:DV w wr g lb sb ob v0 bX s0 v vs s u cs) {w1:World} (k:aa wr w1) {v':Sv} {vs':List Lv} {s':Sy} (O:ay w1 wr.heap.size v' vs' s'):DV w (putC w1 ob 0 (ae s' v').toList) g lb sb ob v0 bX s0 v' vs' s' u cs:=by
 have hg:=h.gl
 have ho:=h.ord
 have h1:=h.keeps k
 have hl:=h.box.lt
 have far:∀ i,¬ aX v' vs' i ob:=fun i hi=>by have:=(O.aG hi).1;omega
 have hsz:=h.kb.size
 have hsb:=h.nO.lt
 refine ⟨bf.putC (by omega) _ 0 h1.cur,ab.ir (by omega) _ 0 h1.kb,hg,aq.aT (by omega) _ _ h1.r1,aq.aT (by omega) _ _ h1.r2,ay.aT (fun i hi=>by have:=h.nP i ob hi;omega) _ _ h1.st,aq.aT (by omega) _ _ h1.nO,ay.aT far _ _ (O.base (by omega)),h1.box.putC _ rfl,Own.gG (by omega) _ _ h1.row,h.nP,ho,far,?_,Nat.le_trans h1.qK (aB.putC (P:=fun _=>True) trivial _ 0 (aB.refl _ w1)).size⟩
 intro i b hi e
 have h3:=(O.aG hi).1
 have h4:=(h.row.cr b e).2
 omega
structure jc (sb ob:Nat) (A B:Array Value) (w':World):Prop where
 one:aq w' sb A
 two:aq w' ob B
theorem DV.told (h:DV w wr g lb sb ob v0 bX s0 v vs s u cs) :
  jc sb ob (ae s0 v0) (ae s v) (putC wr w.heap.size 0 (ae s0 v0).toList) /\ aq (putC wr w.heap.size 0 (ae s0 v0).toList) (w.heap.size+1) zc /\
  jc sb ob (ae s0 v0) (ae s v) (putC (putC wr w.heap.size 0 (ae s0 v0).toList) (w.heap.size+1) 0 (ae s v).toList) /\
  aq (putC (putC wr w.heap.size 0 (ae s0 v0).toList) (w.heap.size+1) 0 (ae s v).toList) w.heap.size (ae s0 v0) /\ aq (putC (putC wr w.heap.size 0 (ae s0 v0).toList) (w.heap.size+1) 0 (ae s v).toList) (w.heap.size+1) (ae s v) /\
  ay (putC (putC wr w.heap.size 0 (ae s0 v0).toList) (w.heap.size+1) 0 (ae s v).toList) w.heap.size v0 bX s0 /\ ay (putC (putC wr w.heap.size 0 (ae s0 v0).toList) (w.heap.size+1) 0 (ae s v).toList) w.heap.size v vs s /\
  Own 32 5 cc (putC (putC wr w.heap.size 0 (ae s0 v0).toList) (w.heap.size+1) 0 (ae s v).toList) lb u cs /\ bf (putC (putC wr w.heap.size 0 (ae s0 v0).toList) (w.heap.size+1) 0 (ae s v).toList) g /\ ab g w (putC (putC wr w.heap.size 0 (ae s0 v0).toList) (w.heap.size+1) 0 (ae s v).toList):=by
 have ho:=h.ord
 have hg:=h.gl
 have f0:∀ c,c < w.heap.size+2->∀ i,¬ aX v0 bX i c:=fun c hc i hi=>by have:=(h.st.aG hi).1;omega
 have f1:∀ c,c < w.heap.size+2->∀ i,¬ aX v vs i c:=fun c hc i hi=>by have:=(h.own.aG hi).1;omega
 have P1:jc sb ob (ae s0 v0) (ae s v) (putC wr w.heap.size 0 (ae s0 v0).toList):=⟨aq.aT (by omega) _ _ h.nO,aq.aT (by omega) _ _ h.box⟩
 have B1:aq (putC wr w.heap.size 0 (ae s0 v0).toList) (w.heap.size+1) zc:=aq.aT (by omega) _ _ h.r2
 refine ⟨P1,B1,⟨aq.aT (by omega) _ _ P1.one,aq.aT (by omega) _ _ P1.two⟩,aq.aT (by omega) _ _ (h.r1.putC _ rfl),B1.putC _ rfl,(ay.aT (f0 _ (by omega)) _ _ (ay.aT (f0 _ (by omega)) _ _ h.st)).base (by omega),(ay.aT (f1 _ (by omega)) _ _ (ay.aT (f1 _ (by omega)) _ _ h.own)).base (by omega),Own.gG (by omega) _ _ (Own.gG (by omega) _ _ h.row),bf.putC (by omega) _ 0 (bf.putC (by omega) _ 0 h.cur),ab.ir (by omega) _ 0 (ab.ir (by omega) _ 0 h.kb)⟩
end
def Bz (g:Nat) (w:World) (most:Int) (e:Ending) (w':World):Prop:=∃ (n:Int) (cs:List Cl) (v0:Sv) (bX:List Lv) (v:Sv) (vs:List Lv) (a:Option Addr) (cap lb:Nat),
 e = .returned (.tuple #[.agg (ae (aP n) v0),.slice a cs.length cap,.agg (ae (bK (aP n) cs) v)]) /\ aH n 1 3=true /\ (∀ c∈cs,qL c) /\ (cs.length:Int) <= most /\ ay w' w.heap.size v0 bX (aP n) /\ ay w' w.heap.size v vs (bK (aP n) cs) /\ lM (bK (aP n) cs) /\
 Own 32 5 cc w' lb (.slice a cs.length cap) cs /\ (∀ i b,aX v0 bX i b->b < lb) /\ w.heap.size <= lb /\ bf w' g /\ ab g w w'
set_option linter.unusedSimpArgs false in
set_option maxHeartbeats 20000000 in
theorem BD {w:World} {g:Nat} (hc:bf w g) (most:Int) (h0:0 <= most) (h1:most <= 255) :
  Calls Tryz.prog 47 #[.pointer (some ⟨g,0,none⟩),.int .i64 most] w (Bz g w most):=by
 have hgl:=hc.lt
 have kZ:aa w ((w.alloc (.cells zc 30)).alloc (.cells zc 30)):=((aa.refl w).alloc _).alloc _
 have R1:Hid (aq ((w.alloc (.cells zc 30)).alloc (.cells zc 30)) w.heap.size zc):=(aq.new _ _ _).alloc _
 have R2:Hid (aq ((w.alloc (.cells zc 30)).alloc (.cells zc 30)) (w.heap.size+1) zc):=by
  have:=aq.new (w.alloc (.cells zc 30)) zc 30
  show aq _ _ _
  simpa using this
 have HC:=hc.keeps kZ
 have hz:Hid (((w.alloc (.cells zc 30)).alloc (.cells zc 30)).heap.size=w.heap.size+2):=by show _=_;simp
 clear hc
 go_enter Tryz.func47,Tryz.ntmps47
 go_upto_region 1 with fail
 change Code.wp _ _ _ _ ((w.alloc (.cells zc 30)).alloc (.cells zc 30))
 generalize (w.alloc (.cells zc 30)).alloc (.cells zc 30)=Z at *
 have K0:ab g Z Z:=ab.refl g Z
 go_upto_region 2 with first
  | (go_at_call 49;refine (cl g _ _ HC (by omega) (by omega)).mono ?_;rintro e w2 ⟨m2,rfl,m20,m21,hc2,k2⟩;have K2:ab g Z w2:=K0.trans k2;clear HC;have hw2:IntKind.i64.wrap (1+m2)=1+m2:=Go.IntWalk.i64_in _ (by omega))
  | (go_at_call 97;refine (BE _ _).mono ?_;rintro e w3 ⟨v3,vs3,rfl,o3,k3⟩;obtain ⟨⟨xA,xB,xC⟩,⟨xD,xE,xF⟩,⟨xG,xH,xI⟩,⟨xJ,xK,xL⟩,⟨xM,xN,xO⟩⟩:=v3)
 obtain ⟨n,Hn⟩:∃ n,Hid (1+m2=n):=⟨_,rfl⟩
 rw [Hn.out] at o3 ⊢
 have hn1:aH n 1 3=true:=dq.2 (by have:=Hn.out;omega)
 have ks:aH n 1 4=true:=dq.2 (by have:=Hn.out;omega)
 have BF:lM (aP n):=BG ks
 go_upto_region 4 with fail
 have sn:Hid (DV w (((w3.alloc (.cells (ae (aP n) ⟨⟨xA,xB,xC⟩,⟨xD,xE,xF⟩,⟨xG,xH,xI⟩,⟨xJ,xK,xL⟩,⟨xM,xN,xO⟩⟩) 30)).alloc (.cells (ae (aP n) ⟨⟨xA,xB,xC⟩,⟨xD,xE,xF⟩,⟨xG,xH,xI⟩,⟨xJ,xK,xL⟩,⟨xM,xN,xO⟩⟩) 30)).alloc (.cells #[] 32)) g (w3.heap.size+2) w3.heap.size (w3.heap.size+1) ⟨⟨xA,xB,xC⟩,⟨xD,xE,xF⟩,⟨xG,xH,xI⟩,⟨xJ,xK,xL⟩,⟨xM,xN,xO⟩⟩ vs3 (aP n) ⟨⟨xA,xB,xC⟩,⟨xD,xE,xF⟩,⟨xG,xH,xI⟩,⟨xJ,xK,xL⟩,⟨xM,xN,xO⟩⟩ vs3 (aP n) (.slice (some ⟨w3.heap.size+2,0,none⟩) 0 0) []):=by
  have hs2:=K2.size
  have hs3:=k3.size
  have kA:aa w3 (((w3.alloc (.cells (ae (aP n) ⟨⟨xA,xB,xC⟩,⟨xD,xE,xF⟩,⟨xG,xH,xI⟩,⟨xJ,xK,xL⟩,⟨xM,xN,xO⟩⟩) 30)).alloc (.cells (ae (aP n) ⟨⟨xA,xB,xC⟩,⟨xD,xE,xF⟩,⟨xG,xH,xI⟩,⟨xJ,xK,xL⟩,⟨xM,xN,xO⟩⟩) 30)).alloc (.cells #[] 32)):=(((aa.refl w3).alloc _).alloc _).alloc _
  have hlo:∀ i b,aX ⟨⟨xA,xB,xC⟩,⟨xD,xE,xF⟩,⟨xG,xH,xI⟩,⟨xJ,xK,xL⟩,⟨xM,xN,xO⟩⟩ vs3 i b->w.heap.size+2 <= b /\ b < w3.heap.size:=fun i b hi=>by have:=o3.aG hi;have:=hz.out;omega
  refine ⟨(hc2.keeps k3).keeps kA,((ab.of kZ).trans K2).trans (.of (k3.trans kA)),hgl,((R1.out.but K2 (by omega)).keeps k3).keeps kA,((R2.out.but K2 (by omega)).keeps k3).keeps kA,(o3.base (by have:=hz.out;omega)).keeps kA,((aq.new _ _ _).alloc _).alloc _,(o3.base (by have:=hz.out;omega)).keeps kA,?_,?_,fun i b hi=>(hlo i b hi).2,by have:=hz.out;omega,fun i hi=>by have:=hlo i _ hi;omega,fun i b hi e=>by have:=hlo i b hi;simp [Value.ownBlock] at e;omega,by simp⟩
  ·have:=(aq.new (w3.alloc (.cells (ae (aP n) ⟨⟨xA,xB,xC⟩,⟨xD,xE,xF⟩,⟨xG,xH,xI⟩,⟨xJ,xK,xL⟩,⟨xM,xN,xO⟩⟩) 30)) (ae (aP n) ⟨⟨xA,xB,xC⟩,⟨xD,xE,xF⟩,⟨xG,xH,xI⟩,⟨xJ,xK,xL⟩,⟨xM,xN,xO⟩⟩) 30).alloc (.cells #[] 32)
   simpa using this
  ·have:=Own.new 32 5 cc ((w3.alloc (.cells (ae (aP n) ⟨⟨xA,xB,xC⟩,⟨xD,xE,xF⟩,⟨xG,xH,xI⟩,⟨xJ,xK,xL⟩,⟨xM,xN,xO⟩⟩) 30)).alloc (.cells (ae (aP n) ⟨⟨xA,xB,xC⟩,⟨xD,xE,xF⟩,⟨xG,xH,xI⟩,⟨xJ,xK,xL⟩,⟨xM,xN,xO⟩⟩) 30)) (Nat.le_refl _)
   simpa using this
 change Code.wp _ _ _ _ (((w3.alloc (.cells (ae (aP n) ⟨⟨xA,xB,xC⟩,⟨xD,xE,xF⟩,⟨xG,xH,xI⟩,⟨xJ,xK,xL⟩,⟨xM,xN,xO⟩⟩) 30)).alloc (.cells (ae (aP n) ⟨⟨xA,xB,xC⟩,⟨xD,xE,xF⟩,⟨xG,xH,xI⟩,⟨xJ,xK,xL⟩,⟨xM,xN,xO⟩⟩) 30)).alloc (.cells #[] 32))
 clear R1 R2 hc2 K2 K0 kZ hz o3 k3
 generalize (((w3.alloc (.cells (ae (aP n) ⟨⟨xA,xB,xC⟩,⟨xD,xE,xF⟩,⟨xG,xH,xI⟩,⟨xJ,xK,xL⟩,⟨xM,xN,xO⟩⟩) 30)).alloc (.cells (ae (aP n) ⟨⟨xA,xB,xC⟩,⟨xD,xE,xF⟩,⟨xG,xH,xI⟩,⟨xJ,xK,xL⟩,⟨xM,xN,xO⟩⟩) 30)).alloc (.cells #[] 32))=X4 at *
 generalize w3.heap.size=n3 at *
 have J4:IntKind.i64.wrap (most+1)=most+1:=Go.IntWalk.i64_in _ (by omega)
 go_wp2_with (go_at_call 49;refine (cl g _ _ sn.out.cur (by omega) (by omega)).mono ?_;rintro e w5 ⟨nn,rfl,J5,J6,eP,k5⟩)
 obtain ⟨N,rfl⟩:∃ N:Nat,nn=(N:Int):=⟨nn.toNat,by omega⟩
 have D5:Hid (DV w w5 g (n3+2) n3 (n3+1) ⟨⟨xA,xB,xC⟩,⟨xD,xE,xF⟩,⟨xG,xH,xI⟩,⟨xJ,xK,xL⟩,⟨xM,xN,xO⟩⟩ vs3 (aP n) ⟨⟨xA,xB,xC⟩,⟨xD,xE,xF⟩,⟨xG,xH,xI⟩,⟨xJ,xK,xL⟩,⟨xM,xN,xO⟩⟩ vs3 (aP n) (.slice (some ⟨n3+2,0,none⟩) 0 0) []):=sn.out.but eP k5
 clear sn eP k5
 go_loopw [10,12] (fun u i wr=>∃ (k:Nat) (cs:List Cl) (v:Sv) (vs:List Lv),k <= N /\ i = .int .i64 k /\ Hid (cs.length=k) /\ Hid (DV w wr g (n3+2) n3 (n3+1) ⟨⟨xA,xB,xC⟩,⟨xD,xE,xF⟩,⟨xG,xH,xI⟩,⟨xJ,xK,xL⟩,⟨xM,xN,xO⟩⟩ vs3 (aP n) v vs (bK (aP n) cs) u cs) /\ Hid (∀ c∈cs,qL c) /\ lM (bK (aP n) cs)) (fun _ i _=>N - (intOf i).toNat)
 case atStart=>exact ⟨0,[],⟨⟨xA,xB,xC⟩,⟨xD,xE,xF⟩,⟨xG,xH,xI⟩,⟨xJ,xK,xL⟩,⟨xM,xN,xO⟩⟩,vs3,Nat.zero_le _,rfl,rfl,D5,fun c hc=>by simp at hc,BF⟩
 case round =>
  obtain ⟨k,cs,v,vs,hk,rfl,HL,D,HF,SM⟩:=hrel
  clear D5
  obtain ⟨⟨yA,yB,yC⟩,⟨yD,yE,yF⟩,⟨yG,yH,yI⟩,⟨yJ,yK,yL⟩,⟨yM,yN,yO⟩⟩:=v
  by_cases hlt:k < N
  ·have hlt':(k:Int) < (N:Int):=by omega
   have DD:=D.out
   obtain ⟨_,b1,b2⟩:=DD.box
   dsimp only [ae] at b1
   obtain ⟨BH,BI,BJ⟩:=SM
   go_upto_region 9 with (go_at_call 24;refine (sg DD.cur DD.own (by have:=DD.gl;omega) (by omega) (by omega)).mono ?_;rintro e w6 ⟨x,rfl,hx,hc6,k6⟩)
   have D6:Hid (DV w (w6.alloc (.cells (cc x) 32)) g (n3+2) n3 (n3+1) ⟨⟨xA,xB,xC⟩,⟨xD,xE,xF⟩,⟨xG,xH,xI⟩,⟨xJ,xK,xL⟩,⟨xM,xN,xO⟩⟩ vs3 (aP n) ⟨⟨yA,yB,yC⟩,⟨yD,yE,yF⟩,⟨yG,yH,yI⟩,⟨yJ,yK,yL⟩,⟨yM,yN,yO⟩⟩ vs (bK (aP n) cs) u10 cs):=(DD.but hc6 k6).keeps ((aa.refl w6).alloc _)
   have X6:Hid (aq (w6.alloc (.cells (cc x) 32)) w6.heap.size (cc x)):=aq.new _ _ _
   have Q6:Hid (∀ q,Value.ownBlock u10=some q->q < w6.heap.size):=fun q hq=>Nat.lt_of_lt_of_le (DD.row.cr q hq).2 k6.size
   change Code.wp _ _ _ _ (w6.alloc (.cells (cc x) 32))
   clear DD b1 b2 hc6 k6 D
   generalize w6.alloc (.cells (cc x) 32)=Y6 at *
   generalize w6.heap.size=xb at *
   obtain ⟨_,x1,x2⟩:=X6.out
   go_upto_region 10 with (at_builtin;(refine qc5 rfl _ _ 94 rfl (n3+2) 32 (.agg dG) 5 40 cc Tryz.underlying94 (by kernel_rfl) rfl (by decide) vz By _ cs rfl (D6.out.row.keeps ((aa.refl _).alloc _)) (by have:=D6.out.qK;simp;omega) x _ 1 (aq.new _ _ _) rfl (by have:=HL.out;unfold maxLen;omega) (by have:=HL.out;omega) ?_;intro u7 w7 o7 g7 f7))
   have D7:Hid (DV w w7 g (n3+2) n3 (n3+1) ⟨⟨xA,xB,xC⟩,⟨xD,xE,xF⟩,⟨xG,xH,xI⟩,⟨xJ,xK,xL⟩,⟨xM,xN,xO⟩⟩ vs3 (aP n) ⟨⟨yA,yB,yC⟩,⟨yD,yE,yF⟩,⟨yG,yH,yI⟩,⟨yJ,yK,yL⟩,⟨yM,yN,yO⟩⟩ vs (bK (aP n) cs) u7 (cs++[x])):=(D6.out.keeps ((aa.refl _).alloc _)).push o7 g7 f7
   have X7:Hid (aq w7 xb (cc x)):=(X6.out.keeps ((aa.refl _).alloc _)).grown g7 (fun q e e2=>by have:=Q6.out q e;omega)
   clear D6 X6 Q6 x1 x2 o7 g7 f7
   have DD:=D7.out
   obtain ⟨_,b1,b2⟩:=DD.box
   dsimp only [ae] at b1
   obtain ⟨_,x1,x2⟩:=X7.out
   obtain ⟨cn,qM⟩:∃ z,Hid (gH (bK (aP n) cs) x=z):=⟨_,rfl⟩
   obtain ⟨cS,so⟩:∃ z,Hid (fW (bK (aP n) cs) x=z):=⟨_,rfl⟩
   have SC:Hid (Calls Tryz.prog 12 #[.agg (ae (bK (aP n) cs) ⟨⟨yA,yB,yC⟩,⟨yD,yE,yF⟩,⟨yG,yH,yI⟩,⟨yJ,yK,yL⟩,⟨yM,yN,yO⟩⟩),ck x] w7 (Told w7 cS cn)):=by
    have:=BL (DD.own.on (by omega)) x
    rw [qM.out,so.out] at this
    exact this
   go_upto_region 11 with (go_at_call 12;refine SC.out.mono ?_;rintro e w8 ⟨v8,pd,rfl,o8,k8⟩;obtain ⟨⟨zA,zB,zC⟩,⟨zD,zE,zF⟩,⟨zG,zH,zI⟩,⟨zJ,zK,zL⟩,⟨zM,zN,zO⟩⟩:=v8)
   have KY:aa w7 (w8.alloc (.cells (ae (cS:Sy) ⟨⟨zA,zB,zC⟩,⟨zD,zE,zF⟩,⟨zG,zH,zI⟩,⟨zJ,zK,zL⟩,⟨zM,zN,zO⟩⟩) 30)):=k8.alloc _
   have O8:Hid (ay (w8.alloc (.cells (ae (cS:Sy) ⟨⟨zA,zB,zC⟩,⟨zD,zE,zF⟩,⟨zG,zH,zI⟩,⟨zJ,zK,zL⟩,⟨zM,zN,zO⟩⟩) 30)) w7.heap.size ⟨⟨zA,zB,zC⟩,⟨zD,zE,zF⟩,⟨zG,zH,zI⟩,⟨zJ,zK,zL⟩,⟨zM,zN,zO⟩⟩ pd cS):=o8.keeps ((aa.refl _).alloc _)
   have N8:Hid (aq (w8.alloc (.cells (ae (cS:Sy) ⟨⟨zA,zB,zC⟩,⟨zD,zE,zF⟩,⟨zG,zH,zI⟩,⟨zJ,zK,zL⟩,⟨zM,zN,zO⟩⟩) 30)) w8.heap.size (ae (cS:Sy) ⟨⟨zA,zB,zC⟩,⟨zD,zE,zF⟩,⟨zG,zH,zI⟩,⟨zJ,zK,zL⟩,⟨zM,zN,zO⟩⟩)):=aq.new _ _ _
   have J7:Hid (n3+1≠w8.heap.size):=by show _≠_;have:=DD.box.lt;have:=k8.size;omega
   change Code.wp _ _ _ _ (w8.alloc (.cells (ae (cS:Sy) ⟨⟨zA,zB,zC⟩,⟨zD,zE,zF⟩,⟨zG,zH,zI⟩,⟨zJ,zK,zL⟩,⟨zM,zN,zO⟩⟩) 30))
   clear b1 b2 x1 x2 o8 k8 SC
   generalize w8.alloc (.cells (ae (cS:Sy) ⟨⟨zA,zB,zC⟩,⟨zD,zE,zF⟩,⟨zG,zH,zI⟩,⟨zJ,zK,zL⟩,⟨zM,zN,zO⟩⟩) 30)=Y8 at *
   generalize w8.heap.size=nb at *
   have pe:Hid (∀ c∈cs++[x],qL c):=fun c hc=>by
    rcases List.mem_append.1 hc with h | h
    ·exact HF.out c h
    ·simp at h;subst h;exact hx
   have HL2:Hid ((cs++[x]).length=k+1):=by show _=_;rw [List.length_append,HL.out];rfl
   cases e0:(cn==0)
   ·have HR:Hid (bK (aP n) (cs++[x])=bK (aP n) cs):=by show _=_;rw [qN,qM.out,e0];rfl
    have D8:Hid (DV w Y8 g (n3+2) n3 (n3+1) ⟨⟨xA,xB,xC⟩,⟨xD,xE,xF⟩,⟨xG,xH,xI⟩,⟨xJ,xK,xL⟩,⟨xM,xN,xO⟩⟩ vs3 (aP n) ⟨⟨yA,yB,yC⟩,⟨yD,yE,yF⟩,⟨yG,yH,yI⟩,⟨yJ,yK,yL⟩,⟨yM,yN,yO⟩⟩ vs (bK (aP n) (cs++[x])) u7 (cs++[x])):=by rw [HR.out];exact D7.out.keeps KY
    have sq:lM (bK (aP n) (cs++[x])):=by rw [HR.out];exact ⟨BH,BI,BJ⟩
    clear DD D7 HR
    go_wp2
    exact ⟨⟨k+1,cs++[x],⟨⟨yA,yB,yC⟩,⟨yD,yE,yF⟩,⟨yG,yH,yI⟩,⟨yJ,yK,yL⟩,⟨yM,yN,yO⟩⟩,vs,by omega,by go_num,HL2,D8,pe,sq⟩,by simp only [intOf];omega⟩
   ·have HR:Hid (bK (aP n) (cs++[x])=cS):=by show _=_;rw [qN,qM.out,e0,so.out];rfl
    have D8:Hid (DV w (putC Y8 (n3+1) 0 (ae (cS:Sy) ⟨⟨zA,zB,zC⟩,⟨zD,zE,zF⟩,⟨zG,zH,zI⟩,⟨zJ,zK,zL⟩,⟨zM,zN,zO⟩⟩).toList) g (n3+2) n3 (n3+1) ⟨⟨xA,xB,xC⟩,⟨xD,xE,xF⟩,⟨xG,xH,xI⟩,⟨xJ,xK,xL⟩,⟨xM,xN,xO⟩⟩ vs3 (aP n) ⟨⟨zA,zB,zC⟩,⟨zD,zE,zF⟩,⟨zG,zH,zI⟩,⟨zJ,zK,zL⟩,⟨zM,zN,zO⟩⟩ pd (bK (aP n) (cs++[x])) u7 (cs++[x])):=by rw [HR.out];exact D7.out.call KY O8.out
    have sq:lM (bK (aP n) (cs++[x])):=by rw [HR.out,<- so.out];exact BP (by rw [qM.out];simpa using e0)
    obtain ⟨_,b1,b2⟩:=N8.out
    dsimp only [ae] at b1
    have BO:=D7.out.box.keeps KY
    obtain ⟨_,c1,c2⟩:=BO
    clear DD D7 HR
    go_upto_region 7 with fail
    change Code.wp _ _ _ _ (putC Y8 (n3+1) 0 (ae (cS:Sy) ⟨⟨zA,zB,zC⟩,⟨zD,zE,zF⟩,⟨zG,zH,zI⟩,⟨zJ,zK,zL⟩,⟨zM,zN,zO⟩⟩).toList)
    clear b1 b2 c1 c2
    generalize putC Y8 (n3+1) 0 (ae (cS:Sy) ⟨⟨zA,zB,zC⟩,⟨zD,zE,zF⟩,⟨zG,zH,zI⟩,⟨zJ,zK,zL⟩,⟨zM,zN,zO⟩⟩).toList=X9 at *
    go_wp2
    exact ⟨⟨k+1,cs++[x],⟨⟨zA,zB,zC⟩,⟨zD,zE,zF⟩,⟨zG,zH,zI⟩,⟨zJ,zK,zL⟩,⟨zM,zN,zO⟩⟩,pd,by omega,by go_num,HL2,D8,pe,sq⟩,by simp only [intOf];omega⟩
  ·have hlt':decide ((k:Int) < (N:Int))=false:=by simp;omega
   go_upto_region 13 with fail
   have DE:=D.out
   obtain ⟨P1,B1,P2,E1,E2,O1,O2,O3,C3,K3⟩:=DE.told
   have q1:=B1.cells
   have q2:=B1.aO
   have e0:∀ w',jc n3 (n3+1) (ae (aP n) ⟨⟨xA,xB,xC⟩,⟨xD,xE,xF⟩,⟨xG,xH,xI⟩,⟨xJ,xK,xL⟩,⟨xM,xN,xO⟩⟩) (ae (bK (aP n) cs) ⟨⟨yA,yB,yC⟩,⟨yD,yE,yF⟩,⟨yG,yH,yI⟩,⟨yJ,yK,yL⟩,⟨yM,yN,yO⟩⟩) w'->∀ q,w'.cell? ⟨n3,q,none⟩=(ae (aP n) ⟨⟨xA,xB,xC⟩,⟨xD,xE,xF⟩,⟨xG,xH,xI⟩,⟨xJ,xK,xL⟩,⟨xM,xN,xO⟩⟩)[q]?:=fun w' hh=>hh.one.cells
   have e1:∀ w',jc n3 (n3+1) (ae (aP n) ⟨⟨xA,xB,xC⟩,⟨xD,xE,xF⟩,⟨xG,xH,xI⟩,⟨xJ,xK,xL⟩,⟨xM,xN,xO⟩⟩) (ae (bK (aP n) cs) ⟨⟨yA,yB,yC⟩,⟨yD,yE,yF⟩,⟨yG,yH,yI⟩,⟨yJ,yK,yL⟩,⟨yM,yN,yO⟩⟩) w'->∀ q,w'.cell? ⟨n3+1,q,none⟩=(ae (bK (aP n) cs) ⟨⟨yA,yB,yC⟩,⟨yD,yE,yF⟩,⟨yG,yH,yI⟩,⟨yJ,yK,yL⟩,⟨yM,yN,yO⟩⟩)[q]?:=fun w' hh=>hh.two.cells
   dsimp only [ae] at e0 e1
   refine wp_region_held_drew (S:=fun w'=>jc n3 (n3+1) (ae (aP n) ⟨⟨xA,xB,xC⟩,⟨xD,xE,xF⟩,⟨xG,xH,xI⟩,⟨xJ,xK,xL⟩,⟨xM,xN,xO⟩⟩) (ae (bK (aP n) cs) ⟨⟨yA,yB,yC⟩,⟨yD,yE,yF⟩,⟨yG,yH,yI⟩,⟨yJ,yK,yL⟩,⟨yM,yN,yO⟩⟩) w') (by kernel_rfl) ?_ (fun hHeld => ?_)
   ·exact ⟨DE.nO.keeps (aa.refl _).drew,DE.box.keeps (aa.refl _).drew⟩
   refine ad.go [0,1,2] ?_
   iterate 3 (refine aM (h := ?_);try simp only [au])
   refine ad.nil ?_
   refine aR 3 (h:=fun K hK => ?_)
   obtain ⟨_,r1,r2⟩:=DE.r1
   go_simp
   try go_wp2_with fail
   refine hK.out _ ((putC wr w.heap.size 0 (ae (aP n) ⟨⟨xA,xB,xC⟩,⟨xD,xE,xF⟩,⟨xG,xH,xI⟩,⟨xJ,xK,xL⟩,⟨xM,xN,xO⟩⟩).toList).drew) ?_ (fun hHeld => ?_)
   ·exact ⟨P1.one.keeps (aa.refl _).drew,P1.two.keeps (aa.refl _).drew⟩
   clear hK K
   try simp only [au]
   clear r1 r2
   generalize putC wr w.heap.size 0 (ae (aP n) ⟨⟨xA,xB,xC⟩,⟨xD,xE,xF⟩,⟨xG,xH,xI⟩,⟨xJ,xK,xL⟩,⟨xM,xN,xO⟩⟩).toList=X1 at *
   refine di 4 (h := ?_)
   try simp only [au]
   refine aR 5 (h:=fun K hK => ?_)
   go_simp
   try go_wp2_with fail
   refine hK.out _ ((putC X1 (w.heap.size+1) 0 (ae (bK (aP n) cs) ⟨⟨yA,yB,yC⟩,⟨yD,yE,yF⟩,⟨yG,yH,yI⟩,⟨yJ,yK,yL⟩,⟨yM,yN,yO⟩⟩).toList).drew) ?_ (fun hHeld => ?_)
   ·exact ⟨P2.one.keeps (aa.refl _).drew,P2.two.keeps (aa.refl _).drew⟩
   clear hK K
   try simp only [au]
   refine wpAnyH_done (by kernel_rfl) ?_ _
   clear q1 q2 e0 e1 hHeld
   generalize putC X1 (w.heap.size+1) 0 (ae (bK (aP n) cs) ⟨⟨yA,yB,yC⟩,⟨yD,yE,yF⟩,⟨yG,yH,yI⟩,⟨yJ,yK,yL⟩,⟨yM,yN,yO⟩⟩).toList=Q at *
   replace E1:=E1.keeps (aa.refl _).drew
   replace E2:=E2.keeps (aa.refl _).drew
   replace O1:=O1.keeps (aa.refl _).drew
   replace O2:=O2.keeps (aa.refl _).drew
   replace O3:=O3.keeps (aa.refl _).drew
   replace C3:=C3.keeps (aa.refl _).drew
   replace K3:=K3.drew
   generalize Q.drew=Q2 at *
   go_wp2
   obtain ⟨a9,c9,e9⟩:=O3.form vz
   subst e9
   have ho:=DE.ord
   exact bodyPost_ret (v := .tuple #[.agg (ae (aP n) ⟨⟨xA,xB,xC⟩,⟨xD,xE,xF⟩,⟨xG,xH,xI⟩,⟨xJ,xK,xL⟩,⟨xM,xN,xO⟩⟩),.slice a9 cs.length c9,.agg (ae (bK (aP n) cs) ⟨⟨yA,yB,yC⟩,⟨yD,yE,yF⟩,⟨yG,yH,yI⟩,⟨yJ,yK,yL⟩,⟨yM,yN,yO⟩⟩)]) (by simp [results,Tryz.results47,go_sem,E1.cells,E2.cells]) rfl ⟨n,cs,⟨⟨xA,xB,xC⟩,⟨xD,xE,xF⟩,⟨xG,xH,xI⟩,⟨xJ,xK,xL⟩,⟨xM,xN,xO⟩⟩,vs3,⟨⟨yA,yB,yC⟩,⟨yD,yE,yF⟩,⟨yG,yH,yI⟩,⟨yJ,yK,yL⟩,⟨yM,yN,yO⟩⟩,vs,a9,c9,n3+2,rfl,hn1,HF.out,by have:=HL.out;omega,O1,O2,SM,O3,fun i b hi=>by have:=DE.nP i b hi;omega,by omega,C3,K3⟩
structure DY (w wr:World) (g ob:Nat) (v:Sv) (vs:List Lv) (s:Sy):Prop where
 cur:bf wr g
 kb:ab g w wr
 gl:g < w.heap.size
 res:aq wr w.heap.size zc
 own:ay wr (w.heap.size+1) v vs s
 box:aq wr ob (ae s v)
 far:∀ i,¬ aX v vs i ob
 ol:w.heap.size < ob
section
variable {w wr:World} {g ob:Nat} {v:Sv} {vs:List Lv} {s:Sy}
theorem DY.but (h:DY w wr g ob v vs s) {wr':World} (hc:bf wr' g) (k:ab g wr wr'):DY w wr' g ob v vs s:=by
 have hg:=h.gl
 have ho:=h.ol
 exact ⟨hc,h.kb.trans k,hg,h.res.but k (by omega),h.own.cy k (by omega),h.box.but k (by omega),h.far,ho⟩
theorem DY.keeps (h:DY w wr g ob v vs s) {wr':World} (k:aa wr wr'):DY w wr' g ob v vs s:=h.but (h.cur.keeps k) (.of k)
theorem DY.turn (h:DY w wr g ob v vs s) {w2:World} {v':Sv} {vs':List Lv} {s':Sy} (O:ay w2 (w.heap.size+1) v' vs' s') (C:bf w2 g) (K:ab g w w2) (R:aq w2 w.heap.size zc) (B:aq w2 ob (ae s v)) (F:∀ i,¬ aX v' vs' i ob) {k:Nat} {x:Value} (e:(ae s v).setIfInBounds k x=ae s' v') (hk:k < 9):DY w (w2.setCell ⟨ob,k,none⟩ x) g ob v' vs' s':=by
 have hg:=h.gl
 have ho:=h.ol
 have B2:=B.set k (by simpa using hk) x
 rw [e] at B2
 exact ⟨C.aI (by omega) _ _,K.aI (by simp;omega) _,hg,R.far (by omega) _,O.far F _,B2,F,ho⟩
theorem DY.num (h:DY w wr g ob v vs s) (now az seq missed:Int) {k:Nat} {x:Value} (e:(ae s v).setIfInBounds k x=ae { s with now:=now,az:=az,seq:=seq,missed:=missed } v) (hk:k < 9):DY w (wr.setCell ⟨ob,k,none⟩ x) g ob v vs { s with now:=now,az:=az,seq:=seq,missed:=missed } :=
 h.turn (h.own.nums now az seq missed) h.cur h.kb h.res h.box h.far e hk
theorem DY.tasks (h:DY w wr g ob v vs s) {w1:World} (C:bf w1 g) (K:ab g wr w1) {x:Rw} {xs:List ar} (O:Own 43 14 tc w1 wr.heap.size x.val xs):DY w (w1.setCell ⟨ob,2,none⟩ x.val) g ob { v with t:=x } vs { s with tasks:=xs }:=by
 have h1:=h.but C K
 have hb:=h.box.lt
 have hs:=h.kb.size
 have hf:∀ b,x.val.ownBlock=some b->wr.heap.size <= b:=fun b e=>(O.cr b e).1
 have hlo:w.heap.size+1 <= wr.heap.size:=by have:=h.res.lt;omega
 refine h1.turn (v':={ v with t:=x }) (vs':=vs) (s':={ s with tasks:=xs }) ⟨O.base hlo,h1.own.l,h1.own.g,h1.own.f,h1.own.r,mo h.own 0 (fun b e => .inr (hf b e)) ?_⟩ C h1.kb h1.res h1.box ?_ rfl (by omega)
 ·intro j b hj hb
  match j,hb with
  | 0,hb=>exact absurd rfl hj
  | 1,hb=>exact hb
  | 2,hb=>exact hb
  | 3,hb=>exact hb
  | 4,hb=>exact hb
 ·intro i hi
  match i,hi with
  | 0,hi=>have:=hf ob hi;omega
  | 1,hi=>exact h.far 1 hi
  | 2,hi=>exact h.far 2 hi
  | 3,hi=>exact h.far 3 hi
  | 4,hi=>exact h.far 4 hi
theorem DY.ak (h:DY w wr g ob v vs s) {w1:World} (C:bf w1 g) (K:ab g wr w1) {x:Rw} {vs':List Lv} {ls:List Lk} (L:Mine w1 wr.heap.size w1.heap.size x.val vs' ls):DY w (w1.setCell ⟨ob,3,none⟩ x.val) g ob { v with l:=x } vs' { s with ak:=ls }:=by
 have h1:=h.but C K
 have hb:=h.box.lt
 have hs:=h.kb.size
 have hf:∀ b,nQ x.val vs' b->wr.heap.size <= b:=fun b e=>(L.aG e).1
 have hlo:w.heap.size+1 <= wr.heap.size:=by have:=h.res.lt;omega
 refine h1.turn (v':={ v with l:=x }) (vs':=vs') (s':={ s with ak:=ls }) ⟨h1.own.t,L.widen hlo (Nat.le_refl _),h1.own.g,h1.own.f,h1.own.r,mo h.own 1 (fun b e => .inr (hf b e)) ?_⟩ C h1.kb h1.res h1.box ?_ rfl (by omega)
 ·intro j b hj hb
  match j,hb with
  | 0,hb=>exact hb
  | 1,hb=>exact absurd rfl hj
  | 2,hb=>exact hb
  | 3,hb=>exact hb
  | 4,hb=>exact hb
 ·intro i hi
  match i,hi with
  | 0,hi=>exact h.far 0 hi
  | 1,hi=>have:=hf ob hi;omega
  | 2,hi=>exact h.far 2 hi
  | 3,hi=>exact h.far 3 hi
  | 4,hi=>exact h.far 4 hi
theorem DY.af (h:DY w wr g ob v vs s) {w2:World} {x:Rw} {xs:List Gh} (O:Own 87 4 cP w2 (w.heap.size+1) x.val xs) (G:wr.grownBy w2 v.g.val.ownBlock) (f:∀ q,x.val.ownBlock=some q->v.g.val.ownBlock=some q∨wr.heap.size <= q):DY w (w2.setCell ⟨ob,4,none⟩ x.val) g ob { v with g:=x } vs { s with af:=xs }:=by
 have hb:=h.box.lt
 have hg:=h.gl
 have ho:=h.ol
 have hr:∀ q,v.g.val.ownBlock=some q->w.heap.size+1 <= q:=fun q e=>(h.own.aG (i:=2) (b:=q) e).1
 refine h.turn (v':={ v with g:=x }) (vs':=vs) (s':={ s with af:=xs }) (h.own.pf G.size (fun b hb hn=>G.block b hb (fun e=>hn e.symm)) x xs O f) (h.cur.grown G (fun k hk=>by have:=hr k hk;omega)) (h.kb.grown G (fun k hk=>by have:=hr k hk;omega)) (h.res.grown G (fun q e e2=>by have:=hr q e;omega)) (h.box.grown G (fun q e e2=>h.far 2 (by rw [<- e2];exact e))) ?_ rfl (by omega)
 ·intro i hi
  match i,hi with
  | 0,hi=>exact h.far 0 hi
  | 1,hi=>exact h.far 1 hi
  | 2,hi =>
   rcases f ob hi with h2 | h2
   ·exact h.far 2 h2
   ·omega
  | 3,hi=>exact h.far 3 hi
  | 4,hi=>exact h.far 4 hi
theorem DY.trace (h:DY w wr g ob v vs s) {w2:World} {x:Rw} {xs:List Tn} (O:Own 104 3 dX w2 (w.heap.size+1) x.val xs) (G:wr.grownBy w2 v.r.val.ownBlock) (f:∀ q,x.val.ownBlock=some q->v.r.val.ownBlock=some q∨wr.heap.size <= q):DY w (w2.setCell ⟨ob,8,none⟩ x.val) g ob { v with r:=x } vs { s with trace:=xs }:=by
 have hb:=h.box.lt
 have hg:=h.gl
 have ho:=h.ol
 have hr:∀ q,v.r.val.ownBlock=some q->w.heap.size+1 <= q:=fun q e=>(h.own.aG (i:=4) (b:=q) e).1
 refine h.turn (v':={ v with r:=x }) (vs':=vs) (s':={ s with trace:=xs }) (h.own.pg G.size (fun b hb hn=>G.block b hb (fun e=>hn e.symm)) x xs O f) (h.cur.grown G (fun k hk=>by have:=hr k hk;omega)) (h.kb.grown G (fun k hk=>by have:=hr k hk;omega)) (h.res.grown G (fun q e e2=>by have:=hr q e;omega)) (h.box.grown G (fun q e e2=>h.far 4 (by rw [<- e2];exact e))) ?_ rfl (by omega)
 ·intro i hi
  match i,hi with
  | 0,hi=>exact h.far 0 hi
  | 1,hi=>exact h.far 1 hi
  | 2,hi=>exact h.far 2 hi
  | 3,hi=>exact h.far 3 hi
  | 4,hi =>
   rcases f ob hi with h2 | h2
   ·exact h.far 4 h2
   ·omega
theorem DY.ax (h:DY w wr g ob v vs s) {w2:World} {x:Rw} {xs:List Int} (O:Own 3 1 ic w2 (w.heap.size+1) x.val xs) (G:wr.grownBy w2 v.f.val.ownBlock) (f:∀ q,x.val.ownBlock=some q->v.f.val.ownBlock=some q∨wr.heap.size <= q):DY w (w2.setCell ⟨ob,5,none⟩ x.val) g ob { v with f:=x } vs { s with ax:=xs }:=by
 have hb:=h.box.lt
 have hg:=h.gl
 have ho:=h.ol
 have hr:∀ q,v.f.val.ownBlock=some q->w.heap.size+1 <= q:=fun q e=>(h.own.aG (i:=3) (b:=q) e).1
 refine h.turn (v':={ v with f:=x }) (vs':=vs) (s':={ s with ax:=xs }) (h.own.ph G.size (fun b hb hn=>G.block b hb (fun e=>hn e.symm)) x xs O f) (h.cur.grown G (fun k hk=>by have:=hr k hk;omega)) (h.kb.grown G (fun k hk=>by have:=hr k hk;omega)) (h.res.grown G (fun q e e2=>by have:=hr q e;omega)) (h.box.grown G (fun q e e2=>h.far 3 (by rw [<- e2];exact e))) ?_ rfl (by omega)
 ·intro i hi
  match i,hi with
  | 0,hi=>exact h.far 0 hi
  | 1,hi=>exact h.far 1 hi
  | 2,hi=>exact h.far 2 hi
  | 3,hi =>
   rcases f ob hi with h2 | h2
   ·exact h.far 3 h2
   ·omega
  | 4,hi=>exact h.far 4 hi
theorem DY.task (h:DY w wr g ob v vs s) {tb:Nat} (ha:v.t.a=some ⟨tb,0,none⟩) {k:Nat} (hk:k < s.tasks.length) (x:ar):DY w (putC wr tb (k*14) (tc x).toList) g ob v vs { s with tasks:=s.tasks.set k x }:=by
 have ho2:aX v vs 0 tb:=by show v.t.val.ownBlock=some tb;rw [Rw.val,ha];rfl
 have hlo:=(h.own.aG ho2).1
 have hg:=h.gl
 have ho:=h.ol
 have hne:tb≠ob:=fun e=>h.far 0 (by rw [<- e];exact ho2)
 exact ⟨bf.putC (by omega) _ _ h.cur,ab.ir (by omega) _ _ h.kb,hg,aq.aT (by omega) _ _ h.res,(h.own.storeT ha hk x).1,aq.aT hne _ _ h.box,h.far,ho⟩
theorem DY.told (h:DY w wr g ob v vs s):aq (putC wr w.heap.size 0 (ae s v).toList) w.heap.size (ae s v) /\ ay (putC wr w.heap.size 0 (ae s v).toList) w.heap.size v vs s /\ bf (putC wr w.heap.size 0 (ae s v).toList) g /\ ab g w (putC wr w.heap.size 0 (ae s v).toList):=by
 have hg:=h.gl
 exact ⟨h.res.putC _ rfl,(ay.aT (fun i hi=>by have:=(h.own.aG hi).1;omega) _ _ h.own).base (by omega),bf.putC (by omega) _ 0 h.cur,ab.ir (by omega) _ 0 h.kb⟩
end
def BQ:Value->Nat
 | .slice _ n _=>n
 | _=>0
def lN (w:World) (ob:Nat):Nat:=match w.cell? ⟨ob,8,none⟩ with
 | some v=>BQ v
 | none=>0
def qO (s:Sy):Prop:=s.tasks.length <= 30 /\ s.az <= 5 /\ bE s <= 5000
def BR (g:Nat) (w:World) (e:Ending) (w':World):Prop:=∃ (s:Sy) (v:Sv) (vs:List Lv),e = .returned (.agg (ae s v)) /\ ay w' w.heap.size v vs s /\ qO s /\ bf w' g /\ ab g w w'
set_option linter.unusedSimpArgs false in
set_option maxHeartbeats 20000000 in
theorem BV {w:World} {g:Nat} (hc:bf w g) (a:Option Addr) (n cap:Nat) (hn:n <= 1048576) :
  Calls Tryz.prog 22 #[.pointer (some ⟨g,0,none⟩),.slice a n cap] w (BR g w):=by
 have hgl:=hc.lt
 have kZ:=dw w (.cells zc 30)
 have R0:Hid (aq (w.alloc (.cells zc 30)) w.heap.size zc):=aq.new _ _ _
 have HC:=hc.keeps kZ
 have hz:Hid ((w.alloc (.cells zc 30)).heap.size=w.heap.size+1):=by show _=_;simp
 clear hc
 go_enter Tryz.func22,Tryz.ntmps22
 go_upto_region 1 with fail
 change Code.wp _ _ _ _ (w.alloc (.cells zc 30))
 generalize w.alloc (.cells zc 30)=Z at *
 go_upto_region 2 with first
  | (go_at_call 48;refine (BW a n cap 30 80 _ hn (by omega) (by omega) (by omega)).mono ?_;rintro e w' ⟨most,rfl,hm0,hm1,hw'⟩;have hw2:=hw'.symm;subst hw2)
  | (go_at_call 47;refine (BD HC most (by omega) (by omega)).mono ?_;rintro e w2 ⟨nn,cs,v0,bX,v,vs,ra,ao,lb,rfl,hn1,sr,hlen,o0,o1,sm,ss,hlb,su,hc2,k2⟩;obtain ⟨⟨xA,xB,xC⟩,⟨xD,xE,xF⟩,⟨xG,xH,xI⟩,⟨xJ,xK,xL⟩,⟨xM,xN,xO⟩⟩:=v0;obtain ⟨⟨yA,yB,yC⟩,⟨yD,yE,yF⟩,⟨yG,yH,yI⟩,⟨yJ,yK,yL⟩,⟨yM,yN,yO⟩⟩:=v)
 obtain ⟨s,Hs⟩:∃ s,Hid (bK (aP nn) cs=s):=⟨_,rfl⟩
 rw [Hs.out] at o1 sm ⊢
 have D2:Hid (DY w ((w2.alloc (.cells (ae (aP nn) ⟨⟨xA,xB,xC⟩,⟨xD,xE,xF⟩,⟨xG,xH,xI⟩,⟨xJ,xK,xL⟩,⟨xM,xN,xO⟩⟩) 30)).alloc (.cells (ae s ⟨⟨yA,yB,yC⟩,⟨yD,yE,yF⟩,⟨yG,yH,yI⟩,⟨yJ,yK,yL⟩,⟨yM,yN,yO⟩⟩) 30)) g (w2.heap.size+1) ⟨⟨yA,yB,yC⟩,⟨yD,yE,yF⟩,⟨yG,yH,yI⟩,⟨yJ,yK,yL⟩,⟨yM,yN,yO⟩⟩ vs s):=by
  have hs2:=k2.size
  have kA:aa w2 ((w2.alloc (.cells (ae (aP nn) ⟨⟨xA,xB,xC⟩,⟨xD,xE,xF⟩,⟨xG,xH,xI⟩,⟨xJ,xK,xL⟩,⟨xM,xN,xO⟩⟩) 30)).alloc (.cells (ae s ⟨⟨yA,yB,yC⟩,⟨yD,yE,yF⟩,⟨yG,yH,yI⟩,⟨yJ,yK,yL⟩,⟨yM,yN,yO⟩⟩) 30)):=((aa.refl w2).alloc _).alloc _
  refine ⟨hc2.keeps kA,((ab.of kZ).trans k2).trans (.of kA),hgl,(R0.out.but k2 (by omega)).keeps kA,(o1.base (by have:=hz.out;omega)).keeps kA,?_,fun i hi=>by have:=(o1.aG hi).2;omega,by have:=hz.out;omega⟩
  have:=aq.new (w2.alloc (.cells (ae (aP nn) ⟨⟨xA,xB,xC⟩,⟨xD,xE,xF⟩,⟨xG,xH,xI⟩,⟨xJ,xK,xL⟩,⟨xM,xN,xO⟩⟩) 30)) (ae s ⟨⟨yA,yB,yC⟩,⟨yD,yE,yF⟩,⟨yG,yH,yI⟩,⟨yJ,yK,yL⟩,⟨yM,yN,yO⟩⟩) 30
  simpa using this
 change Code.wp _ _ _ _ ((w2.alloc (.cells (ae (aP nn) ⟨⟨xA,xB,xC⟩,⟨xD,xE,xF⟩,⟨xG,xH,xI⟩,⟨xJ,xK,xL⟩,⟨xM,xN,xO⟩⟩) 30)).alloc (.cells (ae s ⟨⟨yA,yB,yC⟩,⟨yD,yE,yF⟩,⟨yG,yH,yI⟩,⟨yJ,yK,yL⟩,⟨yM,yN,yO⟩⟩) 30))
 clear R0 hc2 k2 kZ hz o0 o1 ss hlb su sr hlen HC
 generalize ((w2.alloc (.cells (ae (aP nn) ⟨⟨xA,xB,xC⟩,⟨xD,xE,xF⟩,⟨xG,xH,xI⟩,⟨xJ,xK,xL⟩,⟨xM,xN,xO⟩⟩) 30)).alloc (.cells (ae s ⟨⟨yA,yB,yC⟩,⟨yD,yE,yF⟩,⟨yG,yH,yI⟩,⟨yJ,yK,yL⟩,⟨yM,yN,yO⟩⟩) 30))=X2 at *
 generalize w2.heap.size+1=ob at *
 obtain ⟨J8,J9,sv⟩:=sm
 go_upto_block 0 with (go_at_call 49;refine (cl g _ _ D2.out.cur (by omega) (by omega)).mono ?_;rintro e w5 ⟨m,rfl,m0,m1,eP,k5⟩)
 have D5:Hid (DY w w5 g ob ⟨⟨yA,yB,yC⟩,⟨yD,yE,yF⟩,⟨yG,yH,yI⟩,⟨yJ,yK,yL⟩,⟨yM,yN,yO⟩⟩ vs s):=D2.out.but eP k5
 clear D2 eP k5
 go_cut [] (fun wx=>∃ s' v' vs',Hid (DY w wx g ob v' vs' s') /\ qO s')
 case first =>
  have SZ:qO s:=⟨by omega,by omega,by omega⟩
  cases q0:(m==0)
  rotate_left
  ·go_wp2_with (go_at_call 50;refine (iu (fun _=>True) g [-1,100000,99999,100001] _ _ 4 _ _ _ rfl D5.out.cur rfl (by omega) (by omega) rfl (fun _ _=>trivial)).mono ?_;rintro e w6 ⟨z6,rfl,-,hc6,k6⟩;have D6:=D5.out.but hc6 k6;obtain ⟨_,b1,b2⟩:=D6.box;dsimp only [ae] at b1)
   go_meet
   exact ⟨_,⟨⟨yA,yB,yC⟩,⟨yD,yE,yF⟩,⟨yG,yH,yI⟩,⟨yJ,yK,yL⟩,⟨yM,yN,yO⟩⟩,vs,D6.num z6 s.az s.seq s.missed (k:=0) rfl (by omega),SZ⟩
  cases q1:(m==1)
  rotate_left
  ·go_wp2_with (go_at_call 51;refine (B9 g _ D5.out.cur).mono ?_;rintro e w6 ⟨u6,xs,rfl,dl,hxl⟩;obtain ⟨b6,c6,e6⟩:=dl.sw;subst e6;obtain ⟨n6,mq⟩:∃ n,Hid (xs.length=n):=⟨_,rfl⟩;rw [mq.out] at dl ⊢;have D6:=D5.out.but dl.cur dl.kb;obtain ⟨_,b1,b2⟩:=D6.box;dsimp only [ae] at b1)
   go_meet
   exact ⟨_,_,vs,D5.out.tasks dl.cur dl.kb (x:=⟨some ⟨b6,0,none⟩,n6,c6⟩) dl.own,by unfold bE at sv;exact ⟨by show xs.length <= _;omega,by show s.az <= _;omega,by show xs.length+bR s.ak+s.af.length+s.ax.length+s.trace.length <= _;omega⟩⟩
  cases q2:(m==2)
  rotate_left
  ·go_wp2_with (go_at_call 52;refine (Ca g _ D5.out.cur).mono ?_;rintro e w6 ⟨u6,ls,rfl,dk,hl1,hl2,hl3⟩;obtain ⟨eD,M6⟩:=dk.mine;obtain ⟨a6,c6,e6,-,-⟩:=M6.gT;subst e6;obtain ⟨n6,mq⟩:∃ n,Hid (ls.length=n):=⟨_,rfl⟩;rw [mq.out] at M6 ⊢;have D6:=D5.out.but dk.cur dk.kb;obtain ⟨_,b1,b2⟩:=D6.box;dsimp only [ae] at b1)
   go_meet
   exact ⟨_,_,eD,D5.out.ak dk.cur dk.kb (x:=⟨a6,n6,c6⟩) M6,by unfold bE at sv;exact ⟨by show s.tasks.length <= _;omega,by show s.az <= _;omega,by show s.tasks.length+bR ls+s.af.length+s.ax.length+s.trace.length <= _;omega⟩⟩
  have Cb:=sv
  unfold bE at Cb
  have e0:∀ w',aq w' ob (ae s ⟨⟨yA,yB,yC⟩,⟨yD,yE,yF⟩,⟨yG,yH,yI⟩,⟨yJ,yK,yL⟩,⟨yM,yN,yO⟩⟩)->∀ q,w'.cell? ⟨ob,q,none⟩=(ae s ⟨⟨yA,yB,yC⟩,⟨yD,yE,yF⟩,⟨yG,yH,yI⟩,⟨yJ,yK,yL⟩,⟨yM,yN,yO⟩⟩)[q]?:=fun w' hh=>hh.cells
  dsimp only [ae] at e0
  cases q3:(m==3)
  rotate_left
  ·have D0:=D5.out.keeps (aa.refl w5).drew
   have hgh:s.af.length <= 3000:=by omega
   go_upto_region 10 with fail
   refine kt 12 (S:=(fun w'=>aq w' ob (ae s ⟨⟨yA,yB,yC⟩,⟨yD,yE,yF⟩,⟨yG,yH,yI⟩,⟨yJ,yK,yL⟩,⟨yM,yN,yO⟩⟩))) (by kernel_rfl) ?_ (fun hHeld => ?_)
   ·exact D5.out.box.keeps (aa.refl _).drew
   refine ad.go [0,1,2,4,6] ?_
   iterate 5 (refine gN (h := ?_);try simp only [au])
   refine ad.nil ?_
   refine gy (i:=3) (h:=fun K hK => ?_)
   go_simp
   first
    | (go_at_call 49;refine (cl g _ _ D0.cur (by omega) (by omega)).mono ?_;rintro e wA ⟨mA,rfl,qP,qQ,hcA,kA⟩;have DA:=D0.but hcA kA;have BA:=DA.box;clear D0)
    | (go_at_call 53;refine (sx g _ DA.cur).mono ?_;rintro e wB ⟨qB,pB,rfl,hcB,kB⟩;have DB:=DA.but hcB kB;have BB:=DB.box;clear DA)
    | (go_at_call 49;refine (cl g _ _ DB.cur (by omega) (by omega)).mono ?_;rintro e wC ⟨mC,rfl,vA,vB,hcC,kC⟩;have DC:=DB.but hcC kC;have BC:=DC.box;clear DB)
   try go_wp2_with fail
   refine hK.out _ _ ?_ fun hHeld => ?_
   ·assumption
   clear hK K
   try simp only [au]
   refine gy (i:=5) (h:=fun K hK => ?_)
   go_simp
   first
    | (go_at_call 49;refine (cl g _ _ D0.cur (by omega) (by omega)).mono ?_;rintro e wA ⟨mA,rfl,qP,qQ,hcA,kA⟩;have DA:=D0.but hcA kA;have BA:=DA.box;clear D0)
    | (go_at_call 53;refine (sx g _ DA.cur).mono ?_;rintro e wB ⟨qB,pB,rfl,hcB,kB⟩;have DB:=DA.but hcB kB;have BB:=DB.box;clear DA)
    | (go_at_call 49;refine (cl g _ _ DB.cur (by omega) (by omega)).mono ?_;rintro e wC ⟨mC,rfl,vA,vB,hcC,kC⟩;have DC:=DB.but hcC kC;have BC:=DC.box;clear DB)
   try go_wp2_with fail
   refine hK.out _ _ ?_ fun hHeld => ?_
   ·assumption
   clear hK K
   try simp only [au]
   refine gy (i:=7) (h:=fun K hK => ?_)
   go_simp
   first
    | (go_at_call 49;refine (cl g _ _ D0.cur (by omega) (by omega)).mono ?_;rintro e wA ⟨mA,rfl,qP,qQ,hcA,kA⟩;have DA:=D0.but hcA kA;have BA:=DA.box;clear D0)
    | (go_at_call 53;refine (sx g _ DA.cur).mono ?_;rintro e wB ⟨qB,pB,rfl,hcB,kB⟩;have DB:=DA.but hcB kB;have BB:=DB.box;clear DA)
    | (go_at_call 49;refine (cl g _ _ DB.cur (by omega) (by omega)).mono ?_;rintro e wC ⟨mC,rfl,vA,vB,hcC,kC⟩;have DC:=DB.but hcC kC;have BC:=DC.box;clear DB)
   try go_wp2_with fail
   refine hK.out _ _ ?_ fun hHeld => ?_
   ·assumption
   clear hK K
   try simp only [au]
   refine ad.go [8] ?_
   iterate 1 (refine gN (h := ?_);try simp only [au])
   refine ad.nil ?_
   refine gy (i:=9) (h:=fun K hK => ?_)
   go_simp
   try go_wp2_with fail
   refine hK.out _ _ ?_ fun hHeld => ?_
   ·exact BC.keeps ((aa.refl _).alloc _)
   clear hK K
   try simp only [au]
   refine gy (i:=10) (h:=fun K hK => ?_)
   (refine mr rfl (.tmp 37) (.tmp 45) 26 rfl (w.heap.size+1) 87 (.agg (cP Gh.zero)) 4 32 cP Tryz.underlying26 (by kernel_rfl) rfl (by decide) ia nR (.slice yG yH yI) s.af (by simp [Act.eval]) (DC.own.g.keeps ((aa.refl _).alloc _)) (by have:=DC.res.lt;simp;omega) [⟨mA,qB,pB,mC⟩] _ 0 1 (nS (aq.new _ _ _)) (by simp [Act.eval]) (by simp [maxLen];omega) (by simp;omega) ?_;intro v7 w7 o7 g7 f7;obtain ⟨a7,c7,e7⟩:=o7.form ia;obtain ⟨m7,jy⟩:∃ m,Hid ((s.af++[(⟨mA,qB,pB,mC⟩:Gh)]).length=m):=⟨_,rfl⟩;rw [jy.out] at e7;subst e7;have D7:=(DC.keeps ((aa.refl wC).alloc _)).af (x:=⟨a7,m7,c7⟩) o7 g7 (fun q hq=>(f7 q hq).imp id (fun e=>by rw [e];exact Nat.le_refl _)))
   refine hK.out _ _ ?_ fun hHeld => ?_
   ·exact (DC.box.keeps ((aa.refl wC).alloc _)).grown g7 (fun q e e2=>DC.far 2 (by rw [<- e2];exact e))
   clear hK K
   try simp only [au]
   refine ad.go [11] ?_
   iterate 1 (refine gN (h := ?_);try simp only [au])
   refine ad.nil ?_
   refine ku (h:=fun K hK => ?_)
   have BX:aq w7 ob (ae s ⟨⟨yA,yB,yC⟩,⟨yD,yE,yF⟩,⟨yG,yH,yI⟩,⟨yJ,yK,yL⟩,⟨yM,yN,yO⟩⟩):=(by assumption);obtain ⟨_,z1,z2⟩:=BX;dsimp only [ae] at z1
   go_simp
   try go_wp2_with fail
   refine hK.out _ _ ?_
   clear hK K
   try simp only [au]
   go_wp2
   go_meet
   exact ⟨_,_,vs,D7,by show s.tasks.length <= _;omega,by show s.az <= _;omega,by show s.tasks.length+bR s.ak+(s.af++[(⟨mA,qB,pB,mC⟩:Gh)]).length+s.ax.length+s.trace.length <= _;simp only [List.length_append,List.length_singleton];omega⟩
  cases q4:(m==4)
  rotate_left
  ·have hfl:s.ax.length <= 3000:=by omega
   obtain ⟨_,b1,b2⟩:=D5.out.box
   dsimp only [ae] at b1
   go_wp2_with (at_builtin;(refine qc5 rfl _ _ 27 rfl (w.heap.size+1) 3 (.int .i64 0) 1 8 ic Tryz.underlying27 (by kernel_rfl) rfl (by decide) fq kV _ s.ax rfl (D5.out.own.f.keeps ((aa.refl _).alloc _)) (by have:=D5.out.res.lt;simp;omega) 0 _ 1 (aq.new _ _ _) rfl (by unfold maxLen;omega) (by omega) ?_;intro v7 w7 o7 g7 f7;obtain ⟨a7,c7,e7⟩:=o7.form fq;obtain ⟨m7,jy⟩:∃ m,Hid ((s.ax++[(0:Int)]).length=m):=⟨_,rfl⟩;rw [jy.out] at e7;subst e7;have D7:=(D5.out.keeps ((aa.refl w5).alloc _)).ax (x:=⟨a7,m7,c7⟩) o7 g7 (fun q hq=>(f7 q hq).imp id (fun e=>by rw [e];exact Nat.le_refl _));obtain ⟨_,z1,z2⟩:=(D5.out.box.keeps ((aa.refl w5).alloc _)).grown g7 (fun q e e2=>D5.out.far 3 (by rw [<- e2];exact e));dsimp only [ae] at z1))
   go_meet
   exact ⟨_,_,vs,D7,by show s.tasks.length <= _;omega,by show s.az <= _;omega,by show s.tasks.length+bR s.ak+s.af.length+(s.ax++[(0:Int)]).length+s.trace.length <= _;simp only [List.length_append,List.length_singleton];omega⟩
  cases q5:(m==5)
  rotate_left
  ·go_wp2_with (go_at_call 50;refine (iu (fun _=>True) g [-1,900000,900001,1000001] _ _ 4 _ _ _ rfl D5.out.cur rfl (by omega) (by omega) rfl (fun _ _=>trivial)).mono ?_;rintro e w6 ⟨z6,rfl,-,hc6,k6⟩;have D6:=D5.out.but hc6 k6;obtain ⟨_,b1,b2⟩:=D6.box;dsimp only [ae] at b1)
   go_meet
   exact ⟨_,⟨⟨yA,yB,yC⟩,⟨yD,yE,yF⟩,⟨yG,yH,yI⟩,⟨yJ,yK,yL⟩,⟨yM,yN,yO⟩⟩,vs,D6.num s.now s.az z6 s.missed (k:=6) rfl (by omega),SZ⟩
  cases q6:(m==6)
  rotate_left
  ·go_wp2_with (go_at_call 50;refine (iu (fun _=>True) g [-1,5,100000] _ _ 3 _ _ _ rfl D5.out.cur rfl (by omega) (by omega) rfl (fun _ _=>trivial)).mono ?_;rintro e w6 ⟨z6,rfl,-,hc6,k6⟩;have D6:=D5.out.but hc6 k6;obtain ⟨_,b1,b2⟩:=D6.box;dsimp only [ae] at b1)
   go_meet
   exact ⟨_,⟨⟨yA,yB,yC⟩,⟨yD,yE,yF⟩,⟨yG,yH,yI⟩,⟨yJ,yK,yL⟩,⟨yM,yN,yO⟩⟩,vs,D6.num s.now s.az s.seq z6 (k:=7) rfl (by omega),SZ⟩
  cases q7:(m==7)
  rotate_left
  ·have Hr:Hid (s.trace.length=yN):=(D5.out.own.r.row iv).1
   have hrn:yN <= 3000:=by have:=Hr.out;omega
   go_wp2_with fail
   go_loopw [] (fun wr=>∃ (tr:List Tn) (ta:Option Addr) (tl tcp:Nat),Hid (DY w wr g ob ⟨⟨yA,yB,yC⟩,⟨yD,yE,yF⟩,⟨yG,yH,yI⟩,⟨yJ,yK,yL⟩,⟨ta,tl,tcp⟩⟩ vs { (s:Sy) with trace:=tr }) /\ Hid (tr.length=tl) /\ tl <= max yN 401) (fun wr=>402 - lN wr ob)
   case atStart=>exact ⟨s.trace,yM,yN,yO,D5,Hr,by omega⟩
   case round =>
    obtain ⟨tr,ta,tl,tcp,D,HL,htl⟩:=hrel
    clear e0
    have D0:=D.out.keeps (aa.refl wr).drew
    have L0:Hid (lN wr ob=tl):=by show lN wr ob=tl;unfold lN;rw [D.out.box.cells 8];rfl
    have e0:∀ w',aq w' ob (ae { (s:Sy) with trace:=tr } ⟨⟨yA,yB,yC⟩,⟨yD,yE,yF⟩,⟨yG,yH,yI⟩,⟨yJ,yK,yL⟩,⟨ta,tl,tcp⟩⟩)->∀ q,w'.cell? ⟨ob,q,none⟩=(ae { (s:Sy) with trace:=tr } ⟨⟨yA,yB,yC⟩,⟨yD,yE,yF⟩,⟨yG,yH,yI⟩,⟨yJ,yK,yL⟩,⟨ta,tl,tcp⟩⟩)[q]?:=fun w' hh=>hh.cells
    dsimp only [ae] at e0
    go_upto_region 18 with fail
    refine wp_region_held_drew (S:=(fun w'=>aq w' ob (ae { (s:Sy) with trace:=tr } ⟨⟨yA,yB,yC⟩,⟨yD,yE,yF⟩,⟨yG,yH,yI⟩,⟨yJ,yK,yL⟩,⟨ta,tl,tcp⟩⟩))) (by kernel_rfl) ?_ (fun hHeld => ?_)
    ·exact D0.box
    refine ad.go [0,1,2,3] ?_
    iterate 4 (refine aM (h := ?_);try simp only [au])
    refine ad.nil ?_
    refine aR 4 (h:=fun K hK => ?_)
    go_simp
    (go_at_call 49;refine (cl g _ _ D0.cur (by omega) (by omega)).mono ?_;rintro e w6 ⟨z6,rfl,z60,z61,hc6,k6⟩;have D6:=D0.but hc6 k6;have B6:=D6.box;have hwz:IntKind.i64.wrap (400+z6)=400+z6:=Go.IntWalk.i64_in _ (by omega);clear D0)
    try go_wp2_with fail
    refine hK.out _ _ ?_ fun hHeld => ?_
    ·assumption
    clear hK K
    try simp only [au]
    refine ad.go [5,6] ?_
    iterate 2 (refine aM (h := ?_);try simp only [au])
    refine ad.nil ?_
    refine wpAnyH_done (by kernel_rfl) ?_ _
    have htr:tr.length <= 3500:=by rw [HL.out];omega
    cases hd:decide ((tl:Int) < 400+z6)
    rotate_left
    ·have hlt:(tl:Int) < 400+z6:=of_decide_eq_true hd
     obtain ⟨_,b1,b2⟩:=D6.box
     dsimp only [ae] at b1
     go_wp2_with (at_builtin;(refine qc5 rfl _ _ 28 rfl (w.heap.size+1) 104 (.agg (dX Tn.zero)) 3 24 dX Tryz.underlying28 (by kernel_rfl) rfl (by decide) iv nT _ tr rfl (D6.own.r.keeps ((aa.refl _).alloc _)) (by have:=D6.res.lt;simp;omega) Tn.zero _ 1 (aq.new _ _ _) rfl (by unfold maxLen;omega) (by omega) ?_;intro v7 w7 o7 g7 f7;obtain ⟨a7,c7,e7⟩:=o7.form iv;obtain ⟨m7,jy⟩:∃ m,Hid ((tr++[Tn.zero]).length=m):=⟨_,rfl⟩;rw [jy.out] at e7;subst e7;have D7:=(D6.keeps ((aa.refl w6).alloc _)).trace (x:=⟨a7,m7,c7⟩) o7 g7 (fun q hq=>(f7 q hq).imp id (fun e=>by rw [e];exact Nat.le_refl _));obtain ⟨_,z1,z2⟩:=(D6.box.keeps ((aa.refl w6).alloc _)).grown g7 (fun q e e2=>D6.far 4 (by rw [<- e2];exact e));dsimp only [ae] at z1))
     have sy:m7=tl+1:=by rw [<- jy.out,List.length_append,HL.out];rfl
     refine ⟨⟨tr++[Tn.zero],a7,m7,c7,D7,jy,by omega⟩,?_⟩
     have L1:lN (w7.setCell ⟨ob,8,none⟩ (.slice a7 m7 c7)) ob=m7:=by unfold lN;rw [D7.box.cells 8];rfl
     have Cc:=L0.out
     have:402 - lN (w7.setCell ⟨ob,8,none⟩ (.slice a7 m7 c7)) ob < 402 - lN wr ob:=by rw [L1,Cc];omega
     exact this
    ·go_wp2
     go_meet
     exact ⟨_,_,vs,D6,by show s.tasks.length <= _;omega,by show s.az <= _;omega,by show s.tasks.length+bR s.ak+s.af.length+s.ax.length+tr.length <= _;have:=HL.out;have:=Hr.out;omega⟩
  cases q8:(m==8)
  rotate_left
  ·go_wp2_with (go_at_call 49;refine (cl g _ _ D5.out.cur (by omega) (by omega)).mono ?_;rintro e w6 ⟨z6,rfl,z60,z61,hc6,k6⟩;have D6:=D5.out.but hc6 k6;obtain ⟨_,b1,b2⟩:=D6.box;dsimp only [ae] at b1)
   go_meet
   exact ⟨_,⟨⟨yA,yB,yC⟩,⟨yD,yE,yF⟩,⟨yG,yH,yI⟩,⟨yJ,yK,yL⟩,⟨yM,yN,yO⟩⟩,vs,D6.num s.now z6 s.seq s.missed (k:=1) rfl (by omega),⟨by show s.tasks.length <= _;omega,by show z6 <= _;omega,by show bE s <= _;omega⟩⟩
  cases q9:(m==9)
  rotate_left
  ·have Hn:Hid (s.tasks.length=yB):=(D5.out.own.t.row cF).1
   obtain ⟨_,b1,b2⟩:=D5.out.box
   dsimp only [ae] at b1
   by_cases h0:(0:Int) < (yB:Int)
   ·obtain ⟨tb,htb⟩:=D5.out.own.aW (k:=0) (by rw [Hn.out];omega)
    dsimp only at htb
    subst htb
    go_upto_region 24 with fail
    have D0:=D5.out.keeps (aa.refl w5).drew
    have htl:(yB:Int) <= 256:=by have:=Hn.out;omega
    have pj:1 <= (yB:Int):=by omega
    clear b1 b2
    refine kt 10 (S:=(fun w'=>aq w' ob (ae s ⟨⟨some ⟨tb,0,none⟩,yB,yC⟩,⟨yD,yE,yF⟩,⟨yG,yH,yI⟩,⟨yJ,yK,yL⟩,⟨yM,yN,yO⟩⟩))) (by kernel_rfl) ?_ (fun hHeld => ?_)
    ·exact D0.box
    refine ad.go [0,1,2,3,4,5,7] ?_
    iterate 7 (refine gN (h := ?_);try simp only [au])
    refine ad.nil ?_
    refine gy (i:=6) (h:=fun K hK => ?_)
    go_simp
    first
     | (go_at_call 49;refine (cl g _ _ D0.cur pj htl).mono ?_;rintro e wA ⟨mA,rfl,qP,qQ,hcA,kA⟩;obtain ⟨j,rfl⟩:∃ j:Nat,mA=(j:Int):=⟨mA.toNat,by omega⟩;have DA:=D0.but hcA kA;have BA:=DA.box;clear D0)
     | (go_at_call 54;refine (sA g _ DA.cur).mono ?_;rintro e wB ⟨tB,rfl,hcB,kB⟩;have DB:=DA.but hcB kB;have BB:=DB.box;clear DA)
    try go_wp2_with fail
    refine hK.out _ _ ?_ fun hHeld => ?_
    ·assumption
    clear hK K
    try simp only [au]
    refine gy (i:=8) (h:=fun K hK => ?_)
    go_simp
    first
     | (go_at_call 49;refine (cl g _ _ D0.cur pj htl).mono ?_;rintro e wA ⟨mA,rfl,qP,qQ,hcA,kA⟩;obtain ⟨j,rfl⟩:∃ j:Nat,mA=(j:Int):=⟨mA.toNat,by omega⟩;have DA:=D0.but hcA kA;have BA:=DA.box;clear D0)
     | (go_at_call 54;refine (sA g _ DA.cur).mono ?_;rintro e wB ⟨tB,rfl,hcB,kB⟩;have DB:=DA.but hcB kB;have BB:=DB.box;clear DA)
    try go_wp2_with fail
    refine hK.out _ _ ?_ fun hHeld => ?_
    ·assumption
    clear hK K
    try simp only [au]
    refine ad.go [9] ?_
    iterate 1 (refine gN (h := ?_);try simp only [au])
    refine ad.nil ?_
    refine ku (h:=fun K hK => ?_)
    obtain ⟨x,hx⟩:=cd (xs:=s.tasks) (k:=j) (by rw [Hn.out];omega);obtain ⟨z1,z2⟩:=DB.own.aJ (rb:=tb) rfl (k:=j) hx;have y0:wB.cell? ⟨tb,j*14,none⟩=some (.int .i64 x.no):=z1 0 (by omega);have D7:=DB.task (tb:=tb) rfl (k:=j) (cZ hx) tB
    go_simp
    try go_wp2_with fail
    refine hK.out _ _ ?_
    clear hK K
    try simp only [au]
    go_wp2
    go_meet
    exact ⟨_,_,vs,D7,by show (s.tasks.set j tB).length <= _;simp;omega,by show s.az <= _;omega,by show (s.tasks.set j tB).length+bR s.ak+s.af.length+s.ax.length+s.trace.length <= _;simp only [List.length_set];omega⟩
   ·go_wp2
    go_meet
    exact ⟨s,⟨⟨yA,yB,yC⟩,⟨yD,yE,yF⟩,⟨yG,yH,yI⟩,⟨yJ,yK,yL⟩,⟨yM,yN,yO⟩⟩,vs,D5,SZ⟩
  go_wp2
  go_meet
  exact ⟨s,⟨⟨yA,yB,yC⟩,⟨yD,yE,yF⟩,⟨yG,yH,yI⟩,⟨yJ,yK,yL⟩,⟨yM,yN,yO⟩⟩,vs,D5,SZ⟩
 case rest =>
 obtain ⟨s',v',vs',D9,SZ⟩:=hcut
 generalize wc=w9 at *
 obtain ⟨⟨zA,zB,zC⟩,⟨zD,zE,zF⟩,⟨zG,zH,zI⟩,⟨zJ,zK,zL⟩,⟨zM,zN,zO⟩⟩:=v'
 obtain ⟨_,b1,b2⟩:=D9.out.box
 dsimp only [ae] at b1
 obtain ⟨_,r1,r2⟩:=D9.out.res
 obtain ⟨E1,E2,E3,E4⟩:=D9.out.told
 go_wp2
 change bodyPost _ _ _ _ _ (putC w9 w.heap.size 0 (ae (s':Sy) ⟨⟨zA,zB,zC⟩,⟨zD,zE,zF⟩,⟨zG,zH,zI⟩,⟨zJ,zK,zL⟩,⟨zM,zN,zO⟩⟩).toList)
 generalize putC w9 w.heap.size 0 (ae (s':Sy) ⟨⟨zA,zB,zC⟩,⟨zD,zE,zF⟩,⟨zG,zH,zI⟩,⟨zJ,zK,zL⟩,⟨zM,zN,zO⟩⟩).toList=Q at E1 E2 E3 E4 ⊢
 exact bodyPost_ret (v := .agg (ae (s':Sy) ⟨⟨zA,zB,zC⟩,⟨zD,zE,zF⟩,⟨zG,zH,zI⟩,⟨zJ,zK,zL⟩,⟨zM,zN,zO⟩⟩)) (by simp [results,Tryz.results22,go_sem,E1.cells]) rfl ⟨s',⟨⟨zA,zB,zC⟩,⟨zD,zE,zF⟩,⟨zG,zH,zI⟩,⟨zJ,zK,zL⟩,⟨zM,zN,zO⟩⟩,vs',rfl,E2,SZ,E3,E4⟩
end Go.Proofs.YteagpjlgjfaclaaGreatDoor
