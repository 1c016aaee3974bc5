/-
  Drawn systems: a new system, what is asked of it, and what
-/
import Derived.Test.YteagpjlgjfaclaaGreatDoorCallDraw1
import Derived.Test.YteagpjlgjfaclaaGreatDoorCallSys
import Derived.Test.YteagpjlgjfaclaaGreatDoorDraw1
import Derived.Test.YteagpjlgjfaclaaGreatDoorSysNewS
import Derived.Deep.Cut
namespace Go.Proofs.YteagpjlgjfaclaaGreatDoor
set_option maxRecDepth 100000
open Go.RowKit
theorem Fc (c:Cl):∀ u∈(cc c).toList,u.oneCell'=true:=by
 intro u hu
 simp at hu
 rcases hu with rfl | rfl | rfl | rfl | rfl <;> rfl
structure DV (w wr:World) (g lb sb ob:Nat) (v0:Sv) (cf:List Lv) (s0:Sy) (v:Sv) (vs:List Lv) (s:Sy) (u:Value) (cs:List Cl):Prop where
 cur:bj wr g
 kb:ab g w wr
 gl:g < w.heap.size
 r1:ai wr w.heap.size zc
 r2:ai wr (w.heap.size+1) zc
 st:ay wr (w.heap.size+2) v0 cf s0
 px:ai wr sb (ae s0 v0)
 own:ay wr (w.heap.size+2) v vs s
 box:ai wr ob (ae s v)
 row:Own 32 5 cc wr lb u cs
 py:∀ i b,bp v0 cf i b->b < sb
 ord:w.heap.size+2 <= sb /\ sb < ob /\ ob < lb
 far:∀ i,¬ bp v vs i ob
 ap:∀ i b,bp v vs i b->u.ownBlock≠some b
 sV:lb <= wr.heap.size
section
variable {w wr:World} {g lb sb ob:Nat} {v0:Sv} {cf:List Lv} {s0:Sy} {v:Sv} {vs:List Lv} {s:Sy} {u:Value} {cs:List Cl}
theorem DV.but (h:DV w wr g lb sb ob v0 cf s0 v vs s u cs) {wr':World} (hc:bj wr' g) (k:ab g wr wr'):DV w wr' g lb sb ob v0 cf s0 v vs s u cs:=by
 have hg:=h.gl
 have ho:=h.ord
 exact ⟨hc,h.kb.trans k,hg,h.r1.but k (by omega),h.r2.but k (by omega),h.st.cE k (by omega),h.px.but k (by omega),h.own.cE k (by omega),h.box.but k (by omega),h.row.cE k (by omega),h.py,ho,h.far,h.ap,Nat.le_trans h.sV k.size⟩
theorem DV.keeps (h:DV w wr g lb sb ob v0 cf s0 v vs s u cs) {wr':World} (k:aa wr wr'):DV w wr' g lb sb ob v0 cf s0 v vs s u cs:=h.but (h.cur.keeps k) (.of k)
theorem DV.push (h:DV w wr g lb sb ob v0 cf s0 v vs s u cs) {w2:World} {u':Value} {cs':List Cl} (O:Own 32 5 cc w2 lb u' cs') (G:wr.grownBy w2 u.ownBlock) (f:∀ q,u'.ownBlock=some q->u.ownBlock=some q∨q=wr.heap.size):DV w w2 g lb sb ob v0 cf s0 v vs s u' cs':=by
 have hg:=h.gl
 have ho:=h.ord
 have hb:∀ q,u.ownBlock=some q->lb <= q:=fun q hq=>(h.row.cD q hq).1
 refine ⟨h.cur.grown G (fun k hk=>by have:=hb k hk;omega),h.kb.grown G (fun k hk=>by have:=hb k hk;omega),hg,h.r1.grown G (fun q e e2=>by have:=hb q e;omega),h.r2.grown G (fun q e e2=>by have:=hb q e;omega),?_,h.px.grown G (fun q e e2=>by have:=hb q e;omega),?_,h.box.grown G (fun q e e2=>by have:=hb q e;omega),O,h.py,ho,h.far,?_,Nat.le_trans h.sV G.size⟩
 ·exact h.st.aside G.size fun i b hi=>G.block b (h.st.aG hi).2 (fun e=>by have:=hb b e.symm;have:=h.py i b hi;omega)
 ·exact h.own.aside G.size fun i b hi=>G.block b (h.own.aG hi).2 (fun e=>h.ap i b hi e.symm)
 ·intro i b hi e
  rcases f b e with h1 | h1
  ·exact h.ap i b hi h1
  ·have:=(h.own.aG hi).2
   omega
theorem DV.call (h:DV w wr g lb sb ob v0 cf s0 v vs s u cs) {w1:World} (k:aa wr w1) {v':Sv} {vs':List Lv} {s':Sy} (O:ay w1 wr.heap.size v' vs' s'):DV w (putC w1 ob 0 (ae s' v').toList) g lb sb ob v0 cf s0 v' vs' s' u cs:=by
 have hg:=h.gl
 have ho:=h.ord
 have h1:=h.keeps k
 have hl:=h.box.lt
 have far:∀ i,¬ bp v' vs' i ob:=fun i hi=>by have:=(O.aG hi).1;omega
 have hsz:=h.kb.size
 have hsb:=h.px.lt
 refine ⟨bj.putC (by omega) _ 0 h1.cur,ab.i7 (by omega) _ 0 h1.kb,hg,ai.aU (by omega) _ _ h1.r1,ai.aU (by omega) _ _ h1.r2,ay.aU (fun i hi=>by have:=h.py i ob hi;omega) _ _ h1.st,ai.aU (by omega) _ _ h1.px,ay.aU far _ _ (O.base (by omega)),h1.box.putC _ rfl,Own.im (by omega) _ _ h1.row,h.py,ho,far,?_,Nat.le_trans h1.sV (aK.putC (P:=fun _=>True) trivial _ 0 (aK.refl _ w1)).size⟩
 intro i b hi e
 have h3:=(O.aG hi).1
 have h4:=(h.row.cD b e).2
 omega
structure jQ (sb ob:Nat) (A B:Array Value) (w':World):Prop where
 one:ai w' sb A
 two:ai w' ob B
theorem DV.told (h:DV w wr g lb sb ob v0 cf s0 v vs s u cs) :
  jQ sb ob (ae s0 v0) (ae s v) (putC wr w.heap.size 0 (ae s0 v0).toList) /\ ai (putC wr w.heap.size 0 (ae s0 v0).toList) (w.heap.size+1) zc /\
  jQ sb ob (ae s0 v0) (ae s v) (putC (putC wr w.heap.size 0 (ae s0 v0).toList) (w.heap.size+1) 0 (ae s v).toList) /\
  ai (putC (putC wr w.heap.size 0 (ae s0 v0).toList) (w.heap.size+1) 0 (ae s v).toList) w.heap.size (ae s0 v0) /\ ai (putC (putC wr w.heap.size 0 (ae s0 v0).toList) (w.heap.size+1) 0 (ae s v).toList) (w.heap.size+1) (ae s v) /\
  ay (putC (putC wr w.heap.size 0 (ae s0 v0).toList) (w.heap.size+1) 0 (ae s v).toList) w.heap.size v0 cf s0 /\ ay (putC (putC wr w.heap.size 0 (ae s0 v0).toList) (w.heap.size+1) 0 (ae s v).toList) w.heap.size v vs s /\
  Own 32 5 cc (putC (putC wr w.heap.size 0 (ae s0 v0).toList) (w.heap.size+1) 0 (ae s v).toList) lb u cs /\ bj (putC (putC wr w.heap.size 0 (ae s0 v0).toList) (w.heap.size+1) 0 (ae s v).toList) g /\ ab g w (putC (putC wr w.heap.size 0 (ae s0 v0).toList) (w.heap.size+1) 0 (ae s v).toList):=by
 have ho:=h.ord
 have hg:=h.gl
 have f0:∀ c,c < w.heap.size+2->∀ i,¬ bp v0 cf i c:=fun c hc i hi=>by have:=(h.st.aG hi).1;omega
 have f1:∀ c,c < w.heap.size+2->∀ i,¬ bp v vs i c:=fun c hc i hi=>by have:=(h.own.aG hi).1;omega
 have P1:jQ sb ob (ae s0 v0) (ae s v) (putC wr w.heap.size 0 (ae s0 v0).toList):=⟨ai.aU (by omega) _ _ h.px,ai.aU (by omega) _ _ h.box⟩
 have B1:ai (putC wr w.heap.size 0 (ae s0 v0).toList) (w.heap.size+1) zc:=ai.aU (by omega) _ _ h.r2
 refine ⟨P1,B1,⟨ai.aU (by omega) _ _ P1.one,ai.aU (by omega) _ _ P1.two⟩,ai.aU (by omega) _ _ (h.r1.putC _ rfl),B1.putC _ rfl,(ay.aU (f0 _ (by omega)) _ _ (ay.aU (f0 _ (by omega)) _ _ h.st)).base (by omega),(ay.aU (f1 _ (by omega)) _ _ (ay.aU (f1 _ (by omega)) _ _ h.own)).base (by omega),Own.im (by omega) _ _ (Own.im (by omega) _ _ h.row),bj.putC (by omega) _ 0 (bj.putC (by omega) _ 0 h.cur),ab.i7 (by omega) _ 0 (ab.i7 (by omega) _ 0 h.kb)⟩
end
def Fe (g:Nat) (w:World) (most:Int) (e:Ending) (w':World):Prop:=∃ (n:Int) (cs:List Cl) (v0:Sv) (cf:List Lv) (v:Sv) (vs:List Lv) (a:Option Addr) (cap lb:Nat),
 e = .returned (.tuple #[.agg (ae (aQ n) v0),.slice a cs.length cap,.agg (ae (bU (aQ n) cs) v)]) /\ aF n 1 3=true /\ (∀ c∈cs,sL c) /\ (cs.length:Int) <= most /\ ay w' w.heap.size v0 cf (aQ n) /\ ay w' w.heap.size v vs (bU (aQ n) cs) /\ na (bU (aQ n) cs) /\
 Own 32 5 cc w' lb (.slice a cs.length cap) cs /\ (∀ i b,bp v0 cf i b->b < lb) /\ w.heap.size <= lb /\ bj w' g /\ ab g w w'
set_option linter.unusedSimpArgs false in
set_option maxHeartbeats 20000000 in
theorem Ff {w:World} {g:Nat} (hc:bj w g) (most:Int) (h0:0 <= most) (h1:most <= 255) :
  Calls Tryz.prog 47 #[.pointer (some ⟨g,0,none⟩),.int .i64 most] w (Fe g w most):=by
 have hgl:=hc.lt
 have kZ:aa w ((w.alloc (.cells zc 30)).alloc (.cells zc 30)):=((aa.refl w).alloc _).alloc _
 have R1:Hid (ai ((w.alloc (.cells zc 30)).alloc (.cells zc 30)) w.heap.size zc):=(ai.new _ _ _).alloc _
 have R2:Hid (ai ((w.alloc (.cells zc 30)).alloc (.cells zc 30)) (w.heap.size+1) zc):=by
  have:=ai.new (w.alloc (.cells zc 30)) zc 30
  show ai _ _ _
  simpa using this
 have HC:=hc.keeps kZ
 have hz:Hid (((w.alloc (.cells zc 30)).alloc (.cells zc 30)).heap.size=w.heap.size+2):=by show _=_;simp
 clear hc
 go_enter Tryz.func47,Tryz.ntmps47
 go_upto_region 1 with fail
 change Code.wp _ _ _ _ ((w.alloc (.cells zc 30)).alloc (.cells zc 30))
 generalize (w.alloc (.cells zc 30)).alloc (.cells zc 30)=Z at *
 have K0:ab g Z Z:=ab.refl g Z
 go_upto_region 2 with first
  | (go_at_call 49;refine (cF g _ _ HC (by omega) (by omega)).mono ?_;rintro e w2 ⟨m2,rfl,m20,m21,hc2,k2⟩;have K2:ab g Z w2:=K0.trans k2;clear HC;have hw2:IntKind.i64.wrap (1+m2)=1+m2:=Go.IntWalk.i64_in _ (by omega))
  | (go_at_call 97;refine (qos _ _).mono ?_;rintro e w3 ⟨v3,vs3,rfl,o3,k3⟩;obtain ⟨⟨xA,xB,xC⟩,⟨xD,xE,xF⟩,⟨xG,xH,xI⟩,⟨xJ,xK,xL⟩,⟨xM,xN,xO⟩⟩:=v3)
 obtain ⟨n,Hn⟩:∃ n,Hid (1+m2=n):=⟨_,rfl⟩
 rw [Hn.out] at o3 ⊢
 have hn1:aF n 1 3=true:=dq.2 (by have:=Hn.out;omega)
 have jR:aF n 1 4=true:=dq.2 (by have:=Hn.out;omega)
 have Fg:na (aQ n):=Fh jR
 go_upto_region 4 with fail
 have uD:Hid (DV w (((w3.alloc (.cells (ae (aQ n) ⟨⟨xA,xB,xC⟩,⟨xD,xE,xF⟩,⟨xG,xH,xI⟩,⟨xJ,xK,xL⟩,⟨xM,xN,xO⟩⟩) 30)).alloc (.cells (ae (aQ n) ⟨⟨xA,xB,xC⟩,⟨xD,xE,xF⟩,⟨xG,xH,xI⟩,⟨xJ,xK,xL⟩,⟨xM,xN,xO⟩⟩) 30)).alloc (.cells #[] 32)) g (w3.heap.size+2) w3.heap.size (w3.heap.size+1) ⟨⟨xA,xB,xC⟩,⟨xD,xE,xF⟩,⟨xG,xH,xI⟩,⟨xJ,xK,xL⟩,⟨xM,xN,xO⟩⟩ vs3 (aQ n) ⟨⟨xA,xB,xC⟩,⟨xD,xE,xF⟩,⟨xG,xH,xI⟩,⟨xJ,xK,xL⟩,⟨xM,xN,xO⟩⟩ vs3 (aQ n) (.slice (some ⟨w3.heap.size+2,0,none⟩) 0 0) []):=by
  have hs2:=K2.size
  have hs3:=k3.size
  have kA:aa w3 (((w3.alloc (.cells (ae (aQ n) ⟨⟨xA,xB,xC⟩,⟨xD,xE,xF⟩,⟨xG,xH,xI⟩,⟨xJ,xK,xL⟩,⟨xM,xN,xO⟩⟩) 30)).alloc (.cells (ae (aQ n) ⟨⟨xA,xB,xC⟩,⟨xD,xE,xF⟩,⟨xG,xH,xI⟩,⟨xJ,xK,xL⟩,⟨xM,xN,xO⟩⟩) 30)).alloc (.cells #[] 32)):=(((aa.refl w3).alloc _).alloc _).alloc _
  have hlo:∀ i b,bp ⟨⟨xA,xB,xC⟩,⟨xD,xE,xF⟩,⟨xG,xH,xI⟩,⟨xJ,xK,xL⟩,⟨xM,xN,xO⟩⟩ vs3 i b->w.heap.size+2 <= b /\ b < w3.heap.size:=fun i b hi=>by have:=o3.aG hi;have:=hz.out;omega
  refine ⟨(hc2.keeps k3).keeps kA,((ab.of kZ).trans K2).trans (.of (k3.trans kA)),hgl,((R1.out.but K2 (by omega)).keeps k3).keeps kA,((R2.out.but K2 (by omega)).keeps k3).keeps kA,(o3.base (by have:=hz.out;omega)).keeps kA,((ai.new _ _ _).alloc _).alloc _,(o3.base (by have:=hz.out;omega)).keeps kA,?_,?_,fun i b hi=>(hlo i b hi).2,by have:=hz.out;omega,fun i hi=>by have:=hlo i _ hi;omega,fun i b hi e=>by have:=hlo i b hi;simp [Value.ownBlock] at e;omega,by simp⟩
  ·have:=(ai.new (w3.alloc (.cells (ae (aQ n) ⟨⟨xA,xB,xC⟩,⟨xD,xE,xF⟩,⟨xG,xH,xI⟩,⟨xJ,xK,xL⟩,⟨xM,xN,xO⟩⟩) 30)) (ae (aQ n) ⟨⟨xA,xB,xC⟩,⟨xD,xE,xF⟩,⟨xG,xH,xI⟩,⟨xJ,xK,xL⟩,⟨xM,xN,xO⟩⟩) 30).alloc (.cells #[] 32)
   simpa using this
  ·have:=Own.new 32 5 cc ((w3.alloc (.cells (ae (aQ n) ⟨⟨xA,xB,xC⟩,⟨xD,xE,xF⟩,⟨xG,xH,xI⟩,⟨xJ,xK,xL⟩,⟨xM,xN,xO⟩⟩) 30)).alloc (.cells (ae (aQ n) ⟨⟨xA,xB,xC⟩,⟨xD,xE,xF⟩,⟨xG,xH,xI⟩,⟨xJ,xK,xL⟩,⟨xM,xN,xO⟩⟩) 30)) (Nat.le_refl _)
   simpa using this
 change Code.wp _ _ _ _ (((w3.alloc (.cells (ae (aQ n) ⟨⟨xA,xB,xC⟩,⟨xD,xE,xF⟩,⟨xG,xH,xI⟩,⟨xJ,xK,xL⟩,⟨xM,xN,xO⟩⟩) 30)).alloc (.cells (ae (aQ n) ⟨⟨xA,xB,xC⟩,⟨xD,xE,xF⟩,⟨xG,xH,xI⟩,⟨xJ,xK,xL⟩,⟨xM,xN,xO⟩⟩) 30)).alloc (.cells #[] 32))
 clear R1 R2 hc2 K2 K0 kZ hz o3 k3
 generalize (((w3.alloc (.cells (ae (aQ n) ⟨⟨xA,xB,xC⟩,⟨xD,xE,xF⟩,⟨xG,xH,xI⟩,⟨xJ,xK,xL⟩,⟨xM,xN,xO⟩⟩) 30)).alloc (.cells (ae (aQ n) ⟨⟨xA,xB,xC⟩,⟨xD,xE,xF⟩,⟨xG,xH,xI⟩,⟨xJ,xK,xL⟩,⟨xM,xN,xO⟩⟩) 30)).alloc (.cells #[] 32))=X4 at *
 generalize w3.heap.size=n3 at *
 have Ph:IntKind.i64.wrap (most+1)=most+1:=Go.IntWalk.i64_in _ (by omega)
 go_wp2_with (go_at_call 49;refine (cF g _ _ uD.out.cur (by omega) (by omega)).mono ?_;rintro e w5 ⟨nn,rfl,Pj,Pk,fD,k5⟩)
 obtain ⟨N,rfl⟩:∃ N:Nat,nn=(N:Int):=⟨nn.toNat,by omega⟩
 have D5:Hid (DV w w5 g (n3+2) n3 (n3+1) ⟨⟨xA,xB,xC⟩,⟨xD,xE,xF⟩,⟨xG,xH,xI⟩,⟨xJ,xK,xL⟩,⟨xM,xN,xO⟩⟩ vs3 (aQ n) ⟨⟨xA,xB,xC⟩,⟨xD,xE,xF⟩,⟨xG,xH,xI⟩,⟨xJ,xK,xL⟩,⟨xM,xN,xO⟩⟩ vs3 (aQ n) (.slice (some ⟨n3+2,0,none⟩) 0 0) []):=uD.out.but fD k5
 clear uD fD k5
 go_loopw [10,12] (fun u i wr=>∃ (k:Nat) (cs:List Cl) (v:Sv) (vs:List Lv),k <= N /\ i = .int .i64 k /\ Hid (cs.length=k) /\ Hid (DV w wr g (n3+2) n3 (n3+1) ⟨⟨xA,xB,xC⟩,⟨xD,xE,xF⟩,⟨xG,xH,xI⟩,⟨xJ,xK,xL⟩,⟨xM,xN,xO⟩⟩ vs3 (aQ n) v vs (bU (aQ n) cs) u cs) /\ Hid (∀ c∈cs,sL c) /\ na (bU (aQ n) cs)) (fun _ i _=>N - (intOf i).toNat)
 case atStart=>exact ⟨0,[],⟨⟨xA,xB,xC⟩,⟨xD,xE,xF⟩,⟨xG,xH,xI⟩,⟨xJ,xK,xL⟩,⟨xM,xN,xO⟩⟩,vs3,Nat.zero_le _,rfl,rfl,D5,fun c hc=>by simp at hc,Fg⟩
 case round =>
  obtain ⟨k,cs,v,vs,hk,rfl,HL,D,HF,SM⟩:=hrel
  clear D5
  obtain ⟨⟨yA,yB,yC⟩,⟨yD,yE,yF⟩,⟨yG,yH,yI⟩,⟨yJ,yK,yL⟩,⟨yM,yN,yO⟩⟩:=v
  by_cases hlt:k < N
  ·have hlt':(k:Int) < (N:Int):=by omega
   have DD:=D.out
   obtain ⟨_,b1,b2⟩:=DD.box
   dsimp only [ae] at b1
   obtain ⟨Fi,Fj,Fk⟩:=SM
   go_upto_region 9 with (go_at_call 24;refine (uy DD.cur DD.own (by have:=DD.gl;omega) (by omega) (by omega)).mono ?_;rintro e w6 ⟨x,rfl,hx,hc6,k6⟩)
   have D6:Hid (DV w (w6.alloc (.cells (cc x) 32)) g (n3+2) n3 (n3+1) ⟨⟨xA,xB,xC⟩,⟨xD,xE,xF⟩,⟨xG,xH,xI⟩,⟨xJ,xK,xL⟩,⟨xM,xN,xO⟩⟩ vs3 (aQ n) ⟨⟨yA,yB,yC⟩,⟨yD,yE,yF⟩,⟨yG,yH,yI⟩,⟨yJ,yK,yL⟩,⟨yM,yN,yO⟩⟩ vs (bU (aQ n) cs) u10 cs):=(DD.but hc6 k6).keeps ((aa.refl w6).alloc _)
   have X6:Hid (ai (w6.alloc (.cells (cc x) 32)) w6.heap.size (cc x)):=ai.new _ _ _
   have Q6:Hid (∀ q,Value.ownBlock u10=some q->q < w6.heap.size):=fun q hq=>Nat.lt_of_lt_of_le (DD.row.cD q hq).2 k6.size
   change Code.wp _ _ _ _ (w6.alloc (.cells (cc x) 32))
   clear DD b1 b2 hc6 k6 D
   generalize w6.alloc (.cells (cc x) 32)=Y6 at *
   generalize w6.heap.size=xb at *
   obtain ⟨_,x1,x2⟩:=X6.out
   go_upto_region 10 with (at_builtin;(refine nc rfl _ _ 94 rfl (n3+2) 32 (.agg dX) 5 40 cc Tryz.underlying94 (by kernel_rfl) rfl (by decide) yV Fc _ cs rfl (D6.out.row.keeps ((aa.refl _).alloc _)) (by have:=D6.out.sV;simp;omega) x _ 1 (ai.new _ _ _) rfl (by have:=HL.out;unfold maxLen;omega) (by have:=HL.out;omega) ?_;intro u7 w7 o7 g7 f7))
   have D7:Hid (DV w w7 g (n3+2) n3 (n3+1) ⟨⟨xA,xB,xC⟩,⟨xD,xE,xF⟩,⟨xG,xH,xI⟩,⟨xJ,xK,xL⟩,⟨xM,xN,xO⟩⟩ vs3 (aQ n) ⟨⟨yA,yB,yC⟩,⟨yD,yE,yF⟩,⟨yG,yH,yI⟩,⟨yJ,yK,yL⟩,⟨yM,yN,yO⟩⟩ vs (bU (aQ n) cs) u7 (cs++[x])):=(D6.out.keeps ((aa.refl _).alloc _)).push o7 g7 f7
   have X7:Hid (ai w7 xb (cc x)):=(X6.out.keeps ((aa.refl _).alloc _)).grown g7 (fun q e e2=>by have:=Q6.out q e;omega)
   clear D6 X6 Q6 x1 x2 o7 g7 f7
   have DD:=D7.out
   obtain ⟨_,b1,b2⟩:=DD.box
   dsimp only [ae] at b1
   obtain ⟨_,x1,x2⟩:=X7.out
   obtain ⟨cn,sW⟩:∃ z,Hid (fK (bU (aQ n) cs) x=z):=⟨_,rfl⟩
   obtain ⟨cS,uF⟩:∃ z,Hid (eQ (bU (aQ n) cs) x=z):=⟨_,rfl⟩
   have SC:Hid (Calls Tryz.prog 12 #[.agg (ae (bU (aQ n) cs) ⟨⟨yA,yB,yC⟩,⟨yD,yE,yF⟩,⟨yG,yH,yI⟩,⟨yJ,yK,yL⟩,⟨yM,yN,yO⟩⟩),ck x] w7 (Told w7 cS cn)):=by
    have:=yW (DD.own.on (by omega)) x
    rw [sW.out,uF.out] at this
    exact this
   go_upto_region 11 with (go_at_call 12;refine SC.out.mono ?_;rintro e w8 ⟨v8,pz,rfl,o8,k8⟩;obtain ⟨⟨zA,zB,zC⟩,⟨zD,zE,zF⟩,⟨zG,zH,zI⟩,⟨zJ,zK,zL⟩,⟨zM,zN,zO⟩⟩:=v8)
   have KY:aa w7 (w8.alloc (.cells (ae (cS:Sy) ⟨⟨zA,zB,zC⟩,⟨zD,zE,zF⟩,⟨zG,zH,zI⟩,⟨zJ,zK,zL⟩,⟨zM,zN,zO⟩⟩) 30)):=k8.alloc _
   have O8:Hid (ay (w8.alloc (.cells (ae (cS:Sy) ⟨⟨zA,zB,zC⟩,⟨zD,zE,zF⟩,⟨zG,zH,zI⟩,⟨zJ,zK,zL⟩,⟨zM,zN,zO⟩⟩) 30)) w7.heap.size ⟨⟨zA,zB,zC⟩,⟨zD,zE,zF⟩,⟨zG,zH,zI⟩,⟨zJ,zK,zL⟩,⟨zM,zN,zO⟩⟩ pz cS):=o8.keeps ((aa.refl _).alloc _)
   have N8:Hid (ai (w8.alloc (.cells (ae (cS:Sy) ⟨⟨zA,zB,zC⟩,⟨zD,zE,zF⟩,⟨zG,zH,zI⟩,⟨zJ,zK,zL⟩,⟨zM,zN,zO⟩⟩) 30)) w8.heap.size (ae (cS:Sy) ⟨⟨zA,zB,zC⟩,⟨zD,zE,zF⟩,⟨zG,zH,zI⟩,⟨zJ,zK,zL⟩,⟨zM,zN,zO⟩⟩)):=ai.new _ _ _
   have Pl:Hid (n3+1≠w8.heap.size):=by show _≠_;have:=DD.box.lt;have:=k8.size;omega
   change Code.wp _ _ _ _ (w8.alloc (.cells (ae (cS:Sy) ⟨⟨zA,zB,zC⟩,⟨zD,zE,zF⟩,⟨zG,zH,zI⟩,⟨zJ,zK,zL⟩,⟨zM,zN,zO⟩⟩) 30))
   clear b1 b2 x1 x2 o8 k8 SC
   generalize w8.alloc (.cells (ae (cS:Sy) ⟨⟨zA,zB,zC⟩,⟨zD,zE,zF⟩,⟨zG,zH,zI⟩,⟨zJ,zK,zL⟩,⟨zM,zN,zO⟩⟩) 30)=Y8 at *
   generalize w8.heap.size=nb at *
   have qy:Hid (∀ c∈cs++[x],sL c):=fun c hc=>by
    rcases List.mem_append.1 hc with h | h
    ·exact HF.out c h
    ·simp at h;subst h;exact hx
   have HL2:Hid ((cs++[x]).length=k+1):=by show _=_;rw [List.length_append,HL.out];rfl
   cases e0:(cn==0)
   ·have HR:Hid (bU (aQ n) (cs++[x])=bU (aQ n) cs):=by show _=_;rw [sX,sW.out,e0];rfl
    have D8:Hid (DV w Y8 g (n3+2) n3 (n3+1) ⟨⟨xA,xB,xC⟩,⟨xD,xE,xF⟩,⟨xG,xH,xI⟩,⟨xJ,xK,xL⟩,⟨xM,xN,xO⟩⟩ vs3 (aQ n) ⟨⟨yA,yB,yC⟩,⟨yD,yE,yF⟩,⟨yG,yH,yI⟩,⟨yJ,yK,yL⟩,⟨yM,yN,yO⟩⟩ vs (bU (aQ n) (cs++[x])) u7 (cs++[x])):=by rw [HR.out];exact D7.out.keeps KY
    have uG:na (bU (aQ n) (cs++[x])):=by rw [HR.out];exact ⟨Fi,Fj,Fk⟩
    clear DD D7 HR
    go_wp2
    exact ⟨⟨k+1,cs++[x],⟨⟨yA,yB,yC⟩,⟨yD,yE,yF⟩,⟨yG,yH,yI⟩,⟨yJ,yK,yL⟩,⟨yM,yN,yO⟩⟩,vs,by omega,by go_num,HL2,D8,qy,uG⟩,by simp only [intOf];omega⟩
   ·have HR:Hid (bU (aQ n) (cs++[x])=cS):=by show _=_;rw [sX,sW.out,e0,uF.out];rfl
    have D8:Hid (DV w (putC Y8 (n3+1) 0 (ae (cS:Sy) ⟨⟨zA,zB,zC⟩,⟨zD,zE,zF⟩,⟨zG,zH,zI⟩,⟨zJ,zK,zL⟩,⟨zM,zN,zO⟩⟩).toList) g (n3+2) n3 (n3+1) ⟨⟨xA,xB,xC⟩,⟨xD,xE,xF⟩,⟨xG,xH,xI⟩,⟨xJ,xK,xL⟩,⟨xM,xN,xO⟩⟩ vs3 (aQ n) ⟨⟨zA,zB,zC⟩,⟨zD,zE,zF⟩,⟨zG,zH,zI⟩,⟨zJ,zK,zL⟩,⟨zM,zN,zO⟩⟩ pz (bU (aQ n) (cs++[x])) u7 (cs++[x])):=by rw [HR.out];exact D7.out.call KY O8.out
    have uG:na (bU (aQ n) (cs++[x])):=by rw [HR.out,<- uF.out];exact Fm (by rw [sW.out];simpa using e0)
    obtain ⟨_,b1,b2⟩:=N8.out
    dsimp only [ae] at b1
    have BO:=D7.out.box.keeps KY
    obtain ⟨_,c1,c2⟩:=BO
    clear DD D7 HR
    go_upto_region 7 with fail
    change Code.wp _ _ _ _ (putC Y8 (n3+1) 0 (ae (cS:Sy) ⟨⟨zA,zB,zC⟩,⟨zD,zE,zF⟩,⟨zG,zH,zI⟩,⟨zJ,zK,zL⟩,⟨zM,zN,zO⟩⟩).toList)
    clear b1 b2 c1 c2
    generalize putC Y8 (n3+1) 0 (ae (cS:Sy) ⟨⟨zA,zB,zC⟩,⟨zD,zE,zF⟩,⟨zG,zH,zI⟩,⟨zJ,zK,zL⟩,⟨zM,zN,zO⟩⟩).toList=X9 at *
    go_wp2
    exact ⟨⟨k+1,cs++[x],⟨⟨zA,zB,zC⟩,⟨zD,zE,zF⟩,⟨zG,zH,zI⟩,⟨zJ,zK,zL⟩,⟨zM,zN,zO⟩⟩,pz,by omega,by go_num,HL2,D8,qy,uG⟩,by simp only [intOf];omega⟩
  ·have hlt':decide ((k:Int) < (N:Int))=false:=by simp;omega
   go_upto_region 13 with fail
   have DE:=D.out
   obtain ⟨P1,B1,P2,E1,E2,O1,O2,O3,C3,K3⟩:=DE.told
   have q1:=B1.cells
   have q2:=B1.aM
   have e0:∀ w',jQ n3 (n3+1) (ae (aQ n) ⟨⟨xA,xB,xC⟩,⟨xD,xE,xF⟩,⟨xG,xH,xI⟩,⟨xJ,xK,xL⟩,⟨xM,xN,xO⟩⟩) (ae (bU (aQ n) cs) ⟨⟨yA,yB,yC⟩,⟨yD,yE,yF⟩,⟨yG,yH,yI⟩,⟨yJ,yK,yL⟩,⟨yM,yN,yO⟩⟩) w'->∀ q,w'.cell? ⟨n3,q,none⟩=(ae (aQ n) ⟨⟨xA,xB,xC⟩,⟨xD,xE,xF⟩,⟨xG,xH,xI⟩,⟨xJ,xK,xL⟩,⟨xM,xN,xO⟩⟩)[q]?:=fun w' hh=>hh.one.cells
   have e1:∀ w',jQ n3 (n3+1) (ae (aQ n) ⟨⟨xA,xB,xC⟩,⟨xD,xE,xF⟩,⟨xG,xH,xI⟩,⟨xJ,xK,xL⟩,⟨xM,xN,xO⟩⟩) (ae (bU (aQ n) cs) ⟨⟨yA,yB,yC⟩,⟨yD,yE,yF⟩,⟨yG,yH,yI⟩,⟨yJ,yK,yL⟩,⟨yM,yN,yO⟩⟩) w'->∀ q,w'.cell? ⟨n3+1,q,none⟩=(ae (bU (aQ n) cs) ⟨⟨yA,yB,yC⟩,⟨yD,yE,yF⟩,⟨yG,yH,yI⟩,⟨yJ,yK,yL⟩,⟨yM,yN,yO⟩⟩)[q]?:=fun w' hh=>hh.two.cells
   dsimp only [ae] at e0 e1
   refine wp_region_held_drew (S:=fun w'=>jQ n3 (n3+1) (ae (aQ n) ⟨⟨xA,xB,xC⟩,⟨xD,xE,xF⟩,⟨xG,xH,xI⟩,⟨xJ,xK,xL⟩,⟨xM,xN,xO⟩⟩) (ae (bU (aQ n) cs) ⟨⟨yA,yB,yC⟩,⟨yD,yE,yF⟩,⟨yG,yH,yI⟩,⟨yJ,yK,yL⟩,⟨yM,yN,yO⟩⟩) w') (by kernel_rfl) ?_ (fun hHeld => ?_)
   ·exact ⟨DE.px.keeps (aa.refl _).drew,DE.box.keeps (aa.refl _).drew⟩
   refine ad.go [0,1,2] ?_
   iterate 3 (refine aJ (h := ?_);try simp only [ar])
   refine ad.nil ?_
   refine aO 3 (h:=fun K hK => ?_)
   obtain ⟨_,r1,r2⟩:=DE.r1
   go_simp
   try go_wp2_with fail
   refine hK.out _ ((putC wr w.heap.size 0 (ae (aQ n) ⟨⟨xA,xB,xC⟩,⟨xD,xE,xF⟩,⟨xG,xH,xI⟩,⟨xJ,xK,xL⟩,⟨xM,xN,xO⟩⟩).toList).drew) ?_ (fun hHeld => ?_)
   ·exact ⟨P1.one.keeps (aa.refl _).drew,P1.two.keeps (aa.refl _).drew⟩
   clear hK K
   try simp only [ar]
   clear r1 r2
   generalize putC wr w.heap.size 0 (ae (aQ n) ⟨⟨xA,xB,xC⟩,⟨xD,xE,xF⟩,⟨xG,xH,xI⟩,⟨xJ,xK,xL⟩,⟨xM,xN,xO⟩⟩).toList=X1 at *
   refine cU 4 (h := ?_)
   try simp only [ar]
   refine aO 5 (h:=fun K hK => ?_)
   go_simp
   try go_wp2_with fail
   refine hK.out _ ((putC X1 (w.heap.size+1) 0 (ae (bU (aQ n) cs) ⟨⟨yA,yB,yC⟩,⟨yD,yE,yF⟩,⟨yG,yH,yI⟩,⟨yJ,yK,yL⟩,⟨yM,yN,yO⟩⟩).toList).drew) ?_ (fun hHeld => ?_)
   ·exact ⟨P2.one.keeps (aa.refl _).drew,P2.two.keeps (aa.refl _).drew⟩
   clear hK K
   try simp only [ar]
   refine wpAnyH_done (by kernel_rfl) ?_ _
   clear q1 q2 e0 e1 hHeld
   generalize putC X1 (w.heap.size+1) 0 (ae (bU (aQ n) cs) ⟨⟨yA,yB,yC⟩,⟨yD,yE,yF⟩,⟨yG,yH,yI⟩,⟨yJ,yK,yL⟩,⟨yM,yN,yO⟩⟩).toList=Q at *
   replace E1:=E1.keeps (aa.refl _).drew
   replace E2:=E2.keeps (aa.refl _).drew
   replace O1:=O1.keeps (aa.refl _).drew
   replace O2:=O2.keeps (aa.refl _).drew
   replace O3:=O3.keeps (aa.refl _).drew
   replace C3:=C3.keeps (aa.refl _).drew
   replace K3:=K3.drew
   generalize Q.drew=Q2 at *
   go_wp2
   obtain ⟨a9,c9,e9⟩:=O3.form yV
   subst e9
   have ho:=DE.ord
   exact bodyPost_ret (v := .tuple #[.agg (ae (aQ n) ⟨⟨xA,xB,xC⟩,⟨xD,xE,xF⟩,⟨xG,xH,xI⟩,⟨xJ,xK,xL⟩,⟨xM,xN,xO⟩⟩),.slice a9 cs.length c9,.agg (ae (bU (aQ n) cs) ⟨⟨yA,yB,yC⟩,⟨yD,yE,yF⟩,⟨yG,yH,yI⟩,⟨yJ,yK,yL⟩,⟨yM,yN,yO⟩⟩)]) (by simp [results,Tryz.results47,go_sem,E1.cells,E2.cells]) rfl ⟨n,cs,⟨⟨xA,xB,xC⟩,⟨xD,xE,xF⟩,⟨xG,xH,xI⟩,⟨xJ,xK,xL⟩,⟨xM,xN,xO⟩⟩,vs3,⟨⟨yA,yB,yC⟩,⟨yD,yE,yF⟩,⟨yG,yH,yI⟩,⟨yJ,yK,yL⟩,⟨yM,yN,yO⟩⟩,vs,a9,c9,n3+2,rfl,hn1,HF.out,by have:=HL.out;omega,O1,O2,SM,O3,fun i b hi=>by have:=DE.py i b hi;omega,by omega,C3,K3⟩
end Go.Proofs.YteagpjlgjfaclaaGreatDoor
