/-
  Drawn systems: one in which something may be amiss.
-/
import Derived.Test.YteagpjlgjfaclaaGreatDoorCallDraw2
import Derived.Test.YteagpjlgjfaclaaGreatDoorLockDraw2
import Derived.Test.YteagpjlgjfaclaaGreatDoorDraw1
import Derived.Test.YteagpjlgjfaclaaGreatDoorLockSpec2
import Derived.Deep.Cut
import Derived.Deep.CutBlock
namespace Go.Proofs.YteagpjlgjfaclaaGreatDoor
set_option maxRecDepth 100000
open Go.RowKit
structure DY (w wr:World) (g ob:Nat) (v:Sv) (vs:List Lv) (s:Sy):Prop where
 cur:bj wr g
 kb:ab g w wr
 gl:g < w.heap.size
 res:ai wr w.heap.size zc
 own:ay wr (w.heap.size+1) v vs s
 box:ai wr ob (ae s v)
 far:∀ i,¬ bp v vs i ob
 ol:w.heap.size < ob
section
variable {w wr:World} {g ob:Nat} {v:Sv} {vs:List Lv} {s:Sy}
theorem DY.but (h:DY w wr g ob v vs s) {wr':World} (hc:bj wr' g) (k:ab g wr wr'):DY w wr' g ob v vs s:=by
 have hg:=h.gl
 have ho:=h.ol
 exact ⟨hc,h.kb.trans k,hg,h.res.but k (by omega),h.own.cE k (by omega),h.box.but k (by omega),h.far,ho⟩
theorem DY.keeps (h:DY w wr g ob v vs s) {wr':World} (k:aa wr wr'):DY w wr' g ob v vs s:=h.but (h.cur.keeps k) (.of k)
theorem DY.turn (h:DY w wr g ob v vs s) {w2:World} {v':Sv} {vs':List Lv} {s':Sy} (O:ay w2 (w.heap.size+1) v' vs' s') (C:bj w2 g) (K:ab g w w2) (R:ai w2 w.heap.size zc) (B:ai w2 ob (ae s v)) (F:∀ i,¬ bp v' vs' i ob) {k:Nat} {x:Value} (e:(ae s v).setIfInBounds k x=ae s' v') (hk:k < 9):DY w (w2.setCell ⟨ob,k,none⟩ x) g ob v' vs' s':=by
 have hg:=h.gl
 have ho:=h.ol
 have B2:=B.set k (by simpa using hk) x
 rw [e] at B2
 exact ⟨C.aH (by omega) _ _,K.aH (by simp;omega) _,hg,R.far (by omega) _,O.far F _,B2,F,ho⟩
theorem DY.num (h:DY w wr g ob v vs s) (now az seq missed:Int) {k:Nat} {x:Value} (e:(ae s v).setIfInBounds k x=ae { s with now:=now,az:=az,seq:=seq,missed:=missed } v) (hk:k < 9):DY w (wr.setCell ⟨ob,k,none⟩ x) g ob v vs { s with now:=now,az:=az,seq:=seq,missed:=missed } :=
 h.turn (h.own.nums now az seq missed) h.cur h.kb h.res h.box h.far e hk
theorem DY.tasks (h:DY w wr g ob v vs s) {w1:World} (C:bj w1 g) (K:ab g wr w1) {x:Rw} {xs:List ag} (O:Own 43 14 tc w1 wr.heap.size x.val xs):DY w (w1.setCell ⟨ob,2,none⟩ x.val) g ob { v with t:=x } vs { s with tasks:=xs }:=by
 have h1:=h.but C K
 have hb:=h.box.lt
 have hs:=h.kb.size
 have hf:∀ b,x.val.ownBlock=some b->wr.heap.size <= b:=fun b e=>(O.cD b e).1
 have hlo:w.heap.size+1 <= wr.heap.size:=by have:=h.res.lt;omega
 refine h1.turn (v':={ v with t:=x }) (vs':=vs) (s':={ s with tasks:=xs }) ⟨O.base hlo,h1.own.l,h1.own.g,h1.own.f,h1.own.r,nR h.own 0 (fun b e => .inr (hf b e)) ?_⟩ C h1.kb h1.res h1.box ?_ rfl (by omega)
 ·intro j b hj hb
  match j,hb with
  | 0,hb=>exact absurd rfl hj
  | 1,hb=>exact hb
  | 2,hb=>exact hb
  | 3,hb=>exact hb
  | 4,hb=>exact hb
 ·intro i hi
  match i,hi with
  | 0,hi=>have:=hf ob hi;omega
  | 1,hi=>exact h.far 1 hi
  | 2,hi=>exact h.far 2 hi
  | 3,hi=>exact h.far 3 hi
  | 4,hi=>exact h.far 4 hi
theorem DY.af (h:DY w wr g ob v vs s) {w1:World} (C:bj w1 g) (K:ab g wr w1) {x:Rw} {vs':List Lv} {ls:List Lk} (L:Mine w1 wr.heap.size w1.heap.size x.val vs' ls):DY w (w1.setCell ⟨ob,3,none⟩ x.val) g ob { v with l:=x } vs' { s with af:=ls }:=by
 have h1:=h.but C K
 have hb:=h.box.lt
 have hs:=h.kb.size
 have hf:∀ b,nS x.val vs' b->wr.heap.size <= b:=fun b e=>(L.aG e).1
 have hlo:w.heap.size+1 <= wr.heap.size:=by have:=h.res.lt;omega
 refine h1.turn (v':={ v with l:=x }) (vs':=vs') (s':={ s with af:=ls }) ⟨h1.own.t,L.widen hlo (Nat.le_refl _),h1.own.g,h1.own.f,h1.own.r,nR h.own 1 (fun b e => .inr (hf b e)) ?_⟩ C h1.kb h1.res h1.box ?_ rfl (by omega)
 ·intro j b hj hb
  match j,hb with
  | 0,hb=>exact hb
  | 1,hb=>exact absurd rfl hj
  | 2,hb=>exact hb
  | 3,hb=>exact hb
  | 4,hb=>exact hb
 ·intro i hi
  match i,hi with
  | 0,hi=>exact h.far 0 hi
  | 1,hi=>have:=hf ob hi;omega
  | 2,hi=>exact h.far 2 hi
  | 3,hi=>exact h.far 3 hi
  | 4,hi=>exact h.far 4 hi
theorem DY.ah (h:DY w wr g ob v vs s) {w2:World} {x:Rw} {xs:List Gh} (O:Own 87 4 dM w2 (w.heap.size+1) x.val xs) (G:wr.grownBy w2 v.g.val.ownBlock) (f:∀ q,x.val.ownBlock=some q->v.g.val.ownBlock=some q∨wr.heap.size <= q):DY w (w2.setCell ⟨ob,4,none⟩ x.val) g ob { v with g:=x } vs { s with ah:=xs }:=by
 have hb:=h.box.lt
 have hg:=h.gl
 have ho:=h.ol
 have hr:∀ q,v.g.val.ownBlock=some q->w.heap.size+1 <= q:=fun q e=>(h.own.aG (i:=2) (b:=q) e).1
 refine h.turn (v':={ v with g:=x }) (vs':=vs) (s':={ s with ah:=xs }) (h.own.qz G.size (fun b hb hn=>G.block b hb (fun e=>hn e.symm)) x xs O f) (h.cur.grown G (fun k hk=>by have:=hr k hk;omega)) (h.kb.grown G (fun k hk=>by have:=hr k hk;omega)) (h.res.grown G (fun q e e2=>by have:=hr q e;omega)) (h.box.grown G (fun q e e2=>h.far 2 (by rw [<- e2];exact e))) ?_ rfl (by omega)
 ·intro i hi
  match i,hi with
  | 0,hi=>exact h.far 0 hi
  | 1,hi=>exact h.far 1 hi
  | 2,hi =>
   rcases f ob hi with h2 | h2
   ·exact h.far 2 h2
   ·omega
  | 3,hi=>exact h.far 3 hi
  | 4,hi=>exact h.far 4 hi
theorem DY.trace (h:DY w wr g ob v vs s) {w2:World} {x:Rw} {xs:List Tn} (O:Own 104 3 eC w2 (w.heap.size+1) x.val xs) (G:wr.grownBy w2 v.r.val.ownBlock) (f:∀ q,x.val.ownBlock=some q->v.r.val.ownBlock=some q∨wr.heap.size <= q):DY w (w2.setCell ⟨ob,8,none⟩ x.val) g ob { v with r:=x } vs { s with trace:=xs }:=by
 have hb:=h.box.lt
 have hg:=h.gl
 have ho:=h.ol
 have hr:∀ q,v.r.val.ownBlock=some q->w.heap.size+1 <= q:=fun q e=>(h.own.aG (i:=4) (b:=q) e).1
 refine h.turn (v':={ v with r:=x }) (vs':=vs) (s':={ s with trace:=xs }) (h.own.qA G.size (fun b hb hn=>G.block b hb (fun e=>hn e.symm)) x xs O f) (h.cur.grown G (fun k hk=>by have:=hr k hk;omega)) (h.kb.grown G (fun k hk=>by have:=hr k hk;omega)) (h.res.grown G (fun q e e2=>by have:=hr q e;omega)) (h.box.grown G (fun q e e2=>h.far 4 (by rw [<- e2];exact e))) ?_ rfl (by omega)
 ·intro i hi
  match i,hi with
  | 0,hi=>exact h.far 0 hi
  | 1,hi=>exact h.far 1 hi
  | 2,hi=>exact h.far 2 hi
  | 3,hi=>exact h.far 3 hi
  | 4,hi =>
   rcases f ob hi with h2 | h2
   ·exact h.far 4 h2
   ·omega
theorem DY.ax (h:DY w wr g ob v vs s) {w2:World} {x:Rw} {xs:List Int} (O:Own 3 1 ic w2 (w.heap.size+1) x.val xs) (G:wr.grownBy w2 v.f.val.ownBlock) (f:∀ q,x.val.ownBlock=some q->v.f.val.ownBlock=some q∨wr.heap.size <= q):DY w (w2.setCell ⟨ob,5,none⟩ x.val) g ob { v with f:=x } vs { s with ax:=xs }:=by
 have hb:=h.box.lt
 have hg:=h.gl
 have ho:=h.ol
 have hr:∀ q,v.f.val.ownBlock=some q->w.heap.size+1 <= q:=fun q e=>(h.own.aG (i:=3) (b:=q) e).1
 refine h.turn (v':={ v with f:=x }) (vs':=vs) (s':={ s with ax:=xs }) (h.own.qC G.size (fun b hb hn=>G.block b hb (fun e=>hn e.symm)) x xs O f) (h.cur.grown G (fun k hk=>by have:=hr k hk;omega)) (h.kb.grown G (fun k hk=>by have:=hr k hk;omega)) (h.res.grown G (fun q e e2=>by have:=hr q e;omega)) (h.box.grown G (fun q e e2=>h.far 3 (by rw [<- e2];exact e))) ?_ rfl (by omega)
 ·intro i hi
  match i,hi with
  | 0,hi=>exact h.far 0 hi
  | 1,hi=>exact h.far 1 hi
  | 2,hi=>exact h.far 2 hi
  | 3,hi =>
   rcases f ob hi with h2 | h2
   ·exact h.far 3 h2
   ·omega
  | 4,hi=>exact h.far 4 hi
theorem DY.task (h:DY w wr g ob v vs s) {tb:Nat} (ha:v.t.a=some ⟨tb,0,none⟩) {k:Nat} (hk:k < s.tasks.length) (x:ag):DY w (putC wr tb (k*14) (tc x).toList) g ob v vs { s with tasks:=s.tasks.set k x }:=by
 have ho2:bp v vs 0 tb:=by show v.t.val.ownBlock=some tb;rw [Rw.val,ha];rfl
 have hlo:=(h.own.aG ho2).1
 have hg:=h.gl
 have ho:=h.ol
 have hne:tb≠ob:=fun e=>h.far 0 (by rw [<- e];exact ho2)
 exact ⟨bj.putC (by omega) _ _ h.cur,ab.i7 (by omega) _ _ h.kb,hg,ai.aU (by omega) _ _ h.res,(h.own.storeT ha hk x).1,ai.aU hne _ _ h.box,h.far,ho⟩
theorem DY.told (h:DY w wr g ob v vs s):ai (putC wr w.heap.size 0 (ae s v).toList) w.heap.size (ae s v) /\ ay (putC wr w.heap.size 0 (ae s v).toList) w.heap.size v vs s /\ bj (putC wr w.heap.size 0 (ae s v).toList) g /\ ab g w (putC wr w.heap.size 0 (ae s v).toList):=by
 have hg:=h.gl
 exact ⟨h.res.putC _ rfl,(ay.aU (fun i hi=>by have:=(h.own.aG hi).1;omega) _ _ h.own).base (by omega),bj.putC (by omega) _ 0 h.cur,ab.i7 (by omega) _ 0 h.kb⟩
end
def Fo:Value->Nat
 | .slice _ n _=>n
 | _=>0
def nd (w:World) (ob:Nat):Nat:=match w.cell? ⟨ob,8,none⟩ with
 | some v=>Fo v
 | none=>0
def sY (s:Sy):Prop:=s.tasks.length <= 30 /\ s.az <= 5 /\ bV s <= 5000
def Fp (g:Nat) (w:World) (e:Ending) (w':World):Prop:=∃ (s:Sy) (v:Sv) (vs:List Lv),e = .returned (.agg (ae s v)) /\ ay w' w.heap.size v vs s /\ sY s /\ bj w' g /\ ab g w w'
set_option linter.unusedSimpArgs false in
set_option maxHeartbeats 20000000 in
theorem Fq {w:World} {g:Nat} (hc:bj w g) (a:Option Addr) (n cap:Nat) (hn:n <= 1048576) :
  Calls Tryz.prog 22 #[.pointer (some ⟨g,0,none⟩),.slice a n cap] w (Fp g w):=by
 have hgl:=hc.lt
 have kZ:=cZ w (.cells zc 30)
 have R0:Hid (ai (w.alloc (.cells zc 30)) w.heap.size zc):=ai.new _ _ _
 have HC:=hc.keeps kZ
 have hz:Hid ((w.alloc (.cells zc 30)).heap.size=w.heap.size+1):=by show _=_;simp
 clear hc
 go_enter Tryz.func22,Tryz.ntmps22
 go_upto_region 1 with fail
 change Code.wp _ _ _ _ (w.alloc (.cells zc 30))
 generalize w.alloc (.cells zc 30)=Z at *
 go_upto_region 2 with first
  | (go_at_call 48;refine (Fs a n cap 30 80 _ hn (by omega) (by omega) (by omega)).mono ?_;rintro e w' ⟨most,rfl,hm0,hm1,hw'⟩;have hw2:=hw'.symm;subst hw2)
  | (go_at_call 47;refine (Ff HC most (by omega) (by omega)).mono ?_;rintro e w2 ⟨nn,cs,v0,cf,v,vs,ra,au,lb,rfl,hn1,uH,hlen,o0,o1,sm,uI,hlb,uJ,hc2,k2⟩;obtain ⟨⟨xA,xB,xC⟩,⟨xD,xE,xF⟩,⟨xG,xH,xI⟩,⟨xJ,xK,xL⟩,⟨xM,xN,xO⟩⟩:=v0;obtain ⟨⟨yA,yB,yC⟩,⟨yD,yE,yF⟩,⟨yG,yH,yI⟩,⟨yJ,yK,yL⟩,⟨yM,yN,yO⟩⟩:=v)
 obtain ⟨s,Hs⟩:∃ s,Hid (bU (aQ nn) cs=s):=⟨_,rfl⟩
 rw [Hs.out] at o1 sm ⊢
 have D2:Hid (DY w ((w2.alloc (.cells (ae (aQ nn) ⟨⟨xA,xB,xC⟩,⟨xD,xE,xF⟩,⟨xG,xH,xI⟩,⟨xJ,xK,xL⟩,⟨xM,xN,xO⟩⟩) 30)).alloc (.cells (ae s ⟨⟨yA,yB,yC⟩,⟨yD,yE,yF⟩,⟨yG,yH,yI⟩,⟨yJ,yK,yL⟩,⟨yM,yN,yO⟩⟩) 30)) g (w2.heap.size+1) ⟨⟨yA,yB,yC⟩,⟨yD,yE,yF⟩,⟨yG,yH,yI⟩,⟨yJ,yK,yL⟩,⟨yM,yN,yO⟩⟩ vs s):=by
  have hs2:=k2.size
  have kA:aa w2 ((w2.alloc (.cells (ae (aQ nn) ⟨⟨xA,xB,xC⟩,⟨xD,xE,xF⟩,⟨xG,xH,xI⟩,⟨xJ,xK,xL⟩,⟨xM,xN,xO⟩⟩) 30)).alloc (.cells (ae s ⟨⟨yA,yB,yC⟩,⟨yD,yE,yF⟩,⟨yG,yH,yI⟩,⟨yJ,yK,yL⟩,⟨yM,yN,yO⟩⟩) 30)):=((aa.refl w2).alloc _).alloc _
  refine ⟨hc2.keeps kA,((ab.of kZ).trans k2).trans (.of kA),hgl,(R0.out.but k2 (by omega)).keeps kA,(o1.base (by have:=hz.out;omega)).keeps kA,?_,fun i hi=>by have:=(o1.aG hi).2;omega,by have:=hz.out;omega⟩
  have:=ai.new (w2.alloc (.cells (ae (aQ nn) ⟨⟨xA,xB,xC⟩,⟨xD,xE,xF⟩,⟨xG,xH,xI⟩,⟨xJ,xK,xL⟩,⟨xM,xN,xO⟩⟩) 30)) (ae s ⟨⟨yA,yB,yC⟩,⟨yD,yE,yF⟩,⟨yG,yH,yI⟩,⟨yJ,yK,yL⟩,⟨yM,yN,yO⟩⟩) 30
  simpa using this
 change Code.wp _ _ _ _ ((w2.alloc (.cells (ae (aQ nn) ⟨⟨xA,xB,xC⟩,⟨xD,xE,xF⟩,⟨xG,xH,xI⟩,⟨xJ,xK,xL⟩,⟨xM,xN,xO⟩⟩) 30)).alloc (.cells (ae s ⟨⟨yA,yB,yC⟩,⟨yD,yE,yF⟩,⟨yG,yH,yI⟩,⟨yJ,yK,yL⟩,⟨yM,yN,yO⟩⟩) 30))
 clear R0 hc2 k2 kZ hz o0 o1 uI hlb uJ uH hlen HC
 generalize ((w2.alloc (.cells (ae (aQ nn) ⟨⟨xA,xB,xC⟩,⟨xD,xE,xF⟩,⟨xG,xH,xI⟩,⟨xJ,xK,xL⟩,⟨xM,xN,xO⟩⟩) 30)).alloc (.cells (ae s ⟨⟨yA,yB,yC⟩,⟨yD,yE,yF⟩,⟨yG,yH,yI⟩,⟨yJ,yK,yL⟩,⟨yM,yN,yO⟩⟩) 30))=X2 at *
 generalize w2.heap.size+1=ob at *
 obtain ⟨Pm,Pn,uK⟩:=sm
 go_upto_block 0 with (go_at_call 49;refine (cF g _ _ D2.out.cur (by omega) (by omega)).mono ?_;rintro e w5 ⟨m,rfl,m0,m1,fD,k5⟩)
 have D5:Hid (DY w w5 g ob ⟨⟨yA,yB,yC⟩,⟨yD,yE,yF⟩,⟨yG,yH,yI⟩,⟨yJ,yK,yL⟩,⟨yM,yN,yO⟩⟩ vs s):=D2.out.but fD k5
 clear D2 fD k5
 go_cut [] (fun wx=>∃ s' v' vs',Hid (DY w wx g ob v' vs' s') /\ sY s')
 case first =>
  have SZ:sY s:=⟨by omega,by omega,by omega⟩
  cases q0:(m==0)
  rotate_left
  ·go_wp2_with (go_at_call 50;refine (jb (fun _=>True) g [-1,100000,99999,100001] _ _ 4 _ _ _ rfl D5.out.cur rfl (by omega) (by omega) rfl (fun _ _=>trivial)).mono ?_;rintro e w6 ⟨z6,rfl,-,hc6,k6⟩;have D6:=D5.out.but hc6 k6;obtain ⟨_,b1,b2⟩:=D6.box;dsimp only [ae] at b1)
   go_meet
   exact ⟨_,⟨⟨yA,yB,yC⟩,⟨yD,yE,yF⟩,⟨yG,yH,yI⟩,⟨yJ,yK,yL⟩,⟨yM,yN,yO⟩⟩,vs,D6.num z6 s.az s.seq s.missed (k:=0) rfl (by omega),SZ⟩
  cases q1:(m==1)
  rotate_left
  ·go_wp2_with (go_at_call 51;refine (Ft g _ D5.out.cur).mono ?_;rintro e w6 ⟨u6,xs,rfl,dl,hxl⟩;obtain ⟨b6,c6,e6⟩:=dl.uL;subst e6;obtain ⟨n6,nT⟩:∃ n,Hid (xs.length=n):=⟨_,rfl⟩;rw [nT.out] at dl ⊢;have D6:=D5.out.but dl.cur dl.kb;obtain ⟨_,b1,b2⟩:=D6.box;dsimp only [ae] at b1)
   go_meet
   exact ⟨_,_,vs,D5.out.tasks dl.cur dl.kb (x:=⟨some ⟨b6,0,none⟩,n6,c6⟩) dl.own,by unfold bV at uK;exact ⟨by show xs.length <= _;omega,by show s.az <= _;omega,by show xs.length+bT s.af+s.ah.length+s.ax.length+s.trace.length <= _;omega⟩⟩
  cases q2:(m==2)
  rotate_left
  ·go_wp2_with (go_at_call 52;refine (Fu g _ D5.out.cur).mono ?_;rintro e w6 ⟨u6,ls,rfl,dk,hl1,hl2,hl3⟩;obtain ⟨fh,M6⟩:=dk.mine;obtain ⟨a6,c6,e6,-,-⟩:=M6.gP;subst e6;obtain ⟨n6,nT⟩:∃ n,Hid (ls.length=n):=⟨_,rfl⟩;rw [nT.out] at M6 ⊢;have D6:=D5.out.but dk.cur dk.kb;obtain ⟨_,b1,b2⟩:=D6.box;dsimp only [ae] at b1)
   go_meet
   exact ⟨_,_,fh,D5.out.af dk.cur dk.kb (x:=⟨a6,n6,c6⟩) M6,by unfold bV at uK;exact ⟨by show s.tasks.length <= _;omega,by show s.az <= _;omega,by show s.tasks.length+bT ls+s.ah.length+s.ax.length+s.trace.length <= _;omega⟩⟩
  have Fv:=uK
  unfold bV at Fv
  have e0:∀ w',ai w' ob (ae s ⟨⟨yA,yB,yC⟩,⟨yD,yE,yF⟩,⟨yG,yH,yI⟩,⟨yJ,yK,yL⟩,⟨yM,yN,yO⟩⟩)->∀ q,w'.cell? ⟨ob,q,none⟩=(ae s ⟨⟨yA,yB,yC⟩,⟨yD,yE,yF⟩,⟨yG,yH,yI⟩,⟨yJ,yK,yL⟩,⟨yM,yN,yO⟩⟩)[q]?:=fun w' hh=>hh.cells
  dsimp only [ae] at e0
  cases q3:(m==3)
  rotate_left
  ·have D0:=D5.out.keeps (aa.refl w5).drew
   have hgh:s.ah.length <= 3000:=by omega
   go_upto_region 10 with fail
   refine lO 12 (S:=(fun w'=>ai w' ob (ae s ⟨⟨yA,yB,yC⟩,⟨yD,yE,yF⟩,⟨yG,yH,yI⟩,⟨yJ,yK,yL⟩,⟨yM,yN,yO⟩⟩))) (by kernel_rfl) ?_ (fun hHeld => ?_)
   ·exact D5.out.box.keeps (aa.refl _).drew
   refine ad.go [0,1,2,4,6] ?_
   iterate 5 (refine iB (h := ?_);try simp only [ar])
   refine ad.nil ?_
   refine hH (i:=3) (h:=fun K hK => ?_)
   go_simp
   first
    | (go_at_call 49;refine (cF g _ _ D0.cur (by omega) (by omega)).mono ?_;rintro e wA ⟨mA,rfl,sZ,s7,hcA,kA⟩;have DA:=D0.but hcA kA;have BA:=DA.box;clear D0)
    | (go_at_call 53;refine (uM g _ DA.cur).mono ?_;rintro e wB ⟨qB,pB,rfl,hcB,kB⟩;have DB:=DA.but hcB kB;have BB:=DB.box;clear DA)
    | (go_at_call 49;refine (cF g _ _ DB.cur (by omega) (by omega)).mono ?_;rintro e wC ⟨mC,rfl,yX,yY,hcC,kC⟩;have DC:=DB.but hcC kC;have BC:=DC.box;clear DB)
   try go_wp2_with fail
   refine hK.out _ _ ?_ fun hHeld => ?_
   ·assumption
   clear hK K
   try simp only [ar]
   refine hH (i:=5) (h:=fun K hK => ?_)
   go_simp
   first
    | (go_at_call 49;refine (cF g _ _ D0.cur (by omega) (by omega)).mono ?_;rintro e wA ⟨mA,rfl,sZ,s7,hcA,kA⟩;have DA:=D0.but hcA kA;have BA:=DA.box;clear D0)
    | (go_at_call 53;refine (uM g _ DA.cur).mono ?_;rintro e wB ⟨qB,pB,rfl,hcB,kB⟩;have DB:=DA.but hcB kB;have BB:=DB.box;clear DA)
    | (go_at_call 49;refine (cF g _ _ DB.cur (by omega) (by omega)).mono ?_;rintro e wC ⟨mC,rfl,yX,yY,hcC,kC⟩;have DC:=DB.but hcC kC;have BC:=DC.box;clear DB)
   try go_wp2_with fail
   refine hK.out _ _ ?_ fun hHeld => ?_
   ·assumption
   clear hK K
   try simp only [ar]
   refine hH (i:=7) (h:=fun K hK => ?_)
   go_simp
   first
    | (go_at_call 49;refine (cF g _ _ D0.cur (by omega) (by omega)).mono ?_;rintro e wA ⟨mA,rfl,sZ,s7,hcA,kA⟩;have DA:=D0.but hcA kA;have BA:=DA.box;clear D0)
    | (go_at_call 53;refine (uM g _ DA.cur).mono ?_;rintro e wB ⟨qB,pB,rfl,hcB,kB⟩;have DB:=DA.but hcB kB;have BB:=DB.box;clear DA)
    | (go_at_call 49;refine (cF g _ _ DB.cur (by omega) (by omega)).mono ?_;rintro e wC ⟨mC,rfl,yX,yY,hcC,kC⟩;have DC:=DB.but hcC kC;have BC:=DC.box;clear DB)
   try go_wp2_with fail
   refine hK.out _ _ ?_ fun hHeld => ?_
   ·assumption
   clear hK K
   try simp only [ar]
   refine ad.go [8] ?_
   iterate 1 (refine iB (h := ?_);try simp only [ar])
   refine ad.nil ?_
   refine hH (i:=9) (h:=fun K hK => ?_)
   go_simp
   try go_wp2_with fail
   refine hK.out _ _ ?_ fun hHeld => ?_
   ·exact BC.keeps ((aa.refl _).alloc _)
   clear hK K
   try simp only [ar]
   refine hH (i:=10) (h:=fun K hK => ?_)
   (refine pA rfl (.tmp 37) (.tmp 45) 26 rfl (w.heap.size+1) 87 (.agg (dM Gh.zero)) 4 32 dM Tryz.underlying26 (by kernel_rfl) rfl (by decide) jS qD (.slice yG yH yI) s.ah (by simp [Act.eval]) (DC.own.g.keeps ((aa.refl _).alloc _)) (by have:=DC.res.lt;simp;omega) [⟨mA,qB,pB,mC⟩] _ 0 1 (qE (ai.new _ _ _)) (by simp [Act.eval]) (by simp [maxLen];omega) (by simp;omega) ?_;intro v7 w7 o7 g7 f7;obtain ⟨a7,c7,e7⟩:=o7.form jS;obtain ⟨m7,mo⟩:∃ m,Hid ((s.ah++[(⟨mA,qB,pB,mC⟩:Gh)]).length=m):=⟨_,rfl⟩;rw [mo.out] at e7;subst e7;have D7:=(DC.keeps ((aa.refl wC).alloc _)).ah (x:=⟨a7,m7,c7⟩) o7 g7 (fun q hq=>(f7 q hq).imp id (fun e=>by rw [e];exact Nat.le_refl _)))
   refine hK.out _ _ ?_ fun hHeld => ?_
   ·exact (DC.box.keeps ((aa.refl wC).alloc _)).grown g7 (fun q e e2=>DC.far 2 (by rw [<- e2];exact e))
   clear hK K
   try simp only [ar]
   refine ad.go [11] ?_
   iterate 1 (refine iB (h := ?_);try simp only [ar])
   refine ad.nil ?_
   refine lP (h:=fun K hK => ?_)
   have BX:ai w7 ob (ae s ⟨⟨yA,yB,yC⟩,⟨yD,yE,yF⟩,⟨yG,yH,yI⟩,⟨yJ,yK,yL⟩,⟨yM,yN,yO⟩⟩):=(by assumption);obtain ⟨_,z1,z2⟩:=BX;dsimp only [ae] at z1
   go_simp
   try go_wp2_with fail
   refine hK.out _ _ ?_
   clear hK K
   try simp only [ar]
   go_wp2
   go_meet
   exact ⟨_,_,vs,D7,by show s.tasks.length <= _;omega,by show s.az <= _;omega,by show s.tasks.length+bT s.af+(s.ah++[(⟨mA,qB,pB,mC⟩:Gh)]).length+s.ax.length+s.trace.length <= _;simp only [List.length_append,List.length_singleton];omega⟩
  cases q4:(m==4)
  rotate_left
  ·have hfl:s.ax.length <= 3000:=by omega
   obtain ⟨_,b1,b2⟩:=D5.out.box
   dsimp only [ae] at b1
   go_wp2_with (at_builtin;(refine nc rfl _ _ 27 rfl (w.heap.size+1) 3 (.int .i64 0) 1 8 ic Tryz.underlying27 (by kernel_rfl) rfl (by decide) fW lN _ s.ax rfl (D5.out.own.f.keeps ((aa.refl _).alloc _)) (by have:=D5.out.res.lt;simp;omega) 0 _ 1 (ai.new _ _ _) rfl (by unfold maxLen;omega) (by omega) ?_;intro v7 w7 o7 g7 f7;obtain ⟨a7,c7,e7⟩:=o7.form fW;obtain ⟨m7,mo⟩:∃ m,Hid ((s.ax++[(0:Int)]).length=m):=⟨_,rfl⟩;rw [mo.out] at e7;subst e7;have D7:=(D5.out.keeps ((aa.refl w5).alloc _)).ax (x:=⟨a7,m7,c7⟩) o7 g7 (fun q hq=>(f7 q hq).imp id (fun e=>by rw [e];exact Nat.le_refl _));obtain ⟨_,z1,z2⟩:=(D5.out.box.keeps ((aa.refl w5).alloc _)).grown g7 (fun q e e2=>D5.out.far 3 (by rw [<- e2];exact e));dsimp only [ae] at z1))
   go_meet
   exact ⟨_,_,vs,D7,by show s.tasks.length <= _;omega,by show s.az <= _;omega,by show s.tasks.length+bT s.af+s.ah.length+(s.ax++[(0:Int)]).length+s.trace.length <= _;simp only [List.length_append,List.length_singleton];omega⟩
  cases q5:(m==5)
  rotate_left
  ·go_wp2_with (go_at_call 50;refine (jb (fun _=>True) g [-1,900000,900001,1000001] _ _ 4 _ _ _ rfl D5.out.cur rfl (by omega) (by omega) rfl (fun _ _=>trivial)).mono ?_;rintro e w6 ⟨z6,rfl,-,hc6,k6⟩;have D6:=D5.out.but hc6 k6;obtain ⟨_,b1,b2⟩:=D6.box;dsimp only [ae] at b1)
   go_meet
   exact ⟨_,⟨⟨yA,yB,yC⟩,⟨yD,yE,yF⟩,⟨yG,yH,yI⟩,⟨yJ,yK,yL⟩,⟨yM,yN,yO⟩⟩,vs,D6.num s.now s.az z6 s.missed (k:=6) rfl (by omega),SZ⟩
  cases q6:(m==6)
  rotate_left
  ·go_wp2_with (go_at_call 50;refine (jb (fun _=>True) g [-1,5,100000] _ _ 3 _ _ _ rfl D5.out.cur rfl (by omega) (by omega) rfl (fun _ _=>trivial)).mono ?_;rintro e w6 ⟨z6,rfl,-,hc6,k6⟩;have D6:=D5.out.but hc6 k6;obtain ⟨_,b1,b2⟩:=D6.box;dsimp only [ae] at b1)
   go_meet
   exact ⟨_,⟨⟨yA,yB,yC⟩,⟨yD,yE,yF⟩,⟨yG,yH,yI⟩,⟨yJ,yK,yL⟩,⟨yM,yN,yO⟩⟩,vs,D6.num s.now s.az s.seq z6 (k:=7) rfl (by omega),SZ⟩
  cases q7:(m==7)
  rotate_left
  ·have Hr:Hid (s.trace.length=yN):=(D5.out.own.r.row jc).1
   have hrn:yN <= 3000:=by have:=Hr.out;omega
   go_wp2_with fail
   go_loopw [] (fun wr=>∃ (tr:List Tn) (ta:Option Addr) (tl tcp:Nat),Hid (DY w wr g ob ⟨⟨yA,yB,yC⟩,⟨yD,yE,yF⟩,⟨yG,yH,yI⟩,⟨yJ,yK,yL⟩,⟨ta,tl,tcp⟩⟩ vs { (s:Sy) with trace:=tr }) /\ Hid (tr.length=tl) /\ tl <= max yN 401) (fun wr=>402 - nd wr ob)
   case atStart=>exact ⟨s.trace,yM,yN,yO,D5,Hr,by omega⟩
   case round =>
    obtain ⟨tr,ta,tl,tcp,D,HL,htl⟩:=hrel
    clear e0
    have D0:=D.out.keeps (aa.refl wr).drew
    have L0:Hid (nd wr ob=tl):=by show nd wr ob=tl;unfold nd;rw [D.out.box.cells 8];rfl
    have e0:∀ w',ai w' ob (ae { (s:Sy) with trace:=tr } ⟨⟨yA,yB,yC⟩,⟨yD,yE,yF⟩,⟨yG,yH,yI⟩,⟨yJ,yK,yL⟩,⟨ta,tl,tcp⟩⟩)->∀ q,w'.cell? ⟨ob,q,none⟩=(ae { (s:Sy) with trace:=tr } ⟨⟨yA,yB,yC⟩,⟨yD,yE,yF⟩,⟨yG,yH,yI⟩,⟨yJ,yK,yL⟩,⟨ta,tl,tcp⟩⟩)[q]?:=fun w' hh=>hh.cells
    dsimp only [ae] at e0
    go_upto_region 18 with fail
    refine wp_region_held_drew (S:=(fun w'=>ai w' ob (ae { (s:Sy) with trace:=tr } ⟨⟨yA,yB,yC⟩,⟨yD,yE,yF⟩,⟨yG,yH,yI⟩,⟨yJ,yK,yL⟩,⟨ta,tl,tcp⟩⟩))) (by kernel_rfl) ?_ (fun hHeld => ?_)
    ·exact D0.box
    refine ad.go [0,1,2,3] ?_
    iterate 4 (refine aJ (h := ?_);try simp only [ar])
    refine ad.nil ?_
    refine aO 4 (h:=fun K hK => ?_)
    go_simp
    (go_at_call 49;refine (cF g _ _ D0.cur (by omega) (by omega)).mono ?_;rintro e w6 ⟨z6,rfl,z60,z61,hc6,k6⟩;have D6:=D0.but hc6 k6;have B6:=D6.box;have hwz:IntKind.i64.wrap (400+z6)=400+z6:=Go.IntWalk.i64_in _ (by omega);clear D0)
    try go_wp2_with fail
    refine hK.out _ _ ?_ fun hHeld => ?_
    ·assumption
    clear hK K
    try simp only [ar]
    refine ad.go [5,6] ?_
    iterate 2 (refine aJ (h := ?_);try simp only [ar])
    refine ad.nil ?_
    refine wpAnyH_done (by kernel_rfl) ?_ _
    have htr:tr.length <= 3500:=by rw [HL.out];omega
    cases hd:decide ((tl:Int) < 400+z6)
    rotate_left
    ·have hlt:(tl:Int) < 400+z6:=of_decide_eq_true hd
     obtain ⟨_,b1,b2⟩:=D6.box
     dsimp only [ae] at b1
     go_wp2_with (at_builtin;(refine nc rfl _ _ 28 rfl (w.heap.size+1) 104 (.agg (eC Tn.zero)) 3 24 eC Tryz.underlying28 (by kernel_rfl) rfl (by decide) jc pC _ tr rfl (D6.own.r.keeps ((aa.refl _).alloc _)) (by have:=D6.res.lt;simp;omega) Tn.zero _ 1 (ai.new _ _ _) rfl (by unfold maxLen;omega) (by omega) ?_;intro v7 w7 o7 g7 f7;obtain ⟨a7,c7,e7⟩:=o7.form jc;obtain ⟨m7,mo⟩:∃ m,Hid ((tr++[Tn.zero]).length=m):=⟨_,rfl⟩;rw [mo.out] at e7;subst e7;have D7:=(D6.keeps ((aa.refl w6).alloc _)).trace (x:=⟨a7,m7,c7⟩) o7 g7 (fun q hq=>(f7 q hq).imp id (fun e=>by rw [e];exact Nat.le_refl _));obtain ⟨_,z1,z2⟩:=(D6.box.keeps ((aa.refl w6).alloc _)).grown g7 (fun q e e2=>D6.far 4 (by rw [<- e2];exact e));dsimp only [ae] at z1))
     have Po:m7=tl+1:=by rw [<- mo.out,List.length_append,HL.out];rfl
     refine ⟨⟨tr++[Tn.zero],a7,m7,c7,D7,mo,by omega⟩,?_⟩
     have L1:nd (w7.setCell ⟨ob,8,none⟩ (.slice a7 m7 c7)) ob=m7:=by unfold nd;rw [D7.box.cells 8];rfl
     have Fw:=L0.out
     have:402 - nd (w7.setCell ⟨ob,8,none⟩ (.slice a7 m7 c7)) ob < 402 - nd wr ob:=by rw [L1,Fw];omega
     exact this
    ·go_wp2
     go_meet
     exact ⟨_,_,vs,D6,by show s.tasks.length <= _;omega,by show s.az <= _;omega,by show s.tasks.length+bT s.af+s.ah.length+s.ax.length+tr.length <= _;have:=HL.out;have:=Hr.out;omega⟩
  cases q8:(m==8)
  rotate_left
  ·go_wp2_with (go_at_call 49;refine (cF g _ _ D5.out.cur (by omega) (by omega)).mono ?_;rintro e w6 ⟨z6,rfl,z60,z61,hc6,k6⟩;have D6:=D5.out.but hc6 k6;obtain ⟨_,b1,b2⟩:=D6.box;dsimp only [ae] at b1)
   go_meet
   exact ⟨_,⟨⟨yA,yB,yC⟩,⟨yD,yE,yF⟩,⟨yG,yH,yI⟩,⟨yJ,yK,yL⟩,⟨yM,yN,yO⟩⟩,vs,D6.num s.now z6 s.seq s.missed (k:=1) rfl (by omega),⟨by show s.tasks.length <= _;omega,by show z6 <= _;omega,by show bV s <= _;omega⟩⟩
  cases q9:(m==9)
  rotate_left
  ·have Hn:Hid (s.tasks.length=yB):=(D5.out.own.t.row dC).1
   obtain ⟨_,b1,b2⟩:=D5.out.box
   dsimp only [ae] at b1
   by_cases h0:(0:Int) < (yB:Int)
   ·obtain ⟨tb,htb⟩:=D5.out.own.bm (k:=0) (by rw [Hn.out];omega)
    dsimp only at htb
    subst htb
    go_upto_region 24 with fail
    have D0:=D5.out.keeps (aa.refl w5).drew
    have htl:(yB:Int) <= 256:=by have:=Hn.out;omega
    have qF:1 <= (yB:Int):=by omega
    clear b1 b2
    refine lO 10 (S:=(fun w'=>ai w' ob (ae s ⟨⟨some ⟨tb,0,none⟩,yB,yC⟩,⟨yD,yE,yF⟩,⟨yG,yH,yI⟩,⟨yJ,yK,yL⟩,⟨yM,yN,yO⟩⟩))) (by kernel_rfl) ?_ (fun hHeld => ?_)
    ·exact D0.box
    refine ad.go [0,1,2,3,4,5,7] ?_
    iterate 7 (refine iB (h := ?_);try simp only [ar])
    refine ad.nil ?_
    refine hH (i:=6) (h:=fun K hK => ?_)
    go_simp
    first
     | (go_at_call 49;refine (cF g _ _ D0.cur qF htl).mono ?_;rintro e wA ⟨mA,rfl,sZ,s7,hcA,kA⟩;obtain ⟨j,rfl⟩:∃ j:Nat,mA=(j:Int):=⟨mA.toNat,by omega⟩;have DA:=D0.but hcA kA;have BA:=DA.box;clear D0)
     | (go_at_call 54;refine (uN g _ DA.cur).mono ?_;rintro e wB ⟨tB,rfl,hcB,kB⟩;have DB:=DA.but hcB kB;have BB:=DB.box;clear DA)
    try go_wp2_with fail
    refine hK.out _ _ ?_ fun hHeld => ?_
    ·assumption
    clear hK K
    try simp only [ar]
    refine hH (i:=8) (h:=fun K hK => ?_)
    go_simp
    first
     | (go_at_call 49;refine (cF g _ _ D0.cur qF htl).mono ?_;rintro e wA ⟨mA,rfl,sZ,s7,hcA,kA⟩;obtain ⟨j,rfl⟩:∃ j:Nat,mA=(j:Int):=⟨mA.toNat,by omega⟩;have DA:=D0.but hcA kA;have BA:=DA.box;clear D0)
     | (go_at_call 54;refine (uN g _ DA.cur).mono ?_;rintro e wB ⟨tB,rfl,hcB,kB⟩;have DB:=DA.but hcB kB;have BB:=DB.box;clear DA)
    try go_wp2_with fail
    refine hK.out _ _ ?_ fun hHeld => ?_
    ·assumption
    clear hK K
    try simp only [ar]
    refine ad.go [9] ?_
    iterate 1 (refine iB (h := ?_);try simp only [ar])
    refine ad.nil ?_
    refine lP (h:=fun K hK => ?_)
    obtain ⟨x,hx⟩:=bW (xs:=s.tasks) (k:=j) (by rw [Hn.out];omega);obtain ⟨z1,z2⟩:=DB.own.aI (rb:=tb) rfl (k:=j) hx;have y0:wB.cell? ⟨tb,j*14,none⟩=some (.int .i64 x.no):=z1 0 (by omega);have D7:=DB.task (tb:=tb) rfl (k:=j) (da hx) tB
    go_simp
    try go_wp2_with fail
    refine hK.out _ _ ?_
    clear hK K
    try simp only [ar]
    go_wp2
    go_meet
    exact ⟨_,_,vs,D7,by show (s.tasks.set j tB).length <= _;simp;omega,by show s.az <= _;omega,by show (s.tasks.set j tB).length+bT s.af+s.ah.length+s.ax.length+s.trace.length <= _;simp only [List.length_set];omega⟩
   ·go_wp2
    go_meet
    exact ⟨s,⟨⟨yA,yB,yC⟩,⟨yD,yE,yF⟩,⟨yG,yH,yI⟩,⟨yJ,yK,yL⟩,⟨yM,yN,yO⟩⟩,vs,D5,SZ⟩
  go_wp2
  go_meet
  exact ⟨s,⟨⟨yA,yB,yC⟩,⟨yD,yE,yF⟩,⟨yG,yH,yI⟩,⟨yJ,yK,yL⟩,⟨yM,yN,yO⟩⟩,vs,D5,SZ⟩
 case rest =>
 obtain ⟨s',v',vs',D9,SZ⟩:=hcut
 generalize wc=w9 at *
 obtain ⟨⟨zA,zB,zC⟩,⟨zD,zE,zF⟩,⟨zG,zH,zI⟩,⟨zJ,zK,zL⟩,⟨zM,zN,zO⟩⟩:=v'
 obtain ⟨_,b1,b2⟩:=D9.out.box
 dsimp only [ae] at b1
 obtain ⟨_,r1,r2⟩:=D9.out.res
 obtain ⟨E1,E2,E3,E4⟩:=D9.out.told
 go_wp2
 change bodyPost _ _ _ _ _ (putC w9 w.heap.size 0 (ae (s':Sy) ⟨⟨zA,zB,zC⟩,⟨zD,zE,zF⟩,⟨zG,zH,zI⟩,⟨zJ,zK,zL⟩,⟨zM,zN,zO⟩⟩).toList)
 generalize putC w9 w.heap.size 0 (ae (s':Sy) ⟨⟨zA,zB,zC⟩,⟨zD,zE,zF⟩,⟨zG,zH,zI⟩,⟨zJ,zK,zL⟩,⟨zM,zN,zO⟩⟩).toList=Q at E1 E2 E3 E4 ⊢
 exact bodyPost_ret (v := .agg (ae (s':Sy) ⟨⟨zA,zB,zC⟩,⟨zD,zE,zF⟩,⟨zG,zH,zI⟩,⟨zJ,zK,zL⟩,⟨zM,zN,zO⟩⟩)) (by simp [results,Tryz.results22,go_sem,E1.cells]) rfl ⟨s',⟨⟨zA,zB,zC⟩,⟨zD,zE,zF⟩,⟨zG,zH,zI⟩,⟨zJ,zK,zL⟩,⟨zM,zN,zO⟩⟩,vs',rfl,E2,SZ,E3,E4⟩
end Go.Proofs.YteagpjlgjfaclaaGreatDoor
