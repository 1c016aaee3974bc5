/-
  The program's heap of two: the second one that is put.
  Fixed priorities, the program's side: rows by priority.
  The program's locks: what is right of them, chains, owners.
  The program's locks: copies of them, and what may be passed
-/
import Derived.Test.YteagpjlgjfaclaaGreatDoorCallDo0
import Derived.BigRegion
import Derived.Test.YteagpjlgjfaclaaGreatDoorLockSpec2
import Derived.Test.YteagpjlgjfaclaaGreatDoorLoneLeaves
import Derived.Deep.Cut
namespace Go.Proofs.YteagpjlgjfaclaaGreatDoor
set_option maxRecDepth 100000
open Go.RowKit
section
attribute [local go_sem] aa.refl aa.alloc aa.drew aa.drewN
structure iL (w:World) (L o:Nat) (C:Array Value) (b cap:Nat) (y x:ag):Prop where
 line:w.cell? ⟨L,o,none⟩=some (.slice (some ⟨b,0,none⟩) 2 cap)
 others:∀ k,k≠o->w.cell? ⟨L,k,none⟩=C[k]?
 lt:b < w.heap.size
 low:L < b
 fst:∀ k,k < 9->w.cell? ⟨b,k,none⟩=(aT y)[k]?
 snd:∀ k,k < 9->w.cell? ⟨b,9+k,none⟩=(aT x)[k]?
 free:∀ k,w.frozen? ⟨b,k,none⟩=false
theorem iL.keeps {w w':World} {L o b cap:Nat} {C:Array Value} {y x:ag} (h:iL w L o C b cap y x) (k:aa w w'):iL w' L o C b cap y x :=
 ⟨(k.cells _ _ (Nat.lt_trans h.low h.lt)).trans h.line,fun i hi=>(k.cells _ _ (Nat.lt_trans h.low h.lt)).trans (h.others i hi),Nat.lt_of_lt_of_le h.lt k.size,h.low,fun i hi=>(k.cells _ _ h.lt).trans (h.fst i hi),fun i hi=>(k.cells _ _ h.lt).trans (h.snd i hi),fun i=>(k.aM _ _ h.lt).trans (h.free i)⟩
theorem Ja (x:ag):∀ (n:Nat) (w:World),0 < n->(method n 171 (.agg (aT x)) "loop.example/g00185/impl.isBefore").run Tryz.prog w = .ok (321,.agg (aT x)) w
 | 0,_,h=>absurd h (Nat.lt_irrefl 0)
 | _+1,_,_=>by kernel_rfl
theorem Jb {w:World} {L o b cap base:Nat} {C:Array Value} {y x:ag} {u:Value} (h:Own 171 9 aT w base (.slice (some ⟨b,0,none⟩) ([y]++[x]).length cap) ([y]++[x])) (B:ai w L C) (hC:C[o]?=some u) (hL:L < base) :
  iL (w.setCell ⟨L,o,none⟩ (.slice (some ⟨b,0,none⟩) ([y]++[x]).length cap)) L o C b cap y x:=by
 obtain ⟨f1,f2,f3⟩:=h.free
 obtain ⟨a,cp,e,l,-,-⟩:=h.slice mY
 simp only [Value.slice.injEq] at e
 obtain ⟨rfl,-,rfl⟩:=e
 have hne:L≠b:=by omega
 rcases l with l | ⟨b',off,e',hb',l⟩
 ·simp at l
 ·simp only [Option.some.injEq,Addr.mk.injEq] at e'
  obtain ⟨rfl,rfl,-⟩:=e'
  refine ⟨mz ((B.cells o).trans hC) _,fun k hk=>(fp (.inr (Ne.symm hk)) _).trans (B.cells k),by simpa using f2,by omega,fun k hk => ?_,fun k hk => ?_,fun k=>by simpa using f3 k⟩
  ·rw [fp (.inl hne)]
   simpa using l 0 y rfl k hk
  ·rw [fp (.inl hne)]
   simpa using l 1 x rfl k hk
def vF (W0:World) (L o:Nat) (C:Array Value) (z:ag) (w':World):Prop :=
 ∃ b cap,w'.cell? ⟨L,o,none⟩=some (.slice (some ⟨b,0,none⟩) 2 cap) /\ (∀ k,k≠o->w'.cell? ⟨L,k,none⟩=C[k]?) /\ (∀ k,k < 9->w'.cell? ⟨b,k,none⟩=(aT z)[k]?) /\ aa W0 w'
theorem iL.swap {W0 w:World} {L o b cap:Nat} {C:Array Value} {y x:ag} (h:iL w L o C b cap y x) (k:aa W0 w) (h0:W0.heap.size <= L):vF W0 L o C x (putC (putC w b 9 (aT y).toList) b 0 (aT x).toList).drew:=by
 have hb:=h.low
 have hc:∀ i,i < 9->∃ u,w.cell? ⟨b,i,none⟩=some u:=fun i hi=>⟨(aT y)[i]'hi,(h.fst i hi).trans (Array.getElem?_eq_getElem hi)⟩
 have hs:=Ag (A:=(aT y).toList) (B:=(aT x).toList) hb hc rfl
 have hf:∀ j,(putC (putC w b 9 (aT y).toList) b 0 (aT x).toList).drew.cell? ⟨L,j,none⟩=w.cell? ⟨L,j,none⟩:=fun j=>Jc hb
 have hk:=Ah (aT y).toList (aT x).toList k (show W0.heap.size <= b by omega)
 have hx:∀ i,(aT x).toList[i]?=(aT x)[i]?:=fun i=>Array.getElem?_toList
 generalize (putC (putC w b 9 (aT y).toList) b 0 (aT x).toList).drew=Y at hs hf hk ⊢
 exact ⟨b,cap,(hf o).trans h.line,fun i hi=>(hf i).trans (h.others i hi),fun i hi=>(hs.2 i hi).trans (hx i),hk⟩
def gQ (x y:ag):ag:=if fg x y then x else y
set_option maxHeartbeats 8000000 in
theorem Gn (x y:ag) (L o:Nat) (C:Array Value) (v:Value) (base:Nat) (W0 w:World) (B:ai w L C) (hC:C[o]?=some v) (hown:Own 171 9 aT w base v [y]) (hk:aa W0 w) (h0:W0.heap.size <= L) (h1:L < base) (h2:base <= w.heap.size) :
  Calls Tryz.prog 326 #[.pointer (some ⟨L,o,none⟩),.agg (aT x)] w fun e w'=>e = .returned (.tuple #[]) /\
   vF W0 L o C (gQ x y) w':=by
 have hl:=B.lt
 obtain ⟨b0,cap0,rfl,-,-,-⟩:=hown.some mY (by simp)
 obtain ⟨f1,f2,-⟩:=hown.free
 have nQ:Hid (C[o]?=some (.slice (some ⟨b0,0,none⟩) 1 cap0)):=hC
 have B1:Hid (ai (w.alloc (.cells (aT x) 171)) L C):=B.alloc _
 have O1:Hid (Own 171 9 aT (w.alloc (.cells (aT x) 171)) base (.slice (some ⟨b0,0,none⟩) 1 cap0) [y]):=hown.alloc _
 have KW:Hid (aa W0 (w.alloc (.cells (aT x) 171))):=hk.alloc _
 have X1:=ai.new w (aT x) 171
 have hsz:Hid ((w.alloc (.cells (aT x) 171)).heap.size=w.heap.size+1):=by show _=_;simp
 go_enter Tryz.func326,Tryz.ntmps326
 go_wp2_with fail
 obtain ⟨_,z1,z2⟩:=X1
 have b1:(w.alloc (.cells (aT x) 171)).cell? ⟨L,o,none⟩=some (.slice (some ⟨b0,0,none⟩) 1 cap0):=(B1.out.cells o).trans nQ.out
 have b2:=B1.out.aM o
 have IZ:=B1.out.lt
 clear B hown hk hC
 generalize w.alloc (.cells (aT x) 171)=W at *
 go_cut [14] (fun c wx=>c = .pointer (some ⟨L,o,none⟩) /\ ∃ b cap,iL wx L o C b cap y x /\ aa W0 wx)
 case first =>
  go_region_law (refine qs rfl (.tmp 10) (.tmp 12) 313 rfl base 171 (.agg (aT ag.zero)) 9 72 aT Tryz.underlying313 (by kernel_rfl) rfl (by decide) mY yz (.slice (some ⟨b0,0,none⟩) 1 cap0) [y] (by simp [Act.eval]) ((O1.out.alloc _).keeps (aa.refl _).drew) (by have:=hsz.out;simp;omega) x _ 1 ((ai.new _ _ _).keeps (aa.refl _).drew) (by simp [Act.eval]) (by simp [maxLen]) (by simp) ?_;intro v' w' hown hgrow;obtain ⟨bb,cap,rfl,li,-,-⟩:=hown.some mY (by simp);have G:Hid (ai w' L C):=((B1.out.alloc _).keeps (aa.refl _).drew).grown hgrow (by intro k hk;simp [Value.ownBlock] at hk;omega);have g1:w'.cell? ⟨L,o,none⟩=some (.slice (some ⟨b0,0,none⟩) 1 cap0):=(G.out.cells o).trans nQ.out;have g2:=G.out.aM o;have g0:=G.out.lt)
  all_goals
   go_wp2
   go_meet
   refine ⟨rfl,bb,cap,Jb hown G.out nQ.out h1,?_⟩
   exact ((KW.out.alloc _).drew.grown hgrow (by intro k hk;simp [Value.ownBlock] at hk;omega)).setCell h0 _
 case rest =>
  obtain ⟨rfl,b,cap,T,K⟩:=hcut
  generalize wc=X at *
  have TH:Hid (iL X L o C b cap y x):=T
  have KH:Hid (aa W0 X):=K
  have l1:∀ w',aa X w'->w'.cell? ⟨L,o,none⟩=some (.slice (some ⟨b,0,none⟩) 2 cap):=aa.has T.line
  have y0:∀ w',aa X w'->w'.cell? ⟨b,0,none⟩=some (.int .i64 y.no):=aa.has (T.fst 0 (by omega))
  have y1:∀ w',aa X w'->w'.cell? ⟨b,1,none⟩=some (.int .i64 y.cls):=aa.has (T.fst 1 (by omega))
  have y2:∀ w',aa X w'->w'.cell? ⟨b,2,none⟩=some (.int .i64 y.cpu):=aa.has (T.fst 2 (by omega))
  have y3:∀ w',aa X w'->w'.cell? ⟨b,3,none⟩=some (.int .i64 y.st):=aa.has (T.fst 3 (by omega))
  have y4:∀ w',aa X w'->w'.cell? ⟨b,4,none⟩=some (.bool y.idle):=aa.has (T.fst 4 (by omega))
  have y5:∀ w',aa X w'->w'.cell? ⟨b,5,none⟩=some (.int .i64 y.prio):=aa.has (T.fst 5 (by omega))
  have y6:∀ w',aa X w'->w'.cell? ⟨b,6,none⟩=some (.int .i64 y.round):=aa.has (T.fst 6 (by omega))
  have y7:∀ w',aa X w'->w'.cell? ⟨b,7,none⟩=some (.int .i64 y.left):=aa.has (T.fst 7 (by omega))
  have y8:∀ w',aa X w'->w'.cell? ⟨b,8,none⟩=some (.int .i64 y.seq):=aa.has (T.fst 8 (by omega))
  have x0:∀ w',aa X w'->w'.cell? ⟨b,9,none⟩=some (.int .i64 x.no):=aa.has (T.snd 0 (by omega))
  have x1:∀ w',aa X w'->w'.cell? ⟨b,10,none⟩=some (.int .i64 x.cls):=aa.has (T.snd 1 (by omega))
  have x2:∀ w',aa X w'->w'.cell? ⟨b,11,none⟩=some (.int .i64 x.cpu):=aa.has (T.snd 2 (by omega))
  have x3:∀ w',aa X w'->w'.cell? ⟨b,12,none⟩=some (.int .i64 x.st):=aa.has (T.snd 3 (by omega))
  have x4:∀ w',aa X w'->w'.cell? ⟨b,13,none⟩=some (.bool x.idle):=aa.has (T.snd 4 (by omega))
  have x5:∀ w',aa X w'->w'.cell? ⟨b,14,none⟩=some (.int .i64 x.prio):=aa.has (T.snd 5 (by omega))
  have x6:∀ w',aa X w'->w'.cell? ⟨b,15,none⟩=some (.int .i64 x.round):=aa.has (T.snd 6 (by omega))
  have x7:∀ w',aa X w'->w'.cell? ⟨b,16,none⟩=some (.int .i64 x.left):=aa.has (T.snd 7 (by omega))
  have x8:∀ w',aa X w'->w'.cell? ⟨b,17,none⟩=some (.int .i64 x.seq):=aa.has (T.snd 8 (by omega))
  clear T K z1 z2 b1 b2
  go_wp2_with fail
  have hm:=Ja x
  refine Ai ?_
  go_wp2_with fail
  cases hbf:fg x y
  ·have Hb:Hid (gQ x y=y):=by show _=_;simp [gQ,hbf]
   refine wp_region_held_drew (S:=(fun w'=>aa X w')) (by kernel_rfl) ?_ (fun hHeld => ?_)
   ·exact (aa.refl X).drew
   refine ad.go [0,1,2,3,4,5,6,7,8,9,10,11,12,13,14] ?_
   iterate 15 (refine aJ (h := ?_);try simp only [ar])
   refine ad.nil ?_
   refine aO 15 (h:=fun K hK => ?_)
   go_simp
   first
    | (go_at_call 321;refine (yP x y _).mono ?_;rintro e w5 ⟨rfl,k5⟩;rw [hbf])
   try go_wp2_with fail
   refine hK.out _ _ ?_ fun hHeld => ?_
   ·exact aa.trans (by assumption) (by assumption)
   clear hK K
   try simp only [ar]
   refine cU 16 (h := ?_)
   try simp only [ar]
   refine wpAnyH_done (by kernel_rfl) ?_ _
   have K5:aa X w5:=by assumption
   go_wp2
   exact bodyPost_ret (v := .tuple #[]) (results_none rfl _ _ _) rfl ⟨rfl,by rw [Hb.out];exact ⟨b,cap,l1 _ K5,(TH.out.keeps K5).others,(TH.out.keeps K5).fst,KH.out.trans K5⟩⟩
  ·have Hb:Hid (gQ x y=x):=by show _=_;simp [gQ,hbf]
   refine wp_region_held_drew (S:=(fun w'=>aa X w')) (by kernel_rfl) ?_ (fun hHeld => ?_)
   ·exact (aa.refl X).drew
   refine ad.go [0,1,2,3,4,5,6,7,8,9,10,11,12,13,14] ?_
   iterate 15 (refine aJ (h := ?_);try simp only [ar])
   refine ad.nil ?_
   refine aO 15 (h:=fun K hK => ?_)
   go_simp
   first
    | (go_at_call 321;refine (yP x y _).mono ?_;rintro e w5 ⟨rfl,k5⟩;rw [hbf])
   try go_wp2_with fail
   refine hK.out _ _ ?_ fun hHeld => ?_
   ·exact aa.trans (by assumption) (by assumption)
   clear hK K
   try simp only [ar]
   refine cU 16 (h := ?_)
   try simp only [ar]
   refine wpAnyH_done (by kernel_rfl) ?_ _
   have K5:aa X w5:=by assumption
   have ll:w5.cell? ⟨L,o,none⟩=some (.slice (some ⟨b,0,none⟩) 2 cap):=l1 _ K5
   have fr:=(TH.out.keeps K5).free
   have u0:w5.cell? ⟨b,0,none⟩=some (.int .i64 y.no):=y0 _ K5
   have u1:w5.cell? ⟨b,1,none⟩=some (.int .i64 y.cls):=y1 _ K5
   have u2:w5.cell? ⟨b,2,none⟩=some (.int .i64 y.cpu):=y2 _ K5
   have u3:w5.cell? ⟨b,3,none⟩=some (.int .i64 y.st):=y3 _ K5
   have u4:w5.cell? ⟨b,4,none⟩=some (.bool y.idle):=y4 _ K5
   have u5:w5.cell? ⟨b,5,none⟩=some (.int .i64 y.prio):=y5 _ K5
   have u6:w5.cell? ⟨b,6,none⟩=some (.int .i64 y.round):=y6 _ K5
   have u7:w5.cell? ⟨b,7,none⟩=some (.int .i64 y.left):=y7 _ K5
   have u8:w5.cell? ⟨b,8,none⟩=some (.int .i64 y.seq):=y8 _ K5
   have v0:w5.cell? ⟨b,9,none⟩=some (.int .i64 x.no):=x0 _ K5
   have v1:w5.cell? ⟨b,10,none⟩=some (.int .i64 x.cls):=x1 _ K5
   have v2:w5.cell? ⟨b,11,none⟩=some (.int .i64 x.cpu):=x2 _ K5
   have v3:w5.cell? ⟨b,12,none⟩=some (.int .i64 x.st):=x3 _ K5
   have v4:w5.cell? ⟨b,13,none⟩=some (.bool x.idle):=x4 _ K5
   have v5:w5.cell? ⟨b,14,none⟩=some (.int .i64 x.prio):=x5 _ K5
   have v6:w5.cell? ⟨b,15,none⟩=some (.int .i64 x.round):=x6 _ K5
   have v7:w5.cell? ⟨b,16,none⟩=some (.int .i64 x.left):=x7 _ K5
   have v8:w5.cell? ⟨b,17,none⟩=some (.int .i64 x.seq):=x8 _ K5
   clear l1 y0 y1 y2 y3 y4 y5 y6 y7 y8 x0 x1 x2 x3 x4 x5 x6 x7 x8 k5 hHeld
   go_wp2_with fail
   go_region
   have D:=(TH.out.keeps K5).swap (KH.out.trans K5) h0
   change Exit.then _ _ _ _ (putC (putC w5 b 9 (aT y).toList) b 0 (aT x).toList).drew
   clear u0 u1 u2 u3 u4 u5 u6 u7 u8 v0 v1 v2 v3 v4 v5 v6 v7 v8 fr ll
   generalize (putC (putC w5 b 9 (aT y).toList) b 0 (aT x).toList).drew=Y at D ⊢
   have DH:Hid (vF W0 L o C x Y):=D
   clear D
   go_wp2
   go_end0
   exact ⟨rfl,by rw [Hb.out];exact DH.out⟩
set_option maxHeartbeats 1000000 in
theorem zt (x:ag) (L o:Nat) (w:World) (hp:x.prio=(o:Int)+1) (ho:o < 20) {Q:World->Prop}
  (H:∀ w1,aa w w1->Calls Tryz.prog 326 #[.pointer (some ⟨L,o,none⟩),.agg (aT x)] w1 fun e w'=>e = .returned (.tuple #[]) /\ Q w') :
  Calls Tryz.prog 324 #[.pointer (some ⟨L,0,none⟩),.agg (aT x)] w fun e w'=>e = .returned (.tuple #[]) /\ Q w':=by
 have HH:Hid (∀ w1,aa w w1->Calls Tryz.prog 326 #[.pointer (some ⟨L,o,none⟩),.agg (aT x)] w1 fun e w'=>e = .returned (.tuple #[]) /\ Q w'):=H
 have e1:IntKind.i64.wrap (x.prio - 1)=(o:Int):=(Go.IntWalk.i64_in _ (by omega)).trans (by omega)
 have o1:(o:Int) < 20:=by omega
 clear H hp
 go_enter Tryz.func324,Tryz.ntmps324
 go_wp2_with fail
 have kW:=cZ w (.cells (aT x) 171)
 have r1:=dE w (aT x) 171
 generalize w.alloc (.cells (aT x) 171)=W at *
 have R1:Hid (∀ w',aa W w'->Calls Tryz.prog 326 #[.pointer (some ⟨L,o,none⟩),.agg (aT x)] w' fun e w'=>e = .returned (.tuple #[]) /\ Q w'):=fun w' h=>HH.out w' (kW.trans h)
 go_region_with (go_at_call 326;refine (R1.out _ (aa.refl W).drew).mono ?_;rintro e w1 ⟨rfl,k1⟩)
 all_goals
  go_wp2
  go_end0
  exact ⟨rfl,k1⟩
set_option maxHeartbeats 1000000 in
theorem Gr (L o b n cap:Nat) (z:ag) (w:World) (ho:o < 20) (hn:0 < n) (hL:w.cell? ⟨L,o,none⟩=some (.slice (some ⟨b,0,none⟩) n cap)) (hE:∀ k,o < k->k < 20->w.cell? ⟨L,k,none⟩=some (.slice none 0 0)) (hz:∀ k,k < 9->w.cell? ⟨b,k,none⟩=(aT z)[k]?) :
  Calls Tryz.prog 325 #[.pointer (some ⟨L,0,none⟩)] w fun e w'=>e = .returned (.agg (aT z)) /\ aa w w':=by
 have vG:=World.block_lt_of_cell? w _ hL
 have hlb:=World.block_lt_of_cell? w _ (hz 0 (by omega))
 go_enter Tryz.func325,Tryz.ntmps325
 go_wp2_with fail
 have kW:=cZ w (.cells (aT ag.zero) 171)
 have R:=ai.new w (aT ag.zero) 171
 have HL:Hid ((w.alloc (.cells (aT ag.zero) 171)).cell? ⟨L,o,none⟩=some (.slice (some ⟨b,0,none⟩) n cap)):=(kW.cells _ _ vG).trans hL
 have HE:Hid (∀ k,o < k->k < 20->(w.alloc (.cells (aT ag.zero) 171)).cell? ⟨L,k,none⟩=some (.slice none 0 0)):=fun k h1 h2=>(kW.cells _ _ vG).trans (hE k h1 h2)
 have HZ:Hid (∀ k,k < 9->(w.alloc (.cells (aT ag.zero) 171)).cell? ⟨b,k,none⟩=(aT z)[k]?):=fun k h1=>(kW.cells _ _ hlb).trans (hz k h1)
 have RH:Hid (ai (w.alloc (.cells (aT ag.zero) 171)) w.heap.size (aT ag.zero)):=R
 clear hL hE hz R hlb vG
 obtain ⟨W,HW⟩:∃ W,Hid (w.alloc (.cells (aT ag.zero) 171)=W):=⟨_,rfl⟩
 rw [HW.out] at HL HE HZ RH kW
 go_loopw [3] (fun i wr=>∃ k:Nat,o <= k /\ k < 20 /\ i = .int .i64 k /\ wr=W) (fun i _=>(intOf i).toNat)
 case atStart=>exact ⟨19,by omega,by omega,rfl,HW.out⟩
 case round =>
  obtain ⟨k,hk,hk2,rfl,hw⟩:=hrel
  have hw2:=hw.symm
  subst hw2
  have k1:(k:Int) < 20:=by omega
  by_cases ho2:o < k
  ·have c1:=HE.out k ho2 hk2
   go_wp2
   exact ⟨⟨k - 1,by omega,by omega,by go_num,trivial⟩,by simp only [intOf];omega⟩
  ·obtain rfl:k=o:=by omega
   have c1:=HL.out
   have n1:((n:Int)==0)=false:=by simp;omega
   go_wp2_with fail
   refine (E7 L k b n cap z _ hn HL.out HZ.out).mono ?_
   rintro e w1 ⟨rfl,k1⟩
   have R1:Hid (ai w1 w.heap.size (aT ag.zero)):=RH.out.keeps k1
   have K1:Hid (aa w w1):=kW.trans k1
   obtain ⟨_,y1,y2⟩:=R1.out
   clear c1 k1
   go_wp2
   have D:=R1.out.putC (aT z).toList rfl
   have K:=aa.putC (b:=w.heap.size) (by omega) (aT z).toList 0 K1.out
   change bodyPost _ _ _ _ _ (putC w1 (w.heap.size) 0 (aT z).toList)
   generalize putC w1 (w.heap.size) 0 (aT z).toList=X at D K ⊢
   exact bodyPost_ret (v := .agg (aT z)) (by simp [results,Tryz.results325,go_sem,D.cells]) rfl ⟨rfl,K⟩
end
variable {p:Bool}
attribute [local go_sem] aa.refl aa.alloc aa.drew aa.drewN
theorem Jd {l:Lk} {k:Nat} {x:Int} (hx:l.waits[k]?=some x) (h:aF x 1 1000=false):ik l=false:=by
 unfold ik
 have:l.waits.all (fun x=>aF x 1 1000)=false:=by
  rw [List.all_eq_false]
  exact ⟨x,List.mem_of_getElem? hx,by rw [h];simp⟩
 rw [this];rfl
theorem Je {l:Lk} (H:∀ (j:Nat) (x:Int),l.waits[j]?=some x->aF x 1 1000=true):ik l=(aF l.owner 0 1000&&(!(l.owner==0)||l.waits.length==0)):=by
 unfold ik
 have:l.waits.all (fun x=>aF x 1 1000)=true:=by
  rw [List.all_eq_true]
  intro x hx
  obtain ⟨j,hj,rfl⟩:=List.mem_iff_getElem.1 hx
  exact H j _ (List.getElem?_eq_getElem hj)
 rw [this];rfl
set_option maxHeartbeats 2000000 in
theorem Jf (o:Int) (a:Option Addr) (cap:Nat) (xs:List Int) (w:World) (hl:xs.length <= maxLen) (hs:Ns w a xs) :
  Calls Tryz.prog 160 #[.agg #[.int .i64 o,.slice a xs.length cap]] w fun e w'=>e = .returned (.bool (ik ⟨o,xs⟩)) /\ aa w w':=by
 unfold maxLen at hl
 generalize hn:xs.length=n at hl
 have Hn:Hid (xs.length=n):=hn
 clear hn
 go_enter Tryz.func160,Tryz.ntmps160
 go_wp2
 go_loopw [8] (fun i wr=>∃ k:Nat,k <= n /\ i = .int .i64 k /\ wr=w.alloc (.cells #[.int .i64 o,.slice a n cap] 37) /\ Hid (∀ (j:Nat) (y:Int),j < k->xs[j]?=some y->aF y 1 1000=true)) (fun i _=>n - (intOf i).toNat)
 case atStart=>exact ⟨0,Nat.zero_le _,rfl,rfl,fun j y hj=>by omega⟩
 case round =>
  obtain ⟨k,hk,rfl,rfl,H⟩:=hrel
  by_cases hlt:k < n
  ·obtain ⟨y,hy⟩:=bW (xs:=xs) (k:=k) (by rw [Hn.out];exact hlt)
   obtain ⟨b,off,rfl,r0⟩:=hs.at hy
   have hlt':(k:Int) < (n:Int):=by omega
   have Hy:Hid (xs[k]?=some y):=hy
   clear hs hy
   cases hq:aF y 1 1000
   ·have Hr:Hid (ik ⟨o,xs⟩=false):=Jd (l:=⟨o,xs⟩) Hy.out hq
    go_wp2_with (go_at_call 105;refine (fR _ _ _ _).mono ?_;rintro e w' ⟨rfl,hw'⟩;have hw2:=hw'.symm;subst hw2;rw [hq])
    go_ret
    exact ⟨by rw [Hr.out];rfl,(aa.refl _).alloc _⟩
   ·go_wp2_with (go_at_call 105;refine (fR _ _ _ _).mono ?_;rintro e w' ⟨rfl,hw'⟩;have hw2:=hw'.symm;subst hw2;rw [hq])
    exact ⟨⟨k+1,by omega,by go_num,by first | rfl | trivial,fun j s hj hs=>by
     by_cases e:j=k
     ·subst e;rw [Hy.out] at hs;cases hs;exact hq
     ·exact H.out j s (by omega) hs⟩,by simp only [intOf];omega⟩
  ·have Hr:Hid (ik ⟨o,xs⟩=(aF o 0 1000&&(!(o==0)||n==0))):=by
    show _=_
    rw [Je (l:=⟨o,xs⟩) fun j y hy=>H.out j y (by have:=da hy;rw [Hn.out] at this;omega) hy]
    simp only [Hn.out]
   clear H
   cases hq:aF o 0 1000
   ·have Hz:Hid (ik ⟨o,xs⟩=false):=by show _=_;rw [Hr.out,hq];rfl
    go_wp2_with (go_at_call 105;refine (fR _ _ _ _).mono ?_;rintro e w' ⟨rfl,hw'⟩;have hw2:=hw'.symm;subst hw2;rw [hq])
    go_ret
    exact ⟨by rw [Hz.out];rfl,(aa.refl _).alloc _⟩
   ·have oJ:(o==0) = !(o != 0):=by simp [bne]
    cases h0:(o != 0)
    ·cases h1:((n:Int)==0)
     ·have Hz:Hid (ik ⟨o,xs⟩=false):=by show _=_;rw [Hr.out,hq,oJ,h0];simp at h1 ⊢;omega
      go_wp2_with (go_at_call 105;refine (fR _ _ _ _).mono ?_;rintro e w' ⟨rfl,hw'⟩;have hw2:=hw'.symm;subst hw2;rw [hq])
      go_ret
      exact ⟨by rw [Hz.out];rfl,(aa.refl _).alloc _⟩
     ·have Hz:Hid (ik ⟨o,xs⟩=true):=by show _=_;rw [Hr.out,hq,oJ,h0];simp at h1 ⊢;omega
      go_wp2_with (go_at_call 105;refine (fR _ _ _ _).mono ?_;rintro e w' ⟨rfl,hw'⟩;have hw2:=hw'.symm;subst hw2;rw [hq])
      go_ret
      exact ⟨by rw [Hz.out];rfl,(aa.refl _).alloc _⟩
    ·have Hz:Hid (ik ⟨o,xs⟩=true):=by show _=_;rw [Hr.out,hq,oJ,h0];rfl
     go_wp2_with (go_at_call 105;refine (fR _ _ _ _).mono ?_;rintro e w' ⟨rfl,hw'⟩;have hw2:=hw'.symm;subst hw2;rw [hq])
     go_ret
     exact ⟨by rw [Hz.out];rfl,(aa.refl _).alloc _⟩
def lu (ls:List Lk):Bool:=ls.all ik
theorem Jg {ls:List Lk} {k:Nat} {l:Lk} (hl:ls[k]?=some l) (h:ik l=false):lu ls=false:=by
 unfold lu
 rw [List.all_eq_false]
 exact ⟨l,List.mem_of_getElem? hl,by rw [h];simp⟩
theorem Jh {ls:List Lk} (H:∀ (j:Nat) (l:Lk),ls[j]?=some l->ik l=true):lu ls=true:=by
 unfold lu
 rw [List.all_eq_true]
 intro l hl
 obtain ⟨j,hj,rfl⟩:=List.mem_iff_getElem.1 hl
 exact H j _ (List.getElem?_eq_getElem hj)
set_option maxHeartbeats 2000000 in
theorem Ji (a:Option Addr) (cap:Nat) (ls:List Lk) (w:World) (hl:ls.length <= maxLen) (hs:dU p w a ls) :
  Calls Tryz.prog 122 #[.slice a ls.length cap] w fun e w'=>e = .returned (.bool (lu ls)) /\ aa w w':=by
 unfold maxLen at hl
 generalize hn:ls.length=n at hl
 have Hn:Hid (ls.length=n):=hn
 clear hn
 go_enter Tryz.func122,Tryz.ntmps122
 go_wp2
 go_loopw [7] (fun i wr=>∃ k:Nat,k <= n /\ i = .int .i64 k /\ aa w wr /\ Hid (∀ (j:Nat) (m:Lk),j < k->ls[j]?=some m->ik m=true)) (fun i _=>n - (intOf i).toNat)
 case atStart=>exact ⟨0,Nat.zero_le _,rfl,aa.refl _,fun j y hj=>by omega⟩
 case round =>
  obtain ⟨k,hk,rfl,hK,H⟩:=hrel
  by_cases hlt:k < n
  ·obtain ⟨l,hl1⟩:=bW (xs:=ls) (k:=k) (by rw [Hn.out];exact hlt)
   obtain ⟨b,off,a',cap',rfl,r0,r1,hle,hns⟩:=hs.at hl1
   have hlt':(k:Int) < (n:Int):=by omega
   have Hl:Hid (ls[k]?=some l):=hl1
   have lx:Hid (l.waits.length <= maxLen):=hle
   have N1:Hid (Ns w a' l.waits):=hns
   clear hs hl1 hle hns
   obtain ⟨q,Hq⟩:∃ q,Hid (ik l=q):=⟨_,rfl⟩
   have C1:∀ o,Calls Tryz.prog 160 #[.agg #[.int .i64 l.owner,.slice a' l.waits.length cap']] (wr.alloc o) fun e w'=>e = .returned (.bool q) /\ aa (wr.alloc o) w':=fun o=>by
    have:=Jf l.owner a' cap' l.waits (wr.alloc o) lx.out (N1.out.keeps (hK.alloc o))
    rwa [show (⟨l.owner,l.waits⟩:Lk)=l from rfl,Hq.out] at this
   have Az:Hid (∀ o,Calls Tryz.prog 160 #[.agg #[.int .i64 l.owner,.slice a' l.waits.length cap']] (wr.alloc o) fun e w'=>e = .returned (.bool q) /\ aa (wr.alloc o) w'):=C1
   clear C1
   cases q
   ·have Hr:Hid (lu ls=false):=Jg Hl.out Hq.out
    go_wp2_with (go_at_call 160;refine (Az.out _).mono ?_;rintro e w1 ⟨rfl,k1⟩)
    go_ret
    exact ⟨by rw [Hr.out];rfl,(hK.alloc _).trans k1⟩
   ·go_wp2_with (go_at_call 160;refine (Az.out _).mono ?_;rintro e w1 ⟨rfl,k1⟩)
    exact ⟨⟨k+1,by omega,by go_num,(hK.alloc _).trans k1,fun j s hj hs=>by
     by_cases e:j=k
     ·subst e;rw [Hl.out] at hs;cases hs;exact Hq.out
     ·exact H.out j s (by omega) hs⟩,by simp only [intOf];omega⟩
  ·have Hr:Hid (lu ls=true):=Jh fun j m hm=>H.out j m (by have:=da hm;rw [Hn.out] at this;omega) hm
   go_wp2
   go_ret
   exact ⟨by rw [Hr.out];rfl,hK⟩
def j0 (ls:List Lk):Bool:=ls.all fun l=>(cO ls (ls.length+1) l.owner).2
theorem Jj {ls:List Lk} {k:Nat} {l:Lk} (hl:ls[k]?=some l) (h:(cO ls (ls.length+1) l.owner).2=false):j0 ls=false:=by
 unfold j0
 rw [List.all_eq_false]
 exact ⟨l,List.mem_of_getElem? hl,by rw [h];simp⟩
theorem Jk {ls:List Lk} (H:∀ (j:Nat) (l:Lk),ls[j]?=some l->(cO ls (ls.length+1) l.owner).2=true):j0 ls=true:=by
 unfold j0
 rw [List.all_eq_true]
 intro l hl
 obtain ⟨j,hj,rfl⟩:=List.mem_iff_getElem.1 hl
 exact H j _ (List.getElem?_eq_getElem hj)
set_option maxHeartbeats 2000000 in
theorem Jl (B:Nat) (a:Option Addr) (cap:Nat) (ls:List Lk) (w:World) (hl:ls.length <= 2097152) (hs:dU p w a ls) (hm:aW w B (dK ls)) :
  Calls Tryz.prog 124 #[.slice a ls.length cap,.map (some B)] w fun e w'=>e = .returned (.bool (j0 ls)) /\ aa w w':=by
 have HS:Hid (dU p w a ls):=hs
 have CF:Hid (∀ no w',aa w w'->Calls Tryz.prog 76 #[.map (some B),.int .i64 no,.slice a ls.length cap] w' fun e w''=>∃ v,e = .returned (.tuple #[v,.bool (cO ls (ls.length+1) no).2]) /\ ((cO ls (ls.length+1) no).2=true->aS w'' w'.heap.size v (cO ls (ls.length+1) no).1) /\ aa w' w''):=fun no w' k=>yx B a cap ls no w' hl (hs.keeps k) (hm.keeps k)
 clear hs hm
 have HE:Hid (∀ (k:Nat) (l:Lk),ls[k]?=some l->(cO ls (ls.length+1) l.owner).2=false->j0 ls=false):=fun k l=>Jj
 have HO:Hid ((∀ (j:Nat) (l:Lk),ls[j]?=some l->(cO ls (ls.length+1) l.owner).2=true)->j0 ls=true):=Jk
 generalize hn:ls.length=n at *
 have Hn:Hid (ls.length=n):=hn
 clear hn
 go_enter Tryz.func124,Tryz.ntmps124
 go_wp2
 go_loopw [11] (fun i wr=>∃ k:Nat,k <= n /\ i = .int .i64 k /\ aa w wr /\ Hid (∀ (j:Nat) (m:Lk),j < k->ls[j]?=some m->(cO ls (n+1) m.owner).2=true)) (fun i _=>n - (intOf i).toNat)
 case atStart=>exact ⟨0,Nat.zero_le _,rfl,aa.refl _,fun j y hj=>by omega⟩
 case round =>
  obtain ⟨k,hk,rfl,hK,H⟩:=hrel
  by_cases hlt:k < n
  ·obtain ⟨l,hl1⟩:=bW (xs:=ls) (k:=k) (by rw [Hn.out];exact hlt)
   obtain ⟨b,off,a',cap',rfl,r0,r1,-,-⟩:=HS.out.at hl1
   have hlt':(k:Int) < (n:Int):=by omega
   have Hl:Hid (ls[k]?=some l):=hl1
   clear hl1
   obtain ⟨q,Hq⟩:∃ q,Hid ((cO ls (n+1) l.owner).2=q):=⟨_,rfl⟩
   have C1:Hid (∀ o,Calls Tryz.prog 76 #[.map (some B),.int .i64 l.owner,.slice (some ⟨b,off,none⟩) n cap] (wr.alloc o) fun e w'=>∃ v,e = .returned (.tuple #[v,.bool q]) /\ aa (wr.alloc o) w'):=fun o=>by
    refine (CF.out l.owner (wr.alloc o) (hK.alloc o)).mono ?_
    rintro e w' ⟨v,rfl,-,k'⟩
    rw [Hq.out]
    exact ⟨v,rfl,k'⟩
   cases q
   ·have Hr:Hid (j0 ls=false):=HE.out k l Hl.out Hq.out
    go_wp2_with (go_at_call 76;refine (C1.out _).mono ?_;rintro e w1 ⟨v,rfl,k1⟩)
    go_ret
    exact ⟨by rw [Hr.out];rfl,(hK.alloc _).trans k1⟩
   ·go_wp2_with (go_at_call 76;refine (C1.out _).mono ?_;rintro e w1 ⟨v,rfl,k1⟩)
    exact ⟨⟨k+1,by omega,by go_num,(hK.alloc _).trans k1,fun j s hj hs=>by
     by_cases e:j=k
     ·subst e;rw [Hl.out] at hs;cases hs;exact Hq.out
     ·exact H.out j s (by omega) hs⟩,by simp only [intOf];omega⟩
  ·have Hr:Hid (j0 ls=true):=HO.out fun j m hm=>H.out j m (by have:=da hm;rw [Hn.out] at this;omega) hm
   go_wp2
   go_ret
   exact ⟨by rw [Hr.out];rfl,hK⟩
theorem Jm (ls:List Lk):(decide (ls.length <= 5)&&(lu ls&&(decide ((dK ls).length=bC ls)&&j0 ls)))=dm ls:=EX ls
set_option maxHeartbeats 2000000 in
theorem vH (a:Option Addr) (cap:Nat) (ls:List Lk) (w:World) (hl:bT ls <= 2097152) (hs:dU p w a ls) :
  Calls Tryz.prog 75 #[.slice a ls.length cap] w fun e w'=>e = .returned (.bool (dm ls)) /\ aa w w':=by
 have hl0:ls.length <= 2097152:=by unfold bT at hl;omega
 have E1:Hid (∀ w',aa w w'->Calls Tryz.prog 122 #[.slice a ls.length cap] w' fun e w''=>e = .returned (.bool (lu ls)) /\ aa w' w''):=fun w' k=>Ji a cap ls w' (by unfold maxLen;omega) (hs.keeps k)
 have E2:Hid (∀ w',aa w w'->Calls Tryz.prog 42 #[.slice a ls.length cap] w' fun e w''=>e = .returned (.map (some w'.heap.size)) /\ aW w'' w'.heap.size (dK ls) /\ aa w' w''):=fun w' k=>sS a cap ls w' hl (hs.keeps k)
 have E3:Hid (∀ w',aa w w'->Calls Tryz.prog 123 #[.slice a ls.length cap] w' fun e w''=>e = .returned (.int .i64 (bC ls)) /\ aa w' w''):=fun w' k=>E6 a cap ls w' hl (hs.keeps k)
 have E4:Hid (∀ B w',aa w w'->aW w' B (dK ls)->Calls Tryz.prog 124 #[.slice a ls.length cap,.map (some B)] w' fun e w''=>e = .returned (.bool (j0 ls)) /\ aa w' w''):=fun B w' k m=>Jl B a cap ls w' hl0 (hs.keeps k) m
 have HP:Hid ((decide (ls.length <= 5)&&(lu ls&&(decide ((dK ls).length=bC ls)&&j0 ls)))=dm ls):=Jm ls
 have rj:Hid (bC ls <= 2097152):=by show _ <= _;unfold bT at hl;omega
 have Hpl:Hid ((dK ls).length <= bC ls):=(yr ls).1
 clear hl hs
 generalize hn:ls.length=n at *
 obtain ⟨g1,G1⟩:∃ g,Hid (lu ls=g):=⟨_,rfl⟩
 obtain ⟨g2,G2⟩:∃ g,Hid (j0 ls=g):=⟨_,rfl⟩
 obtain ⟨s,Hs⟩:∃ s,Hid (bC ls=s):=⟨_,rfl⟩
 obtain ⟨m,Hm⟩:∃ m,Hid ((dK ls).length=m):=⟨_,rfl⟩
 obtain ⟨E,HE⟩:∃ E,Hid (dK ls=E):=⟨_,rfl⟩
 rw [G1.out] at E1
 rw [HE.out] at E2 E4
 rw [Hs.out] at E3 rj
 rw [G2.out] at E4
 rw [G1.out,G2.out,Hs.out,Hm.out] at HP
 have AA:Hid (E.length=m):=by show _=_;rw [<- HE.out];exact Hm.out
 have hs0:s <= 2097152:=rj.out
 have hm0:m <= 2097152:=by have:=Hpl.out;rw [Hm.out,Hs.out] at this;omega
 clear hn Hpl
 by_cases h5:n <= 5
 ·have h5':decide ((5:Int) < (n:Int))=false:=by simp;omega
  have d5:decide (n <= 5)=true:=decide_eq_true h5
  cases g1
  ·have Hr:Hid (dm ls=false):=by show _=_;rw [<- HP.out,d5];rfl
   go_enter Tryz.func75,Tryz.ntmps75
   go_wp2_with (go_at_call 122;refine (E1.out _ (aa.refl _)).mono ?_;rintro e w1 ⟨rfl,k1⟩)
   go_ret
   exact ⟨by rw [Hr.out];rfl,k1⟩
  ·by_cases hms:m=s
   ·have Hr:Hid (dm ls=g2):=by show _=_;rw [<- HP.out,d5,decide_eq_true hms];rfl
    subst hms
    have Jn:((m:Int)==(m:Int))=true:=by simp
    go_enter Tryz.func75,Tryz.ntmps75
    go_wp2_with (first
     | (go_at_call 122;refine (E1.out _ (aa.refl _)).mono ?_;rintro e w1 ⟨rfl,k1⟩)
     | (go_at_call 42;refine (E2.out _ k1).mono ?_;rintro e w2 ⟨rfl,m2,k2⟩;have K2:aa w w2:=k1.trans k2;have M2:Hid (aW w2 w1.heap.size E):=m2;have hlen:∀ ty,(Builtin.len_ #[77] ty #[.map (some w1.heap.size)]).run Tryz.prog w2 = .ok (.int .i64 m) w2:=(fun ty=>by have h:=aW.len m2 (P:=Tryz.prog) (t:=77) Tryz.underlying77 ty;rw [AA.out] at h;exact h);clear m2)
     | (go_at_call 123;refine (E3.out _ K2).mono ?_;rintro e w3 ⟨rfl,k3⟩;have K3:aa w w3:=K2.trans k3)
     | (go_at_call 124;refine (E4.out _ _ K3 (M2.out.keeps k3)).mono ?_;rintro e w4 ⟨rfl,k4⟩))
    go_ret
    exact ⟨by rw [Hr.out];rfl,K3.trans k4⟩
   ·have Hr:Hid (dm ls=false):=by show _=_;rw [<- HP.out,d5,decide_eq_false hms];rfl
    have hne:((m:Int)==(s:Int))=false:=by simp;omega
    go_enter Tryz.func75,Tryz.ntmps75
    go_wp2_with (first
     | (go_at_call 122;refine (E1.out _ (aa.refl _)).mono ?_;rintro e w1 ⟨rfl,k1⟩)
     | (go_at_call 42;refine (E2.out _ k1).mono ?_;rintro e w2 ⟨rfl,m2,k2⟩;have K2:aa w w2:=k1.trans k2;have M2:Hid (aW w2 w1.heap.size E):=m2;have hlen:∀ ty,(Builtin.len_ #[77] ty #[.map (some w1.heap.size)]).run Tryz.prog w2 = .ok (.int .i64 m) w2:=(fun ty=>by have h:=aW.len m2 (P:=Tryz.prog) (t:=77) Tryz.underlying77 ty;rw [AA.out] at h;exact h);clear m2)
     | (go_at_call 123;refine (E3.out _ K2).mono ?_;rintro e w3 ⟨rfl,k3⟩;have K3:aa w w3:=K2.trans k3))
    go_ret
    exact ⟨by rw [Hr.out];rfl,K3⟩
 ·have h5':(5:Int) < (n:Int):=by omega
  have Hr:Hid (dm ls=false):=by show _=_;rw [<- HP.out,decide_eq_false h5];rfl
  go_enter Tryz.func75,Tryz.ntmps75
  go_wp2
  go_ret
  exact ⟨by rw [Hr.out];rfl,aa.refl _⟩
set_option maxHeartbeats 1000000 in
theorem Jo (a:Option Addr) (cap:Nat) (ls:List Lk) (no:Int) (w:World) (hl:bT ls <= 2097152) (hs:dU p w a ls) :
  Calls Tryz.prog 15 #[.slice a ls.length cap,.int .i64 no] w fun e w'=>e = .returned (.int .i64 (d8 ls no)) /\ aa w w':=by
 have E2:=sS a cap ls w hl hs
 cases hx:dj ls no with
 | none =>
  have HQ:Hid (cX (dK ls) no=false):=yk hx
  obtain ⟨v,Hv⟩:∃ v,Hid (f9 (dK ls) no=v):=⟨_,rfl⟩
  have Hr:Hid (d8 ls no = -1):=by show _=_;unfold d8;rw [hx]
  go_enter Tryz.func15,Tryz.ntmps15
  go_wp2_with (first
   | (go_at_call 42;refine E2.mono ?_;rintro e w2 ⟨rfl,m2,k2⟩;have M2:Hid (aW w2 w.heap.size (dK ls)):=m2;clear m2)
   | (at_lookup;refine qc3 rfl _ _ 77 rfl 3 3 Tryz.underlying77 Tryz.underlying3 (mn _) w.heap.size (dK ls) rfl M2.out no rfl v false Hv.out HQ.out ?_))
  go_ret
  exact ⟨by rw [Hr.out];rfl,k2⟩
 | some i =>
  have HQ:Hid (cX (dK ls) no=true):=(sP hx).1
  have Hv:Hid (f9 (dK ls) no=(i:Int)):=(sP hx).2
  have Hr:Hid (d8 ls no=(i:Int)):=by show _=_;unfold d8;rw [hx]
  go_enter Tryz.func15,Tryz.ntmps15
  go_wp2_with (first
   | (go_at_call 42;refine E2.mono ?_;rintro e w2 ⟨rfl,m2,k2⟩;have M2:Hid (aW w2 w.heap.size (dK ls)):=m2;clear m2)
   | (at_lookup;refine qc3 rfl _ _ 77 rfl 3 3 Tryz.underlying77 Tryz.underlying3 (mn _) w.heap.size (dK ls) rfl M2.out no rfl (i:Int) true Hv.out HQ.out ?_))
  go_ret
  exact ⟨by rw [Hr.out];rfl,k2⟩
set_option maxHeartbeats 1000000 in
theorem Jp (a:Option Addr) (cap:Nat) (ls:List Lk) (no:Int) (w:World) (hl:bT ls <= 2097152) (hs:dU p w a ls) :
  Calls Tryz.prog 34 #[.slice a ls.length cap,.int .i64 no] w fun e w'=>∃ v,e = .returned v /\ aS w' w.heap.size v (fG ls no) /\ aa w w':=by
 have hl0:ls.length <= 2097152:=by unfold bT at hl;omega
 have E1:=vH a cap ls w hl hs
 have E2:Hid (∀ w',aa w w'->Calls Tryz.prog 42 #[.slice a ls.length cap] w' fun e w''=>e = .returned (.map (some w'.heap.size)) /\ aW w'' w'.heap.size (dK ls) /\ aa w' w''):=fun w' k=>sS a cap ls w' hl (hs.keeps k)
 have CF:Hid (∀ B w',aa w w'->aW w' B (dK ls)->Calls Tryz.prog 76 #[.map (some B),.int .i64 no,.slice a ls.length cap] w' fun e w''=>∃ v,e = .returned (.tuple #[v,.bool (cO ls (ls.length+1) no).2]) /\ ((cO ls (ls.length+1) no).2=true->aS w'' w'.heap.size v (cO ls (ls.length+1) no).1) /\ aa w' w''):=fun B w' k m=>yx B a cap ls no w' hl0 (hs.keeps k) m
 clear hs hl
 cases hb:dm ls
 ·rw [hb] at E1
  have Hr:Hid (fG ls no=[]):=by show _=_;unfold fG;rw [hb];rfl
  obtain ⟨n,Hn⟩:∃ n,Hid (ls.length=n):=⟨_,rfl⟩
  rw [Hn.out] at E1 ⊢
  go_enter Tryz.func34,Tryz.ntmps34
  go_wp2_with (go_at_call 75;refine E1.mono ?_;rintro e w1 ⟨rfl,k1⟩)
  go_ret
  exact ⟨_,rfl,by rw [Hr.out];exact World.ownsRow_nil _ _ _ _,k1⟩
 ·rw [hb] at E1
  have R:=lK.1 hb
  have Ht:Hid ((cO ls (ls.length+1) no).2=true):=by
   show _=_
   obtain ⟨d,hd⟩:=R.chain no
   exact sR.2 ⟨d,hd⟩
  have Hr:Hid (fG ls no=(cO ls (ls.length+1) no).1):=by show _=_;unfold fG;rw [hb];rfl
  clear R
  obtain ⟨n,Hn⟩:∃ n,Hid (ls.length=n):=⟨_,rfl⟩
  rw [Hn.out] at E1 E2 CF Ht Hr ⊢
  obtain ⟨C,HC⟩:∃ C,Hid (cO ls (n+1) no=C):=⟨_,rfl⟩
  rw [HC.out] at CF Ht Hr
  rw [Ht.out] at CF
  go_enter Tryz.func34,Tryz.ntmps34
  go_wp2_with (first
   | (go_at_call 75;refine E1.mono ?_;rintro e w1 ⟨rfl,k1⟩)
   | (go_at_call 42;refine (E2.out _ k1).mono ?_;rintro e w2 ⟨rfl,m2,k2⟩;have K2:aa w w2:=k1.trans k2;have M2:Hid (aW w2 w1.heap.size (dK ls)):=m2;clear m2)
   | (go_at_call 76;refine (CF.out _ _ K2 M2.out).mono ?_;rintro e w3 ⟨v,rfl,o3,k3⟩;have O3:Hid (aS w3 w2.heap.size v C.1):=o3 (by trivial);clear o3))
  go_ret
  exact ⟨_,rfl,by rw [Hr.out];exact O3.out.base K2.size,K2.trans k3⟩
section
attribute [local go_sem] aa.refl aa.alloc aa.drew aa.drewN
theorem vI (a:Option Addr) (cap n:Nat) (i:Int) (w:World) (hl:n <= maxLen) :
  Calls Tryz.prog 186 #[.slice a n cap,.int .i64 i] w fun e w'=>e = .returned (.bool (aF i 0 ((n:Int) - 1))) /\ w'=w:=by
 unfold maxLen at hl
 have nx:IntKind.i64.wrap ((n:Int) - 1)=(n:Int) - 1:=Go.IntWalk.i64_in _ (by omega)
 obtain ⟨q,Hq⟩:∃ q,Hid (aF i 0 ((n:Int) - 1)=q):=⟨_,rfl⟩
 rw [Hq.out]
 go_enter Tryz.func186,Tryz.ntmps186
 go_wp2_with (go_at_call 105;refine (fR _ _ _ _).mono ?_;rintro e w' ⟨rfl,hw'⟩;have hw2:=hw'.symm;subst hw2;rw [Hq.out])
 go_ret
 exact ⟨rfl,rfl⟩
def l6 (l:Lk) (no next:Int):Bool := !(no==0)&&(l.owner==no&&lZ l.waits next)
set_option maxHeartbeats 1000000 in
theorem Jq (o:Int) (a:Option Addr) (cap:Nat) (xs:List Int) (no next:Int) (w:World) (hl:xs.length <= maxLen) (hs:Ns w a xs) :
  Calls Tryz.prog 192 #[.agg #[.int .i64 o,.slice a xs.length cap],.int .i64 no,.int .i64 next] w fun e w'=>e = .returned (.bool (l6 ⟨o,xs⟩ no next)) /\ aa w w':=by
 have E1:Hid (∀ w',aa w w'->Calls Tryz.prog 211 #[.slice a xs.length cap,.int .i64 next] w' fun e w''=>e = .returned (.bool (hasB xs next)) /\ aa w' w''):=fun w' k=>E5 a cap xs next w' hl (hs.keeps k)
 have HP:Hid (l6 ⟨o,xs⟩ no next=(!(no==0)&&(o==no&&(if xs.length==0 then next==0 else hasB xs next)))):=rfl
 unfold maxLen at hl
 clear hs
 generalize hn:xs.length=n at *
 clear hn
 obtain ⟨g,Hg⟩:∃ g,Hid (hasB xs next=g):=⟨_,rfl⟩
 rw [Hg.out] at E1 HP
 have sy:(o==no) = !(no != o):=by simp only [bne,Bool.not_not];exact Bool.beq_comm
 rw [sy] at HP
 cases c1:(no==0)
 rotate_left
 ·have Hr:Hid (l6 ⟨o,xs⟩ no next=false):=by show _=_;rw [HP.out,c1];rfl
  go_enter Tryz.func192,Tryz.ntmps192
  go_wp2
  go_ret
  exact ⟨by rw [Hr.out];rfl,(aa.refl _).alloc _⟩
 cases c2:(no != o)
 rotate_left
 ·have Hr:Hid (l6 ⟨o,xs⟩ no next=false):=by show _=_;rw [HP.out,c1,c2];rfl
  go_enter Tryz.func192,Tryz.ntmps192
  go_wp2
  go_ret
  exact ⟨by rw [Hr.out];rfl,(aa.refl _).alloc _⟩
 cases c3:((n:Int)==0)
 ·have c3':(n==0)=false:=by simp at c3 ⊢;omega
  have Hr:Hid (l6 ⟨o,xs⟩ no next=g):=by show _=_;rw [HP.out,c1,c2,c3'];rfl
  go_enter Tryz.func192,Tryz.ntmps192
  go_wp2_with (go_at_call 211;refine (E1.out _ ((aa.refl _).alloc _)).mono ?_;rintro e w1 ⟨rfl,k1⟩)
  go_ret
  exact ⟨by rw [Hr.out];rfl,((aa.refl _).alloc _).trans k1⟩
 ·have c3':(n==0)=true:=by simp at c3 ⊢;omega
  have Hr:Hid (l6 ⟨o,xs⟩ no next=(next==0)):=by show _=_;rw [HP.out,c1,c2,c3'];rfl
  go_enter Tryz.func192,Tryz.ntmps192
  go_wp2
  go_ret
  exact ⟨by rw [Hr.out];rfl,(aa.refl _).alloc _⟩
theorem AB {f:Int->Bool} {xs:List Int} {k:Nat} {y:Int} (h:xs[k]?=some y):(xs.take (k+1)).filter f=(xs.take k).filter f++(if f y then [y] else []):=by
 rw [List.take_add_one,h,List.filter_append]
 congr 1
 cases hx:f y <;> simp [hx]
set_option maxHeartbeats 2000000 in
theorem Jr (B:Nat) (E:List (Int × Int)) (o:Int) (a:Option Addr) (cap:Nat) (xs:List Int) (w:World) (hl:xs.length <= 2097152) (hs:Ns w a xs) (hm:aW w B E) :
  Calls Tryz.prog 193 #[.map (some B),.agg #[.int .i64 o,.slice a xs.length cap]] w fun e w'=>∃ v,e = .returned v /\ aS w' w.heap.size v (xs.filter fun y=>cX E y) /\ aa w w':=by
 generalize hn:xs.length=n at hl
 have Hn:Hid (xs.length=n):=hn
 clear hn
 have HS:Hid (Ns w a xs):=hs
 have HM:Hid (aW w B E):=hm
 clear hs hm
 go_enter Tryz.func193,Tryz.ntmps193
 go_wp2
 have kz:Hid (aa w (w.alloc (.cells #[.int .i64 o,.slice a n cap] 37))):=(aa.refl _).alloc _
 generalize w.alloc (.cells #[.int .i64 o,.slice a n cap] 37)=W at *
 go_loopw [5,13] (fun v i wr=>∃ (k:Nat) (ys:List Int),k <= n /\ i = .int .i64 k /\ ys.length <= k /\ Hid (aS wr w.heap.size v ys) /\ aa w wr /\ Hid ((xs.take k).filter (fun y=>cX E y)=ys)) (fun _ i _=>n - (intOf i).toNat)
 case atStart=>exact ⟨0,[],Nat.zero_le _,rfl,by simp,World.ownsRow_nil _ _ _ _,kz.out,by show _=_;simp⟩
 case round =>
  obtain ⟨k,ys,hk,rfl,hy,own,hK,HI⟩:=hrel
  clear kz
  by_cases hlt:k < n
  ·obtain ⟨y,hy1⟩:=bW (xs:=xs) (k:=k) (by rw [Hn.out];exact hlt)
   obtain ⟨b,off,rfl,r0⟩:=HS.out.at hy1
   have hlt':(k:Int) < (n:Int):=by omega
   have Hy:Hid (xs[k]?=some y):=hy1
   clear hy1
   have MM:Hid (aW wr B E):=HM.out.keeps hK
   obtain ⟨v0,Hv⟩:∃ v,Hid (f9 E y=v):=⟨_,rfl⟩
   cases hq:cX E y
   ·have HQ:Hid (cX E y=false):=hq
    clear hq
    go_wp2_with (at_lookup;refine qc3 rfl _ _ 77 rfl 3 3 Tryz.underlying77 Tryz.underlying3 (mn _) B E rfl MM.out y rfl v0 false Hv.out HQ.out ?_)
    refine ⟨⟨k+1,ys,by omega,by go_num,by omega,own,hK,?_⟩,by simp only [intOf];omega⟩
    show _=_
    rw [AB Hy.out,HI.out,HQ.out]
    simp
   ·have HQ:Hid (cX E y=true):=hq
    clear hq
    go_wp2_with (first
     | (at_lookup;refine qc3 rfl _ _ 77 rfl 3 3 Tryz.underlying77 Tryz.underlying3 (mn _) B E rfl MM.out y rfl v0 true Hv.out HQ.out ?_)
     | (at_builtin;(refine iE rfl _ _ 27 rfl w 3 (.int .i64 0) 1 8 ic Tryz.underlying27 (by kernel_rfl) rfl (by decide) fW lN _ ys rfl wr own.out hK ((aa.refl _).alloc _) y _ 1 (ai.new _ _ _) rfl ?c1 ?c2 ?_)))
    case c1=>unfold maxLen;omega
    case c2=>omega
    intro v' w5 cP k5 _
    have HO:Hid (aS w5 w.heap.size v' (ys++[y])):=cP
    clear cP own
    go_wp2
    refine ⟨⟨k+1,ys++[y],by omega,by go_num,by simp;omega,HO,k5,?_⟩,by simp only [intOf];omega⟩
    show _=_
    rw [AB Hy.out,HI.out,HQ.out]
    rfl
  ·have e:k=n:=by omega
   subst e
   have HR:Hid (xs.filter (fun y=>cX E y)=ys):=by show _=_;rw [<- HI.out,<- Hn.out,List.take_length]
   go_wp2
   go_ret
   exact ⟨_,rfl,by rw [HR.out];exact own.out,hK⟩
set_option maxHeartbeats 1000000 in
theorem AD (a:Option Addr) (cap:Nat) (xs:List Int) (w:World) (hl:xs.length <= 2097152) (hs:Ns w a xs) :
  Calls Tryz.prog 128 #[.slice a xs.length cap] w fun e w'=>e = .returned (.slice (some ⟨w.heap.size,0,none⟩) xs.length xs.length) /\ aS w' w.heap.size (.slice (some ⟨w.heap.size,0,none⟩) xs.length xs.length) xs /\ aa w w':=by
 generalize hn:xs.length=n at hl
 have Hn:Hid (xs.length=n):=hn
 clear hn
 obtain ⟨C,hC,hmk⟩:=tA (P:=Tryz.prog) 27 3 (.int .i64 0) 1 8 Tryz.underlying27 (by kernel_rfl) n (by omega) (by omega)
 have hr0:=Row.new w C 3
 have hs0:=hs.lies.keeps ((aa.refl w).alloc (.cells C 3))
 have HC:Hid (C.size=n*1):=hC
 clear hC
 go_enter Tryz.func128,Tryz.ntmps128
 go_upto_region 2 with fail
 have kW:=cZ w (.cells C 3)
 clear hmk hs
 generalize w.alloc (.cells C 3)=W at *
 have hrun:∀ ty,(Builtin.copy_ #[27,27] ty #[.slice (some ⟨w.heap.size,0,none⟩) n n,.slice a n cap]).run Tryz.prog W = .ok (goInt n) (W.setRow w.heap.size (cJ C 0 (bD ic xs))):=fun ty=>by
  have:=tC (P:=Tryz.prog) ic 1 fW (by decide) lN W 27 27 ty 3 (some ⟨w.heap.size,0,none⟩) a n n n cap C 3 w.heap.size 0 xs Tryz.underlying27 (by kernel_rfl) hr0 (by rw [Hn.out];simp) (fun _=>rfl) hs0 (by rw [Hn.out,HC.out];omega)
  rwa [Hn.out] at this
 have R1:Hid (Row (W.setRow w.heap.size (cJ C 0 (bD ic xs))) w.heap.size 3 (bD ic xs).toArray):=by
  have e:=rk (L:=bD ic xs) (C:=C) (by rw [iu fW,Hn.out,HC.out])
  have:=hr0.setRow (cJ C 0 (bD ic xs))
  show Row _ _ _ _
  rw [<- e];exact this
 have K1:Hid (aa w (W.setRow w.heap.size (cJ C 0 (bD ic xs)))):=kW.setRow (Nat.le_refl _) _
 clear hr0 hs0 kW
 generalize W.setRow w.heap.size (cJ C 0 (bD ic xs))=X at *
 go_wp2
 go_ret
 refine ⟨rfl,?_,K1.out⟩
 have:=R1.out.own (sz:=1) fW (base:=w.heap.size) (Nat.le_refl _) (by rw [Hn.out];unfold maxLen;omega)
 rwa [Hn.out] at this
set_option maxHeartbeats 4000000 in
theorem AF (a:Option Addr) (cap:Nat) (ls:List Lk) (w:World) (hl:bT ls <= 2097152) (hs:dU true w a ls) :
  Calls Tryz.prog 126 #[.slice a ls.length cap] w fun e w'=>∃ b vs,e = .returned (.slice (some ⟨b,0,none⟩) ls.length ls.length) /\ Mine w' w.heap.size w'.heap.size (.slice (some ⟨b,0,none⟩) ls.length ls.length) vs ls /\ aa w w':=by
 have hl0:ls.length <= 2097152:=by unfold bT at hl;omega
 have HL:Hid (bT ls <= 2097152):=hl
 clear hl
 generalize hn:ls.length=n at hl0
 have Hn:Hid (ls.length=n):=hn
 clear hn
 have hmk:=tD (P:=Tryz.prog) 25 37 (.agg #[.int .i64 0,.slice none 0 0]) 2 32 Tryz.underlying25 (by kernel_rfl) n (by omega) (by omega)
 simp only [Value.cells] at hmk
 have M0:Hid (Mine (w.alloc (.cells (madeCells #[.int .i64 0,.slice none 0 0] (n*2)) 37)) w.heap.size (w.heap.size+1) (.slice (some ⟨w.heap.size,0,none⟩) n n) (List.replicate n Lv.zero) (List.replicate n ⟨0,[]⟩)):=Mine.zero w n (by unfold maxLen;omega)
 go_enter Tryz.func126,Tryz.ntmps126
 go_wp2
 go_loopw [11] (fun i wr=>∃ (k:Nat) (vs:List Lv) (P:List Lk),k <= n /\ i = .int .i64 k /\ aa w wr /\ Hid (Mine wr w.heap.size wr.heap.size (.slice (some ⟨w.heap.size,0,none⟩) n n) vs P) /\ Hid (P.length=n) /\ Hid (∀ (j:Nat) (l:Lk),j < k->ls[j]?=some l->P[j]?=some l)) (fun i _=>n - (intOf i).toNat)
 case atStart=>exact ⟨0,_,_,Nat.zero_le _,rfl,(aa.refl _).alloc _,M0.out.widen (Nat.le_refl _) (by simp),by show _=_;simp,fun j _ hj=>by omega⟩
 case round =>
  obtain ⟨k,vs,P,hk,rfl,hK,M,hP,hf⟩:=hrel
  clear hmk M0
  by_cases hlt:k < n
  ·obtain ⟨l,hl1⟩:=bW (xs:=ls) (k:=k) (by rw [Hn.out];exact hlt)
   obtain ⟨b,off,a',cap',rfl,r0,r1,hle,hns⟩:=hs.at hl1
   have hlt':(k:Int) < (n:Int):=by omega
   have Hl:Hid (ls[k]?=some l):=hl1
   have N1:Hid (Ns w a' l.waits):=hns
   have hw:Hid (l.waits.length <= 2097152):=by show _ <= _;have:=lM hl1;have:=HL.out;unfold bT at this;omega
   clear hs hl1 hns hle
   have hvl:Hid (k < vs.length):=by show _ < _;rw [M.out.len,hP.out];exact hlt
   obtain ⟨x,hx⟩:=bW hvl.out
   have Hx:Hid (vs[k]?=some x):=hx
   have AH:vs.length=n:=M.out.len.trans hP.out
   have O0:=M.out.own
   rw [<- AH] at O0
   have s0:Hid (∀ w',aa wr w'->w'.cell? ⟨w.heap.size,k*2,none⟩=some (.int .i64 x.o)):=aa.has (O0.cellAt gJ (k:=0) hx (by omega))
   have s1:Hid (∀ w',aa wr w'->w'.cell? ⟨w.heap.size,k*2+1,none⟩=some x.row):=aa.has (O0.cellAt gJ (k:=1) hx (by omega))
   have bl:Hid (w.heap.size < wr.heap.size):=(O0.cD _ rfl).2
   have s2:Hid (∀ w',aa wr w'->∀ o,w'.frozen? ⟨w.heap.size,o,none⟩=false):=fun w' h o=>(h.aM _ _ bl.out).trans (O0.frozenAt o)
   clear O0 hx AH
   obtain ⟨m,Hm⟩:∃ m,Hid (l.waits.length=m):=⟨_,rfl⟩
   rw [Hm.out] at r1
   go_wp2_with fail
   have kX:Hid (aa wr (wr.alloc (.cells #[.int .i64 l.owner,.slice a' m cap'] 37))):=(aa.refl wr).alloc _
   have B0:Hid (ai (wr.alloc (.cells #[.int .i64 l.owner,.slice a' m cap'] 37)) wr.heap.size #[.int .i64 l.owner,.slice a' m cap']):=ai.new _ _ _
   generalize wr.alloc (.cells #[.int .i64 l.owner,.slice a' m cap'] 37)=X at *
   have H0:Hid (Has w wr.heap.size #[.int .i64 l.owner,.slice a' m cap'] X):=⟨hK.trans kX.out,B0.out⟩
   have q0:∀ w',Has w wr.heap.size #[.int .i64 l.owner,.slice a' m cap'] w'->w'.cell? ⟨wr.heap.size,0,none⟩=some (.int .i64 l.owner):=fun w' h=>h.box.cells 0
   have q1:∀ w',Has w wr.heap.size #[.int .i64 l.owner,.slice a' m cap'] w'->w'.cell? ⟨wr.heap.size,1,none⟩=some (.slice a' m cap'):=fun w' h=>h.box.cells 1
   have C1:Hid (∀ w',aa w w'->Calls Tryz.prog 128 #[.slice a' m cap'] w' fun e w''=>∃ b',e = .returned (.slice (some ⟨b',0,none⟩) m m) /\ aS w'' w'.heap.size (.slice (some ⟨b',0,none⟩) m m) l.waits /\ aa w' w''):=fun w' h=>by
    have:=AD a' cap' l.waits w' hw.out (N1.out.keeps h)
    rw [Hm.out] at this
    exact this.mono fun e w'' h=>⟨_,h.1,h.2.1,h.2.2⟩
   have hbx:wr.heap.size≠w.heap.size:=by have:=bl.out;omega
   clear r0 r1
   refine wp_region_held_drew (S:=(fun w'=>Has w wr.heap.size #[.int .i64 l.owner,.slice a' m cap'] w')) (by kernel_rfl) ?_ (fun hHeld => ?_)
   ·exact H0.out.go (aa.refl _).drew
   refine ad.go [0,1,2,3,4,5] ?_
   iterate 6 (refine aJ (h := ?_);try simp only [ar])
   refine ad.nil ?_
   refine aO 6 (h:=fun K hK => ?_)
   go_simp
   first
    | (go_at_call 128;refine (C1.out _ H0.out.keeps.drew).mono ?_;rintro e w6 ⟨b',rfl,o6,k6⟩;have O6:Hid (aS w6 X.heap.size (.slice (some ⟨b',0,none⟩) m m) l.waits):=o6;have K6:Hid (aa X w6):=(aa.refl X).drew.trans k6;clear o6)
   try go_wp2_with fail
   refine hK.out _ _ ?_ fun hHeld => ?_
   ·first | exact Has.go (by assumption) (by assumption) | assumption
   clear hK K
   try simp only [ar]
   refine ad.go [7,8] ?_
   iterate 2 (refine aJ (h := ?_);try simp only [ar])
   refine ad.nil ?_
   refine aO 9 (h:=fun K hK => ?_)
   have z0:=s0.out w6 (kX.out.trans K6.out);have z1:=s1.out w6 (kX.out.trans K6.out);have z2:=s2.out w6 (kX.out.trans K6.out)
   go_simp
   try go_wp2_with fail
   refine hK.out _ _ ?_ fun hHeld => ?_
   ·exact Has.put (by assumption) (r:=w.heap.size) (Nat.le_refl _) (by omega) (k*2) [.int .i64 l.owner,.slice (some ⟨b',0,none⟩) m m]
   clear hK K
   try simp only [ar]
   refine wpAnyH_done (by kernel_rfl) ?_ _
   go_wp2
   have M1:=M.out.keeps (kX.out.trans K6.out)
   have hb':=O6.out.cD b' rfl
   have sz:=kX.out.size
   have hne:b'≠w.heap.size:=by have:=bl.out;omega
   refine ⟨⟨k+1,vs.set k ⟨l.owner,some ⟨b',0,none⟩,m,m⟩,P.set k l,by omega,by go_num,((hK.trans (kX.out.trans K6.out)).setCell (p:=⟨w.heap.size,k*2,none⟩) (Nat.le_refl _) _).setCell (p:=⟨w.heap.size,k*2+1,none⟩) (Nat.le_refl _) _,?_,by show _=_;simpa using hP.out,?_⟩,by simp only [intOf];omega⟩
   ·refine M1.swap (x:=x) (y:=⟨l.owner,some ⟨b',0,none⟩,m,m⟩) (l:=l) Hx.out (M1.own.ix Hx.out ⟨l.owner,some ⟨b',0,none⟩,m,m⟩) (fun b2 h1 h2 h3 => ?_) rfl ?_ (by have:=K6.out.size;simp;omega) (fun b2 e => ?_)
    ·have:b2≠w.heap.size:=fun e=>h1 (by rw [e];rfl)
     rw [gz this,gz this]
    ·refine Own.base (Own.same O6.out fun b2 e => ?_) (by have:=bl.out;omega)
     have e2:b2=b':=by simpa [Value.ownBlock] using e.symm
     rw [gz (by omega),gz (by omega)]
    ·have e2:b2=b':=by simpa [Value.ownBlock] using e.symm
     subst e2
     exact .inl ⟨by omega,by simpa using hb'.2⟩
   ·intro j m2 hj hm2
    by_cases e:j=k
    ·subst e
     rw [Hl.out] at hm2
     cases hm2
     exact List.getElem?_set_self (by rw [hP.out];exact hlt)
    ·rw [List.getElem?_set_ne (Ne.symm e)]
     exact hf.out j m2 (by omega) hm2
  ·have e:k=n:=by omega
   subst e
   have e2:Hid (P=ls):=by
    show _=_
    apply List.ext_getElem?
    intro j
    rcases Nat.lt_or_ge j k with hj | hj
    ·obtain ⟨m,hm⟩:=bW (xs:=ls) (k:=j) (by rw [Hn.out];exact hj)
     rw [hm];exact hf.out j m hj hm
    ·rw [List.getElem?_eq_none (by rw [hP.out];exact hj),List.getElem?_eq_none (by rw [Hn.out];exact hj)]
   go_wp2
   go_ret
   exact ⟨w.heap.size,vs,rfl,by have:=M.out;rw [e2.out] at this;exact this,hK⟩
end
end Go.Proofs.YteagpjlgjfaclaaGreatDoor
