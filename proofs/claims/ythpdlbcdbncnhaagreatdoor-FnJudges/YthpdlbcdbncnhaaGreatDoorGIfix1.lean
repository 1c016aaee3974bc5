/-
  Fixed priorities, the program's side: what its functions ar
-/
import Derived.Test.YthpdlbcdbncnhaaGreatDoorGItask2
import Derived.Test.YthpdlbcdbncnhaaGreatDoorGDff2
import Derived.Test.YthpdlbcdbncnhaaGreatDoorGBase1
import Derived.Test.YthpdlbcdbncnhaaGreatDoorGBase2
import Derived.BigRegion
namespace Go.Proofs.YthpdlbcdbncnhaaGreatDoor
set_option maxRecDepth 100000
open Go.RowKit
attribute [local go_sem] Keeps.refl Keeps.alloc Keeps.drew Keeps.drewN
theorem qg8 (t:Tsk) (w:World) :
  Calls Tryz.prog 293 #[tk t] w fun e w'=>e = .returned (.bool (fixB t)) /\ Keeps w w':=by
 cases c1:(t.cls==2)
 ·have Hr:Hid (fixB t=false):=by show _=_;simp [fixB,c1]
  go_enter Tryz.func293,Tryz.ntmps293
  go_wp2
  go_ret
  exact ⟨by rw [Hr.out];rfl,(Keeps.refl _).alloc _⟩
 ·have Hr:Hid (fixB t=qae t):=by show _=_;simp [fixB,c1]
  go_enter Tryz.func293,Tryz.ntmps293
  go_wp2_with (go_at_call 83;refine (qc7 t _).mono ?_;rintro e w1 ⟨rfl,k1⟩)
  go_ret
  exact ⟨by rw [Hr.out];rfl,((Keeps.refl w).alloc _).trans k1⟩
theorem qdr (t:Tsk):(ftc t).size=9:=rfl
theorem qg9 (t:Tsk):∀ u∈(ftc t).toList,u.oneCell'=true:=by
 intro u hu
 simp at hu
 rcases hu with rfl | rfl | rfl | rfl | rfl | rfl | rfl | rfl | rfl <;> rfl
def befF (a b:Tsk):Bool:=decide (a.seq < b.seq)||a.seq==b.seq&&decide (a.no < b.no)
set_option maxHeartbeats 1000000 in
theorem qha (a b:Tsk) (w:World) :
  Calls Tryz.prog 290 #[.agg (ftc a),.agg (ftc b)] w fun e w'=>e = .returned (.bool (befF a b)) /\ Keeps w w':=by
 cases h1:decide (a.seq < b.seq)
 ·cases h2:(a.seq==b.seq)
  ·have Hr:Hid (befF a b=false):=by show _=_;simp only [befF,h1,h2,Bool.false_and,Bool.or_false]
   go_enter Tryz.func290,Tryz.ntmps290
   go_wp2
   go_ret
   exact ⟨by rw [Hr.out];rfl,((Keeps.refl _).alloc _).alloc _⟩
  ·have Hr:Hid (befF a b=decide (a.no < b.no)):=by show _=_;simp only [befF,h1,h2,Bool.true_and,Bool.false_or]
   go_enter Tryz.func290,Tryz.ntmps290
   go_wp2
   go_ret
   exact ⟨by rw [Hr.out];rfl,((Keeps.refl _).alloc _).alloc _⟩
 ·have Hr:Hid (befF a b=true):=by show _=_;simp only [befF,h1,Bool.true_or]
  go_enter Tryz.func290,Tryz.ntmps290
  go_wp2
  go_ret
  exact ⟨by rw [Hr.out];rfl,((Keeps.refl _).alloc _).alloc _⟩
theorem qk7 (L o b n cap:Nat) (z:Tsk) (w:World) (hn:0 < n) (hL:w.cell? ⟨L,o,none⟩=some (.slice (some ⟨b,0,none⟩) n cap)) (hz:∀ k,k < 9->w.cell? ⟨b,k,none⟩=(ftc z)[k]?) :
  Calls Tryz.prog 297 #[.pointer (some ⟨L,o,none⟩)] w fun e w'=>e = .returned (.agg (ftc z)) /\ Keeps w w':=by
 have l1:=Keeps.has hL
 have z0:=Keeps.has (hz 0 (by omega))
 have z1:=Keeps.has (hz 1 (by omega))
 have z2:=Keeps.has (hz 2 (by omega))
 have z3:=Keeps.has (hz 3 (by omega))
 have z4:=Keeps.has (hz 4 (by omega))
 have z5:=Keeps.has (hz 5 (by omega))
 have z6:=Keeps.has (hz 6 (by omega))
 have z7:=Keeps.has (hz 7 (by omega))
 have z8:=Keeps.has (hz 8 (by omega))
 clear hz hL
 go_enter Tryz.func297,Tryz.ntmps297
 go_wp2
 exact bodyPost_ret (v := .agg (ftc z)) (by simp [results,Tryz.results297,go_sem]) rfl ⟨rfl,(Keeps.refl _).alloc _⟩
set_option maxHeartbeats 4000000 in
theorem qhb (x:Tsk) (L o:Nat) (C:Array Value) (w:World) (B:Blk w L C) (hC:C[o]?=some (.slice none 0 0)) :
  Calls Tryz.prog 296 #[.pointer (some ⟨L,o,none⟩),.agg (ftc x)] w fun e w'=>e = .returned (.tuple #[]) /\
   ∃ v,Blk w' L (C.setIfInBounds o v) /\ Own 177 9 ftc w' w.heap.size v [x] /\ KeepsBut L w w':=by
 have hl:=B.lt
 have B1:Hid (Blk (w.alloc (.cells (ftc x) 177)) L C):=B.alloc _
 have KW:Hid (KeepsBut L w (w.alloc (.cells (ftc x) 177))):=KeepsBut.of ((Keeps.refl w).alloc _)
 have X1:=Blk.new w (ftc x) 177
 have hsz:Hid ((w.alloc (.cells (ftc x) 177)).heap.size=w.heap.size+1):=by show _=_;simp
 have hCo:Hid (C[o]?=some (.slice none 0 0)):=hC
 go_enter Tryz.func296,Tryz.ntmps296
 go_wp2_with fail
 obtain ⟨_,x1,x2⟩:=X1
 have b1:(w.alloc (.cells (ftc x) 177)).cell? ⟨L,o,none⟩=some (.slice none 0 0):=(B1.out.cells o).trans hCo.out
 have b2:=B1.out.frozens o
 have b0:=B1.out.lt
 clear B hC
 generalize w.alloc (.cells (ftc x) 177)=W at *
 go_region_law (refine qet rfl (.tmp 10) (.tmp 12) 308 rfl W.heap.size 177 (.agg (ftc Tsk.zero)) 9 72 ftc Tryz.underlying308 (by kernel_rfl) rfl (by decide) qdr qg9 (.slice none 0 0) [] (by simp [Act.eval]) (World.ownsRow_nil _ _ _ _) (by simp) x _ 1 ((Blk.new _ _ _).keeps (Keeps.refl _).drew) (by simp [Act.eval]) (by decide) (by decide) ?_;intro v' w' hown hgrow;obtain ⟨bb,cap,rfl,-,-,-⟩:=hown.some qdr (by simp);have G:Hid (Blk w' L C):=((B1.out.alloc _).keeps (Keeps.refl _).drew).grown hgrow (by intro k hk;cases hk);have g1:w'.cell? ⟨L,o,none⟩=some (.slice none 0 0):=(G.out.cells o).trans hCo.out;have g2:=G.out.frozens o;have g0:=G.out.lt)
 all_goals (go_wp2_with fail;refine wp_loop_once ?_;go_wp2;go_end0)
 all_goals
  have hL:L < W.heap.size:=by have:=hsz.out;omega
  have ho:o < C.size:=by
   rcases Nat.lt_or_ge o C.size with h | h
   ·exact h
   ·have:=hCo.out;rw [Array.getElem?_eq_none h] at this;cases this
  have k1:KeepsBut L w w':=((KW.out.alloc _).drew.grown hgrow (by intro k hk;cases hk))
  exact ⟨rfl,_,by simpa using G.out.set o ho _,(hown.butG ((KeepsBut.refl L w').setCell o _) hL).base (by have:=hsz.out;omega),k1.setCell o _⟩
structure TwoF (w:World) (L o:Nat) (C:Array Value) (b cap:Nat) (y x:Tsk):Prop where
 line:w.cell? ⟨L,o,none⟩=some (.slice (some ⟨b,0,none⟩) 2 cap)
 others:∀ k,k≠o->w.cell? ⟨L,k,none⟩=C[k]?
 lt:b < w.heap.size
 low:L < b
 fst:∀ k,k < 9->w.cell? ⟨b,k,none⟩=(ftc y)[k]?
 snd:∀ k,k < 9->w.cell? ⟨b,9+k,none⟩=(ftc x)[k]?
 free:∀ k,w.frozen? ⟨b,k,none⟩=false
theorem TwoF.keeps {w w':World} {L o b cap:Nat} {C:Array Value} {y x:Tsk} (h:TwoF w L o C b cap y x) (k:Keeps w w'):TwoF w' L o C b cap y x :=
 ⟨(k.cells _ _ (Nat.lt_trans h.low h.lt)).trans h.line,fun i hi=>(k.cells _ _ (Nat.lt_trans h.low h.lt)).trans (h.others i hi),Nat.lt_of_lt_of_le h.lt k.size,h.low,fun i hi=>(k.cells _ _ h.lt).trans (h.fst i hi),fun i hi=>(k.cells _ _ h.lt).trans (h.snd i hi),fun i=>(k.frozens _ _ h.lt).trans (h.free i)⟩
theorem qk8 (x:Tsk):∀ (n:Nat) (w:World),0 < n->(method n 177 (.agg (ftc x)) "loop.example/g00185/impl.isBefore").run Tryz.prog w = .ok (290,.agg (ftc x)) w
 | 0,_,h=>absurd h (Nat.lt_irrefl 0)
 | _+1,_,_=>by kernel_rfl
theorem qk9 {w:World} {L o b cap base:Nat} {C:Array Value} {y x:Tsk} {u:Value} (h:Own 177 9 ftc w base (.slice (some ⟨b,0,none⟩) ([y]++[x]).length cap) ([y]++[x])) (B:Blk w L C) (hC:C[o]?=some u) (hL:L < base) :
  TwoF (w.setCell ⟨L,o,none⟩ (.slice (some ⟨b,0,none⟩) ([y]++[x]).length cap)) L o C b cap y x:=by
 obtain ⟨f1,f2,f3⟩:=h.free
 obtain ⟨a,cp,e,l,-,-⟩:=h.slice qdr
 simp only [Value.slice.injEq] at e
 obtain ⟨rfl,-,rfl⟩:=e
 have hne:L≠b:=by omega
 rcases l with l | ⟨b',off,e',hb',l⟩
 ·simp at l
 ·simp only [Option.some.injEq,Addr.mk.injEq] at e'
  obtain ⟨rfl,rfl,-⟩:=e'
  refine ⟨qcX ((B.cells o).trans hC) _,fun k hk=>(qaN (.inr (Ne.symm hk)) _).trans (B.cells k),by simpa using f2,by omega,fun k hk => ?_,fun k hk => ?_,fun k=>by simpa using f3 k⟩
  ·rw [qaN (.inl hne)]
   simpa using l 0 y rfl k hk
  ·rw [qaN (.inl hne)]
   simpa using l 1 x rfl k hk
def qfJ (W0:World) (L o:Nat) (C:Array Value) (z:Tsk) (w':World):Prop :=
 ∃ b cap,w'.cell? ⟨L,o,none⟩=some (.slice (some ⟨b,0,none⟩) 2 cap) /\ (∀ k,k≠o->w'.cell? ⟨L,k,none⟩=C[k]?) /\ (∀ k,k < 9->w'.cell? ⟨b,k,none⟩=(ftc z)[k]?) /\ Keeps W0 w'
theorem TwoF.swap {W0 w:World} {L o b cap:Nat} {C:Array Value} {y x:Tsk} (h:TwoF w L o C b cap y x) (k:Keeps W0 w) (h0:W0.heap.size <= L):qfJ W0 L o C x (putC (putC w b 9 (ftc y).toList) b 0 (ftc x).toList).drew:=by
 have hb:=h.low
 have hc:∀ i,i < 9->∃ u,w.cell? ⟨b,i,none⟩=some u:=fun i hi=>⟨(ftc y)[i]'hi,(h.fst i hi).trans (Array.getElem?_eq_getElem hi)⟩
 have hs:=qgI (A:=(ftc y).toList) (B:=(ftc x).toList) hb hc rfl
 have hf:∀ j,(putC (putC w b 9 (ftc y).toList) b 0 (ftc x).toList).drew.cell? ⟨L,j,none⟩=w.cell? ⟨L,j,none⟩:=fun j=>qjF hb
 have hk:=qgJ (ftc y).toList (ftc x).toList k (show W0.heap.size <= b by omega)
 have hx:∀ i,(ftc x).toList[i]?=(ftc x)[i]?:=fun i=>Array.getElem?_toList
 generalize (putC (putC w b 9 (ftc y).toList) b 0 (ftc x).toList).drew=Y at hs hf hk ⊢
 exact ⟨b,cap,(hf o).trans h.line,fun i hi=>(hf i).trans (h.others i hi),fun i hi=>(hs.2 i hi).trans (hx i),hk⟩
def befX (x y:Tsk):Tsk:=if befF x y then x else y
set_option maxHeartbeats 8000000 in
theorem qla (x y:Tsk) (L o:Nat) (C:Array Value) (v:Value) (base:Nat) (W0 w:World) (B:Blk w L C) (hC:C[o]?=some v) (hown:Own 177 9 ftc w base v [y]) (hk:Keeps W0 w) (h0:W0.heap.size <= L) (h1:L < base) (h2:base <= w.heap.size) :
  Calls Tryz.prog 296 #[.pointer (some ⟨L,o,none⟩),.agg (ftc x)] w fun e w'=>e = .returned (.tuple #[]) /\
   qfJ W0 L o C (befX x y) w':=by
 have hl:=B.lt
 obtain ⟨b0,cap0,rfl,-,-,-⟩:=hown.some qdr (by simp)
 obtain ⟨f1,f2,-⟩:=hown.free
 have hCo:Hid (C[o]?=some (.slice (some ⟨b0,0,none⟩) 1 cap0)):=hC
 have B1:Hid (Blk (w.alloc (.cells (ftc x) 177)) L C):=B.alloc _
 have O1:Hid (Own 177 9 ftc (w.alloc (.cells (ftc x) 177)) base (.slice (some ⟨b0,0,none⟩) 1 cap0) [y]):=hown.alloc _
 have KW:Hid (Keeps W0 (w.alloc (.cells (ftc x) 177))):=hk.alloc _
 have X1:=Blk.new w (ftc x) 177
 have hsz:Hid ((w.alloc (.cells (ftc x) 177)).heap.size=w.heap.size+1):=by show _=_;simp
 go_enter Tryz.func296,Tryz.ntmps296
 go_wp2_with fail
 obtain ⟨_,z1,z2⟩:=X1
 have b1:(w.alloc (.cells (ftc x) 177)).cell? ⟨L,o,none⟩=some (.slice (some ⟨b0,0,none⟩) 1 cap0):=(B1.out.cells o).trans hCo.out
 have b2:=B1.out.frozens o
 have lw0:=B1.out.lt
 clear B hown hk hC
 generalize w.alloc (.cells (ftc x) 177)=W at *
 go_cut [14] (fun c wx=>c = .pointer (some ⟨L,o,none⟩) /\ ∃ b cap,TwoF wx L o C b cap y x /\ Keeps W0 wx)
 case first =>
  go_region_law (refine qet rfl (.tmp 10) (.tmp 12) 308 rfl base 177 (.agg (ftc Tsk.zero)) 9 72 ftc Tryz.underlying308 (by kernel_rfl) rfl (by decide) qdr qg9 (.slice (some ⟨b0,0,none⟩) 1 cap0) [y] (by simp [Act.eval]) ((O1.out.alloc _).keeps (Keeps.refl _).drew) (by have:=hsz.out;simp;omega) x _ 1 ((Blk.new _ _ _).keeps (Keeps.refl _).drew) (by simp [Act.eval]) (by simp [maxLen]) (by simp) ?_;intro v' w' hown hgrow;obtain ⟨bb,cap,rfl,li,-,-⟩:=hown.some qdr (by simp);have G:Hid (Blk w' L C):=((B1.out.alloc _).keeps (Keeps.refl _).drew).grown hgrow (by intro k hk;simp [Value.ownBlock] at hk;omega);have g1:w'.cell? ⟨L,o,none⟩=some (.slice (some ⟨b0,0,none⟩) 1 cap0):=(G.out.cells o).trans hCo.out;have g2:=G.out.frozens o;have g0:=G.out.lt)
  all_goals
   go_wp2
   go_meet
   refine ⟨rfl,bb,cap,qk9 hown G.out hCo.out h1,?_⟩
   exact ((KW.out.alloc _).drew.grown hgrow (by intro k hk;simp [Value.ownBlock] at hk;omega)).setCell h0 _
 case rest =>
  obtain ⟨rfl,b,cap,T,K⟩:=hcut
  generalize wc=X at *
  have TH:Hid (TwoF X L o C b cap y x):=T
  have KH:Hid (Keeps W0 X):=K
  have l1:∀ w',Keeps X w'->w'.cell? ⟨L,o,none⟩=some (.slice (some ⟨b,0,none⟩) 2 cap):=Keeps.has T.line
  have y0:∀ w',Keeps X w'->w'.cell? ⟨b,0,none⟩=some (.int .i64 y.no):=Keeps.has (T.fst 0 (by omega))
  have y1:∀ w',Keeps X w'->w'.cell? ⟨b,1,none⟩=some (.int .i64 y.cls):=Keeps.has (T.fst 1 (by omega))
  have y2:∀ w',Keeps X w'->w'.cell? ⟨b,2,none⟩=some (.int .i64 y.cpu):=Keeps.has (T.fst 2 (by omega))
  have y3:∀ w',Keeps X w'->w'.cell? ⟨b,3,none⟩=some (.int .i64 y.st):=Keeps.has (T.fst 3 (by omega))
  have y4:∀ w',Keeps X w'->w'.cell? ⟨b,4,none⟩=some (.bool y.idle):=Keeps.has (T.fst 4 (by omega))
  have y5:∀ w',Keeps X w'->w'.cell? ⟨b,5,none⟩=some (.int .i64 y.prio):=Keeps.has (T.fst 5 (by omega))
  have y6:∀ w',Keeps X w'->w'.cell? ⟨b,6,none⟩=some (.int .i64 y.round):=Keeps.has (T.fst 6 (by omega))
  have y7:∀ w',Keeps X w'->w'.cell? ⟨b,7,none⟩=some (.int .i64 y.left):=Keeps.has (T.fst 7 (by omega))
  have y8:∀ w',Keeps X w'->w'.cell? ⟨b,8,none⟩=some (.int .i64 y.seq):=Keeps.has (T.fst 8 (by omega))
  have x0:∀ w',Keeps X w'->w'.cell? ⟨b,9,none⟩=some (.int .i64 x.no):=Keeps.has (T.snd 0 (by omega))
  have x1:∀ w',Keeps X w'->w'.cell? ⟨b,10,none⟩=some (.int .i64 x.cls):=Keeps.has (T.snd 1 (by omega))
  have x2:∀ w',Keeps X w'->w'.cell? ⟨b,11,none⟩=some (.int .i64 x.cpu):=Keeps.has (T.snd 2 (by omega))
  have x3:∀ w',Keeps X w'->w'.cell? ⟨b,12,none⟩=some (.int .i64 x.st):=Keeps.has (T.snd 3 (by omega))
  have x4:∀ w',Keeps X w'->w'.cell? ⟨b,13,none⟩=some (.bool x.idle):=Keeps.has (T.snd 4 (by omega))
  have x5:∀ w',Keeps X w'->w'.cell? ⟨b,14,none⟩=some (.int .i64 x.prio):=Keeps.has (T.snd 5 (by omega))
  have x6:∀ w',Keeps X w'->w'.cell? ⟨b,15,none⟩=some (.int .i64 x.round):=Keeps.has (T.snd 6 (by omega))
  have x7:∀ w',Keeps X w'->w'.cell? ⟨b,16,none⟩=some (.int .i64 x.left):=Keeps.has (T.snd 7 (by omega))
  have x8:∀ w',Keeps X w'->w'.cell? ⟨b,17,none⟩=some (.int .i64 x.seq):=Keeps.has (T.snd 8 (by omega))
  clear T K z1 z2 b1 b2
  go_wp2_with fail
  have hm:=qk8 x
  refine qgG ?_
  go_wp2_with fail
  cases hbf:befF x y
  ·have Hb:Hid (befX x y=y):=by show _=_;simp [befX,hbf]
   refine wp_region_held_drew (S:=(fun w'=>Keeps X w')) (by kernel_rfl) ?_ (fun hHeld => ?_)
   ·exact (Keeps.refl X).drew
   refine Plan.go [0,1,2,3,4,5,6,7,8,9,10,11,12,13,14] ?_
   iterate 15 (refine qac (by simp only [qab];rfl) (by kernel_rfl) (by exact fun _ _ _ h=>h) (by rfl) (by assumption) (fun w _=>by go_simp;try (with_reducible rfl)) ?_;try simp only [qaa])
   refine Plan.nil ?_
   refine qad 15 (by kernel_rfl) (by simp only [qab];rfl) (fun K hK => ?_)
   go_simp
   first
    | (go_at_call 290;refine (qha x y _).mono ?_;rintro e w5 ⟨rfl,k5⟩;rw [hbf])
   try go_wp2_with fail
   refine hK.out _ _ ?_ (fun hHeld => ?_)
   ·exact Keeps.trans (by assumption) (by assumption)
   clear hK K
   try simp only [qaa]
   refine qan 16 (v := ?_) (by simp only [qab];rfl) (by kernel_rfl) (by exact fun _ _ _ h=>h) (by rfl) (by assumption) ?_ ?_
   rotate_left
   ·(intro w _;go_simp;try (with_reducible rfl))
   try simp only [qaa]
   refine wpAnyH_done (by kernel_rfl) ?_ _
   have K5:Keeps X w5:=by assumption
   go_wp2
   exact bodyPost_ret (v := .tuple #[]) (results_none rfl _ _ _) rfl ⟨rfl,by rw [Hb.out];exact ⟨b,cap,l1 _ K5,(TH.out.keeps K5).others,(TH.out.keeps K5).fst,KH.out.trans K5⟩⟩
  ·have Hb:Hid (befX x y=x):=by show _=_;simp [befX,hbf]
   refine wp_region_held_drew (S:=(fun w'=>Keeps X w')) (by kernel_rfl) ?_ (fun hHeld => ?_)
   ·exact (Keeps.refl X).drew
   refine Plan.go [0,1,2,3,4,5,6,7,8,9,10,11,12,13,14] ?_
   iterate 15 (refine qac (by simp only [qab];rfl) (by kernel_rfl) (by exact fun _ _ _ h=>h) (by rfl) (by assumption) (fun w _=>by go_simp;try (with_reducible rfl)) ?_;try simp only [qaa])
   refine Plan.nil ?_
   refine qad 15 (by kernel_rfl) (by simp only [qab];rfl) (fun K hK => ?_)
   go_simp
   first
    | (go_at_call 290;refine (qha x y _).mono ?_;rintro e w5 ⟨rfl,k5⟩;rw [hbf])
   try go_wp2_with fail
   refine hK.out _ _ ?_ (fun hHeld => ?_)
   ·exact Keeps.trans (by assumption) (by assumption)
   clear hK K
   try simp only [qaa]
   refine qan 16 (v := ?_) (by simp only [qab];rfl) (by kernel_rfl) (by exact fun _ _ _ h=>h) (by rfl) (by assumption) ?_ ?_
   rotate_left
   ·(intro w _;go_simp;try (with_reducible rfl))
   try simp only [qaa]
   refine wpAnyH_done (by kernel_rfl) ?_ _
   have K5:Keeps X w5:=by assumption
   have ll:w5.cell? ⟨L,o,none⟩=some (.slice (some ⟨b,0,none⟩) 2 cap):=l1 _ K5
   have fr:=(TH.out.keeps K5).free
   have u0:w5.cell? ⟨b,0,none⟩=some (.int .i64 y.no):=y0 _ K5
   have u1:w5.cell? ⟨b,1,none⟩=some (.int .i64 y.cls):=y1 _ K5
   have u2:w5.cell? ⟨b,2,none⟩=some (.int .i64 y.cpu):=y2 _ K5
   have u3:w5.cell? ⟨b,3,none⟩=some (.int .i64 y.st):=y3 _ K5
   have u4:w5.cell? ⟨b,4,none⟩=some (.bool y.idle):=y4 _ K5
   have u5:w5.cell? ⟨b,5,none⟩=some (.int .i64 y.prio):=y5 _ K5
   have u6:w5.cell? ⟨b,6,none⟩=some (.int .i64 y.round):=y6 _ K5
   have u7:w5.cell? ⟨b,7,none⟩=some (.int .i64 y.left):=y7 _ K5
   have u8:w5.cell? ⟨b,8,none⟩=some (.int .i64 y.seq):=y8 _ K5
   have v0:w5.cell? ⟨b,9,none⟩=some (.int .i64 x.no):=x0 _ K5
   have v1:w5.cell? ⟨b,10,none⟩=some (.int .i64 x.cls):=x1 _ K5
   have v2:w5.cell? ⟨b,11,none⟩=some (.int .i64 x.cpu):=x2 _ K5
   have v3:w5.cell? ⟨b,12,none⟩=some (.int .i64 x.st):=x3 _ K5
   have v4:w5.cell? ⟨b,13,none⟩=some (.bool x.idle):=x4 _ K5
   have v5:w5.cell? ⟨b,14,none⟩=some (.int .i64 x.prio):=x5 _ K5
   have v6:w5.cell? ⟨b,15,none⟩=some (.int .i64 x.round):=x6 _ K5
   have v7:w5.cell? ⟨b,16,none⟩=some (.int .i64 x.left):=x7 _ K5
   have v8:w5.cell? ⟨b,17,none⟩=some (.int .i64 x.seq):=x8 _ K5
   clear l1 y0 y1 y2 y3 y4 y5 y6 y7 y8 x0 x1 x2 x3 x4 x5 x6 x7 x8 k5 hHeld
   go_wp2_with fail
   go_region
   have D:=(TH.out.keeps K5).swap (KH.out.trans K5) h0
   change Exit.then _ _ _ _ (putC (putC w5 b 9 (ftc y).toList) b 0 (ftc x).toList).drew
   clear u0 u1 u2 u3 u4 u5 u6 u7 u8 v0 v1 v2 v3 v4 v5 v6 v7 v8 fr ll
   generalize (putC (putC w5 b 9 (ftc y).toList) b 0 (ftc x).toList).drew=Y at D ⊢
   have DH:Hid (qfJ W0 L o C x Y):=D
   clear D
   go_wp2
   go_end0
   exact ⟨rfl,by rw [Hb.out];exact DH.out⟩
set_option maxHeartbeats 1000000 in
theorem qhc (x:Tsk) (L o:Nat) (w:World) (hp:x.prio=(o:Int)+1) (ho:o < 20) {Q:World->Prop}
  (H:∀ w1,Keeps w w1->Calls Tryz.prog 296 #[.pointer (some ⟨L,o,none⟩),.agg (ftc x)] w1 fun e w'=>e = .returned (.tuple #[]) /\ Q w') :
  Calls Tryz.prog 294 #[.pointer (some ⟨L,0,none⟩),.agg (ftc x)] w fun e w'=>e = .returned (.tuple #[]) /\ Q w':=by
 have HH:Hid (∀ w1,Keeps w w1->Calls Tryz.prog 296 #[.pointer (some ⟨L,o,none⟩),.agg (ftc x)] w1 fun e w'=>e = .returned (.tuple #[]) /\ Q w'):=H
 have e1:IntKind.i64.wrap (x.prio - 1)=(o:Int):=(Go.IntWalk.i64_in _ (by omega)).trans (by omega)
 have o1:(o:Int) < 20:=by omega
 clear H hp
 go_enter Tryz.func294,Tryz.ntmps294
 go_wp2_with fail
 have kW:=blkK w (.cells (ftc x) 177)
 have r1:=blkR w (ftc x) 177
 generalize w.alloc (.cells (ftc x) 177)=W at *
 have R1:Hid (∀ w',Keeps W w'->Calls Tryz.prog 296 #[.pointer (some ⟨L,o,none⟩),.agg (ftc x)] w' fun e w'=>e = .returned (.tuple #[]) /\ Q w'):=fun w' h=>HH.out w' (kW.trans h)
 go_region_with (go_at_call 296;refine (R1.out _ (Keeps.refl W).drew).mono ?_;rintro e w1 ⟨rfl,k1⟩)
 all_goals
  go_wp2
  go_end0
  exact ⟨rfl,k1⟩
set_option maxHeartbeats 1000000 in
theorem qlb (L o b n cap:Nat) (z:Tsk) (w:World) (ho:o < 20) (hn:0 < n) (hL:w.cell? ⟨L,o,none⟩=some (.slice (some ⟨b,0,none⟩) n cap)) (hE:∀ k,o < k->k < 20->w.cell? ⟨L,k,none⟩=some (.slice none 0 0)) (hz:∀ k,k < 9->w.cell? ⟨b,k,none⟩=(ftc z)[k]?) :
  Calls Tryz.prog 295 #[.pointer (some ⟨L,0,none⟩)] w fun e w'=>e = .returned (.agg (ftc z)) /\ Keeps w w':=by
 have hlL:=World.block_lt_of_cell? w _ hL
 have hlb:=World.block_lt_of_cell? w _ (hz 0 (by omega))
 go_enter Tryz.func295,Tryz.ntmps295
 go_wp2_with fail
 have kW:=blkK w (.cells (ftc Tsk.zero) 177)
 have R:=Blk.new w (ftc Tsk.zero) 177
 have HL:Hid ((w.alloc (.cells (ftc Tsk.zero) 177)).cell? ⟨L,o,none⟩=some (.slice (some ⟨b,0,none⟩) n cap)):=(kW.cells _ _ hlL).trans hL
 have HE:Hid (∀ k,o < k->k < 20->(w.alloc (.cells (ftc Tsk.zero) 177)).cell? ⟨L,k,none⟩=some (.slice none 0 0)):=fun k h1 h2=>(kW.cells _ _ hlL).trans (hE k h1 h2)
 have HZ:Hid (∀ k,k < 9->(w.alloc (.cells (ftc Tsk.zero) 177)).cell? ⟨b,k,none⟩=(ftc z)[k]?):=fun k h1=>(kW.cells _ _ hlb).trans (hz k h1)
 have RH:Hid (Blk (w.alloc (.cells (ftc Tsk.zero) 177)) w.heap.size (ftc Tsk.zero)):=R
 clear hL hE hz R hlb hlL
 obtain ⟨W,HW⟩:∃ W,Hid (w.alloc (.cells (ftc Tsk.zero) 177)=W):=⟨_,rfl⟩
 rw [HW.out] at HL HE HZ RH kW
 go_loopw [3] (fun i wr=>∃ k:Nat,o <= k /\ k < 20 /\ i = .int .i64 k /\ wr=W) (fun i _=>(intOf i).toNat)
 case atStart=>exact ⟨19,by omega,by omega,rfl,HW.out⟩
 case round =>
  obtain ⟨k,hk,hk2,rfl,hw⟩:=hrel
  have hw2:=hw.symm
  subst hw2
  have k1:(k:Int) < 20:=by omega
  by_cases ho2:o < k
  ·have c1:=HE.out k ho2 hk2
   go_wp2
   exact ⟨⟨k - 1,by omega,by omega,by go_num,trivial⟩,by simp only [intOf];omega⟩
  ·obtain rfl:k=o:=by omega
   have c1:=HL.out
   have n1:((n:Int)==0)=false:=by simp;omega
   go_wp2_with fail
   refine (qk7 L k b n cap z _ hn HL.out HZ.out).mono ?_
   rintro e w1 ⟨rfl,k1⟩
   have R1:Hid (Blk w1 w.heap.size (ftc Tsk.zero)):=RH.out.keeps k1
   have K1:Hid (Keeps w w1):=kW.trans k1
   obtain ⟨_,y1,y2⟩:=R1.out
   clear c1 k1
   go_wp2
   have D:=R1.out.putC (ftc z).toList rfl
   have K:=Keeps.putC (b:=w.heap.size) (by omega) (ftc z).toList 0 K1.out
   change bodyPost _ _ _ _ _ (putC w1 (w.heap.size) 0 (ftc z).toList)
   generalize putC w1 (w.heap.size) 0 (ftc z).toList=X at D K ⊢
   exact bodyPost_ret (v := .agg (ftc z)) (by simp [results,Tryz.results295,go_sem,D.cells]) rfl ⟨rfl,K⟩
end Go.Proofs.YthpdlbcdbncnhaaGreatDoor
