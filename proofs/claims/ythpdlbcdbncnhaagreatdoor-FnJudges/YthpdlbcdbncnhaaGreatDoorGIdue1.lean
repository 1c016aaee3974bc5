/-
  Deadlines, the program's side: what its functions are made
-/
import Derived.Test.YthpdlbcdbncnhaaGreatDoorGItask2
import Derived.Test.YthpdlbcdbncnhaaGreatDoorGDff1
import Derived.Test.YthpdlbcdbncnhaaGreatDoorGBase2
namespace Go.Proofs.YthpdlbcdbncnhaaGreatDoor
set_option maxRecDepth 100000
open Go.RowKit
attribute [local go_sem] Keeps.refl Keeps.alloc Keeps.drew Keeps.drewN
theorem qg4 (t:Tsk) (w:World) :
  Calls Tryz.prog 43 #[tk t] w fun e w'=>e = .returned (.bool (dueB t)) /\ Keeps w w':=by
 cases c1:(t.cls==1)
 ·have Hr:Hid (dueB t=false):=by show _=_;simp [dueB,c1]
  go_enter Tryz.func43,Tryz.ntmps43
  go_wp2
  go_ret
  exact ⟨by rw [Hr.out];rfl,(Keeps.refl _).alloc _⟩
 ·have Hr:Hid (dueB t=qae t):=by show _=_;simp [dueB,c1]
  go_enter Tryz.func43,Tryz.ntmps43
  go_wp2_with (go_at_call 83;refine (qc7 t _).mono ?_;rintro e w1 ⟨rfl,k1⟩)
  go_ret
  exact ⟨by rw [Hr.out];rfl,((Keeps.refl w).alloc _).trans k1⟩
theorem qdL (t:Tsk):(dtc t).size=9:=rfl
theorem qg5 (t:Tsk):∀ u∈(dtc t).toList,u.oneCell'=true:=by
 intro u hu
 simp at hu
 rcases hu with rfl | rfl | rfl | rfl | rfl | rfl | rfl | rfl | rfl <;> rfl
def befD (a b:Tsk):Bool:=decide (a.due < b.due)||a.due==b.due&&decide (a.no < b.no)
set_option maxHeartbeats 1000000 in
theorem qg6 (a b:Tsk) (w:World) :
  Calls Tryz.prog 277 #[.agg (dtc a),.agg (dtc b)] w fun e w'=>e = .returned (.bool (befD a b)) /\ Keeps w w':=by
 cases h1:decide (a.due < b.due)
 ·cases h2:(a.due==b.due)
  ·have Hr:Hid (befD a b=false):=by show _=_;simp only [befD,h1,h2,Bool.false_and,Bool.or_false]
   go_enter Tryz.func277,Tryz.ntmps277
   go_wp2
   go_ret
   exact ⟨by rw [Hr.out];rfl,((Keeps.refl _).alloc _).alloc _⟩
  ·have Hr:Hid (befD a b=decide (a.no < b.no)):=by show _=_;simp only [befD,h1,h2,Bool.true_and,Bool.false_or]
   go_enter Tryz.func277,Tryz.ntmps277
   go_wp2
   go_ret
   exact ⟨by rw [Hr.out];rfl,((Keeps.refl _).alloc _).alloc _⟩
 ·have Hr:Hid (befD a b=true):=by show _=_;simp only [befD,h1,Bool.true_or]
  go_enter Tryz.func277,Tryz.ntmps277
  go_wp2
  go_ret
  exact ⟨by rw [Hr.out];rfl,((Keeps.refl _).alloc _).alloc _⟩
theorem qkK (L b cap:Nat) (z:Tsk) (w:World) (hL:w.cell? ⟨L,0,none⟩=some (.slice (some ⟨b,0,none⟩) 2 cap)) (hz:∀ k,k < 9->w.cell? ⟨b,k,none⟩=(dtc z)[k]?) :
  Calls Tryz.prog 281 #[.pointer (some ⟨L,0,none⟩)] w fun e w'=>e = .returned (.agg (dtc z)) /\ Keeps w w':=by
 have l1:=Keeps.has hL
 have z0:=Keeps.has (hz 0 (by omega))
 have z1:=Keeps.has (hz 1 (by omega))
 have z2:=Keeps.has (hz 2 (by omega))
 have z3:=Keeps.has (hz 3 (by omega))
 have z4:=Keeps.has (hz 4 (by omega))
 have z5:=Keeps.has (hz 5 (by omega))
 have z6:=Keeps.has (hz 6 (by omega))
 have z7:=Keeps.has (hz 7 (by omega))
 have z8:=Keeps.has (hz 8 (by omega))
 clear hz hL
 go_enter Tryz.func281,Tryz.ntmps281
 go_wp2
 exact bodyPost_ret (v := .agg (dtc z)) (by simp [results,Tryz.results281,go_sem]) rfl ⟨rfl,(Keeps.refl _).alloc _⟩
set_option maxHeartbeats 4000000 in
theorem qkL (x:Tsk) (L:Nat) (w:World) (B:Blk w L #[.slice none 0 0]) :
  Calls Tryz.prog 280 #[.pointer (some ⟨L,0,none⟩),.agg (dtc x)] w fun e w'=>e = .returned (.tuple #[]) /\
   ∃ v,Blk w' L #[v] /\ Own 69 9 dtc w' w.heap.size v [x] /\ KeepsBut L w w':=by
 have hl:=B.lt
 have B1:Hid (Blk (w.alloc (.cells (dtc x) 69)) L #[.slice none 0 0]):=B.alloc _
 have KW:Hid (KeepsBut L w (w.alloc (.cells (dtc x) 69))):=KeepsBut.of ((Keeps.refl w).alloc _)
 have X1:=Blk.new w (dtc x) 69
 have hsz:Hid ((w.alloc (.cells (dtc x) 69)).heap.size=w.heap.size+1):=by show _=_;simp
 go_enter Tryz.func280,Tryz.ntmps280
 go_wp2_with fail
 obtain ⟨_,x1,x2⟩:=X1
 obtain ⟨_,b1,b2⟩:=B1.out
 clear B
 generalize w.alloc (.cells (dtc x) 69)=W at *
 go_region_law (refine qet rfl (.tmp 10) (.tmp 12) 298 rfl W.heap.size 69 (.agg (dtc Tsk.zero)) 9 72 dtc Tryz.underlying298 (by kernel_rfl) rfl (by decide) qdL qg5 (.slice none 0 0) [] (by simp [Act.eval]) (World.ownsRow_nil _ _ _ _) (by simp) x _ 1 ((Blk.new _ _ _).keeps (Keeps.refl _).drew) (by simp [Act.eval]) (by decide) (by decide) ?_;intro v' w' hown hgrow;obtain ⟨bb,cap,rfl,-,-,-⟩:=hown.some qdL (by simp);have G:Hid (Blk w' L #[.slice none 0 0]):=((B1.out.alloc _).keeps (Keeps.refl _).drew).grown hgrow (by intro k hk;cases hk);obtain ⟨_,g1,g2⟩:=G.out)
 all_goals (go_wp2_with fail;refine wp_loop_once ?_;go_wp2;go_end0)
 all_goals
  have hL:L < W.heap.size:=by have:=hsz.out;omega
  have k1:KeepsBut L w w':=((KW.out.alloc _).drew.grown hgrow (by intro k hk;cases hk))
  exact ⟨rfl,_,by simpa using G.out.set 0 (by simp) _,(hown.butG ((KeepsBut.refl L w').setCell 0 _) hL).base (by have:=hsz.out;omega),k1.setCell 0 _⟩
structure TwoD (w:World) (L b cap:Nat) (y x:Tsk):Prop where
 line:Blk w L #[.slice (some ⟨b,0,none⟩) 2 cap]
 lt:b < w.heap.size
 low:L < b
 fst:∀ k,k < 9->w.cell? ⟨b,k,none⟩=(dtc y)[k]?
 snd:∀ k,k < 9->w.cell? ⟨b,9+k,none⟩=(dtc x)[k]?
 free:∀ k,w.frozen? ⟨b,k,none⟩=false
theorem TwoD.keeps {w w':World} {L b cap:Nat} {y x:Tsk} (h:TwoD w L b cap y x) (k:Keeps w w'):TwoD w' L b cap y x :=
 ⟨h.line.keeps k,Nat.lt_of_lt_of_le h.lt k.size,h.low,fun i hi=>(k.cells _ _ h.lt).trans (h.fst i hi),fun i hi=>(k.cells _ _ h.lt).trans (h.snd i hi),fun i=>(k.frozens _ _ h.lt).trans (h.free i)⟩
theorem qkM (x:Tsk):∀ (n:Nat) (w:World),0 < n->(method n 69 (.agg (dtc x)) "loop.example/g00185/impl.isBefore").run Tryz.prog w = .ok (277,.agg (dtc x)) w
 | 0,_,h=>absurd h (Nat.lt_irrefl 0)
 | _+1,_,_=>by kernel_rfl
theorem qkN {w:World} {L b cap base:Nat} {y x:Tsk} {u:Value} (h:Own 69 9 dtc w base (.slice (some ⟨b,0,none⟩) ([y]++[x]).length cap) ([y]++[x])) (B:Blk w L #[u]) (hL:L < base) :
  TwoD (w.setCell ⟨L,0,none⟩ (.slice (some ⟨b,0,none⟩) ([y]++[x]).length cap)) L b cap y x:=by
 obtain ⟨f1,f2,f3⟩:=h.free
 obtain ⟨a,cp,e,l,-,-⟩:=h.slice qdL
 simp only [Value.slice.injEq] at e
 obtain ⟨rfl,-,rfl⟩:=e
 have hne:L≠b:=by omega
 rcases l with l | ⟨b',off,e',hb',l⟩
 ·simp at l
 ·simp only [Option.some.injEq,Addr.mk.injEq] at e'
  obtain ⟨rfl,rfl,-⟩:=e'
  refine ⟨by simpa using B.set 0 (by simp) (.slice (some ⟨b,0,none⟩) ([y]++[x]).length cap),by simpa using f2,by omega,fun k hk => ?_,fun k hk => ?_,fun k=>by simpa using f3 k⟩
  ·rw [qaN (.inl hne)]
   simpa using l 0 y rfl k hk
  ·rw [qaN (.inl hne)]
   simpa using l 1 x rfl k hk
def qfD (W0:World) (L:Nat) (z:Tsk) (w':World):Prop :=
 ∃ b cap,w'.cell? ⟨L,0,none⟩=some (.slice (some ⟨b,0,none⟩) 2 cap) /\ (∀ k,k < 9->w'.cell? ⟨b,k,none⟩=(dtc z)[k]?) /\ Keeps W0 w'
theorem TwoD.swap {W0 w:World} {L b cap:Nat} {y x:Tsk} (h:TwoD w L b cap y x) (k:Keeps W0 w) (h0:W0.heap.size <= L):qfD W0 L x (putC (putC w b 9 (dtc y).toList) b 0 (dtc x).toList).drew:=by
 have hb:=h.low
 have hc:∀ i,i < 9->∃ u,w.cell? ⟨b,i,none⟩=some u:=fun i hi=>⟨(dtc y)[i]'hi,(h.fst i hi).trans (Array.getElem?_eq_getElem hi)⟩
 have hs:=qgI (A:=(dtc y).toList) (B:=(dtc x).toList) hb hc rfl
 have hk:=qgJ (dtc y).toList (dtc x).toList k (show W0.heap.size <= b by omega)
 have hx:∀ i,(dtc x).toList[i]?=(dtc x)[i]?:=fun i=>Array.getElem?_toList
 generalize (putC (putC w b 9 (dtc y).toList) b 0 (dtc x).toList).drew=Y at hs hk ⊢
 exact ⟨b,cap,hs.1.trans (h.line.cells 0),fun i hi=>(hs.2 i hi).trans (hx i),hk⟩
def befT (x y:Tsk):Tsk:=if befD x y then x else y
set_option maxHeartbeats 8000000 in
theorem qkO (x y:Tsk) (L:Nat) (v:Value) (base:Nat) (W0 w:World) (B:Blk w L #[v]) (hown:Own 69 9 dtc w base v [y]) (hk:Keeps W0 w) (h0:W0.heap.size <= L) (h1:L < base) (h2:base <= w.heap.size) :
  Calls Tryz.prog 280 #[.pointer (some ⟨L,0,none⟩),.agg (dtc x)] w fun e w'=>e = .returned (.tuple #[]) /\
   qfD W0 L (befT x y) w':=by
 have hl:=B.lt
 obtain ⟨b0,cap0,rfl,-,-,-⟩:=hown.some qdL (by simp)
 obtain ⟨f1,f2,-⟩:=hown.free
 have B1:Hid (Blk (w.alloc (.cells (dtc x) 69)) L #[.slice (some ⟨b0,0,none⟩) 1 cap0]):=B.alloc _
 have O1:Hid (Own 69 9 dtc (w.alloc (.cells (dtc x) 69)) base (.slice (some ⟨b0,0,none⟩) 1 cap0) [y]):=hown.alloc _
 have KW:Hid (Keeps W0 (w.alloc (.cells (dtc x) 69))):=hk.alloc _
 have X1:=Blk.new w (dtc x) 69
 have hsz:Hid ((w.alloc (.cells (dtc x) 69)).heap.size=w.heap.size+1):=by show _=_;simp
 go_enter Tryz.func280,Tryz.ntmps280
 go_wp2_with fail
 obtain ⟨_,z1,z2⟩:=X1
 obtain ⟨_,b1,b2⟩:=B1.out
 clear B hown hk
 generalize w.alloc (.cells (dtc x) 69)=W at *
 go_cut [14] (fun c wx=>c = .pointer (some ⟨L,0,none⟩) /\ ∃ b cap,TwoD wx L b cap y x /\ Keeps W0 wx)
 case first =>
  go_region_law (refine qet rfl (.tmp 10) (.tmp 12) 298 rfl base 69 (.agg (dtc Tsk.zero)) 9 72 dtc Tryz.underlying298 (by kernel_rfl) rfl (by decide) qdL qg5 (.slice (some ⟨b0,0,none⟩) 1 cap0) [y] (by simp [Act.eval]) ((O1.out.alloc _).keeps (Keeps.refl _).drew) (by have:=hsz.out;simp;omega) x _ 1 ((Blk.new _ _ _).keeps (Keeps.refl _).drew) (by simp [Act.eval]) (by simp [maxLen]) (by simp) ?_;intro v' w' hown hgrow;obtain ⟨bb,cap,rfl,li,-,-⟩:=hown.some qdL (by simp);have G:Hid (Blk w' L #[.slice (some ⟨b0,0,none⟩) 1 cap0]):=((B1.out.alloc _).keeps (Keeps.refl _).drew).grown hgrow (by intro k hk;simp [Value.ownBlock] at hk;omega);obtain ⟨_,g1,g2⟩:=G.out)
  all_goals
   go_wp2
   go_meet
   refine ⟨rfl,bb,cap,qkN hown G.out h1,?_⟩
   exact ((KW.out.alloc _).drew.grown hgrow (by intro k hk;simp [Value.ownBlock] at hk;omega)).setCell h0 _
 case rest =>
  obtain ⟨rfl,b,cap,T,K⟩:=hcut
  generalize wc=X at *
  have TH:Hid (TwoD X L b cap y x):=T
  have KH:Hid (Keeps W0 X):=K
  have l1:∀ w',Keeps X w'->w'.cell? ⟨L,0,none⟩=some (.slice (some ⟨b,0,none⟩) 2 cap):=Keeps.has (T.line.cells 0)
  have y0:∀ w',Keeps X w'->w'.cell? ⟨b,0,none⟩=some (.int .i64 y.no):=Keeps.has (T.fst 0 (by omega))
  have y1:∀ w',Keeps X w'->w'.cell? ⟨b,1,none⟩=some (.int .i64 y.cls):=Keeps.has (T.fst 1 (by omega))
  have y2:∀ w',Keeps X w'->w'.cell? ⟨b,2,none⟩=some (.int .i64 y.cpu):=Keeps.has (T.fst 2 (by omega))
  have y3:∀ w',Keeps X w'->w'.cell? ⟨b,3,none⟩=some (.int .i64 y.st):=Keeps.has (T.fst 3 (by omega))
  have y4:∀ w',Keeps X w'->w'.cell? ⟨b,4,none⟩=some (.bool y.idle):=Keeps.has (T.fst 4 (by omega))
  have y5:∀ w',Keeps X w'->w'.cell? ⟨b,5,none⟩=some (.int .i64 y.q):=Keeps.has (T.fst 5 (by omega))
  have y6:∀ w',Keeps X w'->w'.cell? ⟨b,6,none⟩=some (.int .i64 y.p):=Keeps.has (T.fst 6 (by omega))
  have y7:∀ w',Keeps X w'->w'.cell? ⟨b,7,none⟩=some (.int .i64 y.left):=Keeps.has (T.fst 7 (by omega))
  have y8:∀ w',Keeps X w'->w'.cell? ⟨b,8,none⟩=some (.int .i64 y.due):=Keeps.has (T.fst 8 (by omega))
  have x0:∀ w',Keeps X w'->w'.cell? ⟨b,9,none⟩=some (.int .i64 x.no):=Keeps.has (T.snd 0 (by omega))
  have x1:∀ w',Keeps X w'->w'.cell? ⟨b,10,none⟩=some (.int .i64 x.cls):=Keeps.has (T.snd 1 (by omega))
  have x2:∀ w',Keeps X w'->w'.cell? ⟨b,11,none⟩=some (.int .i64 x.cpu):=Keeps.has (T.snd 2 (by omega))
  have x3:∀ w',Keeps X w'->w'.cell? ⟨b,12,none⟩=some (.int .i64 x.st):=Keeps.has (T.snd 3 (by omega))
  have x4:∀ w',Keeps X w'->w'.cell? ⟨b,13,none⟩=some (.bool x.idle):=Keeps.has (T.snd 4 (by omega))
  have x5:∀ w',Keeps X w'->w'.cell? ⟨b,14,none⟩=some (.int .i64 x.q):=Keeps.has (T.snd 5 (by omega))
  have x6:∀ w',Keeps X w'->w'.cell? ⟨b,15,none⟩=some (.int .i64 x.p):=Keeps.has (T.snd 6 (by omega))
  have x7:∀ w',Keeps X w'->w'.cell? ⟨b,16,none⟩=some (.int .i64 x.left):=Keeps.has (T.snd 7 (by omega))
  have x8:∀ w',Keeps X w'->w'.cell? ⟨b,17,none⟩=some (.int .i64 x.due):=Keeps.has (T.snd 8 (by omega))
  clear T K z1 z2 b1 b2
  go_wp2_with fail
  have hm:=qkM x
  refine qgG ?_
  go_wp2_with fail
  cases hbf:befD x y
  ·have Hb:Hid (befT x y=y):=by show _=_;simp [befT,hbf]
   refine wp_region_held_drew (S:=(fun w'=>Keeps X w')) (by kernel_rfl) ?_ (fun hHeld => ?_)
   ·exact (Keeps.refl X).drew
   refine Plan.go [0,1,2,3,4,5,6,7,8,9,10,11,12,13,14] ?_
   iterate 15 (refine qac (by simp only [qab];rfl) (by kernel_rfl) (by exact fun _ _ _ h=>h) (by rfl) (by assumption) (fun w _=>by go_simp;try (with_reducible rfl)) ?_;try simp only [qaa])
   refine Plan.nil ?_
   refine qad 15 (by kernel_rfl) (by simp only [qab];rfl) (fun K hK => ?_)
   go_simp
   first
    | (go_at_call 277;refine (qg6 x y _).mono ?_;rintro e w5 ⟨rfl,k5⟩;rw [hbf])
   try go_wp2_with fail
   refine hK.out _ _ ?_ (fun hHeld => ?_)
   ·exact Keeps.trans (by assumption) (by assumption)
   clear hK K
   try simp only [qaa]
   refine qan 16 (v := ?_) (by simp only [qab];rfl) (by kernel_rfl) (by exact fun _ _ _ h=>h) (by rfl) (by assumption) ?_ ?_
   rotate_left
   ·(intro w _;go_simp;try (with_reducible rfl))
   try simp only [qaa]
   refine wpAnyH_done (by kernel_rfl) ?_ _
   have K5:Keeps X w5:=by assumption
   go_wp2
   exact bodyPost_ret (v := .tuple #[]) (results_none rfl _ _ _) rfl ⟨rfl,by rw [Hb.out];exact ⟨b,cap,l1 _ K5,(TH.out.keeps K5).fst,KH.out.trans K5⟩⟩
  ·have Hb:Hid (befT x y=x):=by show _=_;simp [befT,hbf]
   refine wp_region_held_drew (S:=(fun w'=>Keeps X w')) (by kernel_rfl) ?_ (fun hHeld => ?_)
   ·exact (Keeps.refl X).drew
   refine Plan.go [0,1,2,3,4,5,6,7,8,9,10,11,12,13,14] ?_
   iterate 15 (refine qac (by simp only [qab];rfl) (by kernel_rfl) (by exact fun _ _ _ h=>h) (by rfl) (by assumption) (fun w _=>by go_simp;try (with_reducible rfl)) ?_;try simp only [qaa])
   refine Plan.nil ?_
   refine qad 15 (by kernel_rfl) (by simp only [qab];rfl) (fun K hK => ?_)
   go_simp
   first
    | (go_at_call 277;refine (qg6 x y _).mono ?_;rintro e w5 ⟨rfl,k5⟩;rw [hbf])
   try go_wp2_with fail
   refine hK.out _ _ ?_ (fun hHeld => ?_)
   ·exact Keeps.trans (by assumption) (by assumption)
   clear hK K
   try simp only [qaa]
   refine qan 16 (v := ?_) (by simp only [qab];rfl) (by kernel_rfl) (by exact fun _ _ _ h=>h) (by rfl) (by assumption) ?_ ?_
   rotate_left
   ·(intro w _;go_simp;try (with_reducible rfl))
   try simp only [qaa]
   refine wpAnyH_done (by kernel_rfl) ?_ _
   have K5:Keeps X w5:=by assumption
   have ll:w5.cell? ⟨L,0,none⟩=some (.slice (some ⟨b,0,none⟩) 2 cap):=l1 _ K5
   have fr:=(TH.out.keeps K5).free
   have u0:w5.cell? ⟨b,0,none⟩=some (.int .i64 y.no):=y0 _ K5
   have u1:w5.cell? ⟨b,1,none⟩=some (.int .i64 y.cls):=y1 _ K5
   have u2:w5.cell? ⟨b,2,none⟩=some (.int .i64 y.cpu):=y2 _ K5
   have u3:w5.cell? ⟨b,3,none⟩=some (.int .i64 y.st):=y3 _ K5
   have u4:w5.cell? ⟨b,4,none⟩=some (.bool y.idle):=y4 _ K5
   have u5:w5.cell? ⟨b,5,none⟩=some (.int .i64 y.q):=y5 _ K5
   have u6:w5.cell? ⟨b,6,none⟩=some (.int .i64 y.p):=y6 _ K5
   have u7:w5.cell? ⟨b,7,none⟩=some (.int .i64 y.left):=y7 _ K5
   have u8:w5.cell? ⟨b,8,none⟩=some (.int .i64 y.due):=y8 _ K5
   have v0:w5.cell? ⟨b,9,none⟩=some (.int .i64 x.no):=x0 _ K5
   have v1:w5.cell? ⟨b,10,none⟩=some (.int .i64 x.cls):=x1 _ K5
   have v2:w5.cell? ⟨b,11,none⟩=some (.int .i64 x.cpu):=x2 _ K5
   have v3:w5.cell? ⟨b,12,none⟩=some (.int .i64 x.st):=x3 _ K5
   have v4:w5.cell? ⟨b,13,none⟩=some (.bool x.idle):=x4 _ K5
   have v5:w5.cell? ⟨b,14,none⟩=some (.int .i64 x.q):=x5 _ K5
   have v6:w5.cell? ⟨b,15,none⟩=some (.int .i64 x.p):=x6 _ K5
   have v7:w5.cell? ⟨b,16,none⟩=some (.int .i64 x.left):=x7 _ K5
   have v8:w5.cell? ⟨b,17,none⟩=some (.int .i64 x.due):=x8 _ K5
   clear l1 y0 y1 y2 y3 y4 y5 y6 y7 y8 x0 x1 x2 x3 x4 x5 x6 x7 x8 k5 hHeld
   go_wp2_with fail
   go_region
   have D:=(TH.out.keeps K5).swap (KH.out.trans K5) h0
   change Exit.then _ _ _ _ (putC (putC w5 b 9 (dtc y).toList) b 0 (dtc x).toList).drew
   clear u0 u1 u2 u3 u4 u5 u6 u7 u8 v0 v1 v2 v3 v4 v5 v6 v7 v8 fr ll
   generalize (putC (putC w5 b 9 (dtc y).toList) b 0 (dtc x).toList).drew=Y at D ⊢
   have DH:Hid (qfD W0 L x Y):=D
   clear D
   go_wp2
   go_end0
   exact ⟨rfl,by rw [Hb.out];exact DH.out⟩
end Go.Proofs.YthpdlbcdbncnhaaGreatDoor
