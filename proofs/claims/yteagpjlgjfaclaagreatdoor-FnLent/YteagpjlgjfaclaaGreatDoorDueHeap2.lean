/-
  The program's CallOk.
  The program's heap of two: put and first.
  The program's heap of two: the second one that is put.
  Deadlines, the program's side: who is before whom.
-/
import Derived.Test.YteagpjlgjfaclaaGreatDoorFairHeap
import Derived.Test.YteagpjlgjfaclaaGreatDoorCallDo0
import Derived.Test.YteagpjlgjfaclaaGreatDoorLockSpec2
import Derived.Laws.StructEq
import Derived.Deep.RegionHeld3
namespace Go.Proofs.YteagpjlgjfaclaaGreatDoor
set_option maxRecDepth 100000
open Go.RowKit
attribute [local go_sem] aa.refl aa.alloc aa.drew aa.drewN
section
attribute [local go_sem high] Ad
set_option linter.unusedSimpArgs false in
set_option maxHeartbeats 4000000 in
theorem H8:H9:=by
 intro c w
 cases c1:(c.kind==1)
 rotate_left
 ·have Hr:Hid (ey c=true):=by
   show _=_
   have hk:c.kind=1:=by simpa using c1
   simp [ey,eh,fF,aF,hk]
  go_enter Tryz.func35,Tryz.ntmps35
  go_wp2
  go_ret
  exact ⟨by rw [Hr.out];rfl,(aa.refl w).alloc _⟩
 cases c2:(c.kind==2)
 rotate_left
 ·have Hr:Hid (ey c=true):=by
   show _=_
   have hk:c.kind=2:=by simpa using c2
   simp [ey,eh,fF,aF,hk]
  go_enter Tryz.func35,Tryz.ntmps35
  go_wp2
  go_ret
  exact ⟨by rw [Hr.out];rfl,(aa.refl w).alloc _⟩
 cases c3:(c.kind==3)
 rotate_left
 ·have Hr:Hid (ey c=fF c ⟨c.kind,c.no,c.cpu,c.a,0⟩):=by
   show _=_
   have hk:c.kind=3:=by simpa using c3
   simp [ey,eh,aF,hk]
  go_enter Tryz.func35,Tryz.ntmps35
  go_wp2
  all_goals go_ret
  all_goals exact ⟨by rw [Hr.out];first | rfl | (simp_all [fF,go_sem];done),by repeat (first | exact aa.refl _ | refine aa.alloc ?_ _ | refine aa.drewN ?_ _ | refine aa.drew ?_)⟩
 cases c4:(c.kind==4)
 rotate_left
 ·have Hr:Hid (ey c=fF c ⟨c.kind,c.no,0,0,0⟩):=by
   show _=_
   have hk:c.kind=4:=by simpa using c4
   simp [ey,eh,aF,hk]
  go_enter Tryz.func35,Tryz.ntmps35
  go_wp2
  all_goals go_ret
  all_goals exact ⟨by rw [Hr.out];first | rfl | (simp_all [fF,go_sem];done),by repeat (first | exact aa.refl _ | refine aa.alloc ?_ _ | refine aa.drewN ?_ _ | refine aa.drew ?_)⟩
 cases c5:(c.kind==5)
 rotate_left
 ·have Hr:Hid (ey c=fF c ⟨c.kind,c.no,0,0,0⟩):=by
   show _=_
   have hk:c.kind=5:=by simpa using c5
   simp [ey,eh,aF,hk]
  go_enter Tryz.func35,Tryz.ntmps35
  go_wp2
  all_goals go_ret
  all_goals exact ⟨by rw [Hr.out];first | rfl | (simp_all [fF,go_sem];done),by repeat (first | exact aa.refl _ | refine aa.alloc ?_ _ | refine aa.drewN ?_ _ | refine aa.drew ?_)⟩
 cases c6:(c.kind==6)
 rotate_left
 ·have Hr:Hid (ey c=fF c ⟨c.kind,c.no,0,0,0⟩):=by
   show _=_
   have hk:c.kind=6:=by simpa using c6
   simp [ey,eh,aF,hk]
  go_enter Tryz.func35,Tryz.ntmps35
  go_wp2
  all_goals go_ret
  all_goals exact ⟨by rw [Hr.out];first | rfl | (simp_all [fF,go_sem];done),by repeat (first | exact aa.refl _ | refine aa.alloc ?_ _ | refine aa.drewN ?_ _ | refine aa.drew ?_)⟩
 cases c7:(c.kind==7)
 rotate_left
 ·have Hr:Hid (ey c=fF c ⟨c.kind,c.no,0,c.a,0⟩):=by
   show _=_
   have hk:c.kind=7:=by simpa using c7
   simp [ey,eh,aF,hk]
  go_enter Tryz.func35,Tryz.ntmps35
  go_wp2
  all_goals go_ret
  all_goals exact ⟨by rw [Hr.out];first | rfl | (simp_all [fF,go_sem];done),by repeat (first | exact aa.refl _ | refine aa.alloc ?_ _ | refine aa.drewN ?_ _ | refine aa.drew ?_)⟩
 cases c8:(c.kind==8)
 rotate_left
 ·have Hr:Hid (ey c=fF c ⟨c.kind,c.no,0,c.a,0⟩):=by
   show _=_
   have hk:c.kind=8:=by simpa using c8
   simp [ey,eh,aF,hk]
  go_enter Tryz.func35,Tryz.ntmps35
  go_wp2
  all_goals go_ret
  all_goals exact ⟨by rw [Hr.out];first | rfl | (simp_all [fF,go_sem];done),by repeat (first | exact aa.refl _ | refine aa.alloc ?_ _ | refine aa.drewN ?_ _ | refine aa.drew ?_)⟩
 cases c9:(c.kind==9)
 rotate_left
 ·have Hr:Hid (ey c=fF c ⟨c.kind,c.no,0,c.a,0⟩):=by
   show _=_
   have hk:c.kind=9:=by simpa using c9
   simp [ey,eh,aF,hk]
  go_enter Tryz.func35,Tryz.ntmps35
  go_wp2
  all_goals go_ret
  all_goals exact ⟨by rw [Hr.out];first | rfl | (simp_all [fF,go_sem];done),by repeat (first | exact aa.refl _ | refine aa.alloc ?_ _ | refine aa.drewN ?_ _ | refine aa.drew ?_)⟩
 cases c10:(c.kind==10)
 rotate_left
 ·have Hr:Hid (ey c=fF c ⟨c.kind,c.no,c.cpu,0,0⟩):=by
   show _=_
   have hk:c.kind=10:=by simpa using c10
   simp [ey,eh,aF,hk]
  go_enter Tryz.func35,Tryz.ntmps35
  go_wp2
  all_goals go_ret
  all_goals exact ⟨by rw [Hr.out];first | rfl | (simp_all [fF,go_sem];done),by repeat (first | exact aa.refl _ | refine aa.alloc ?_ _ | refine aa.drewN ?_ _ | refine aa.drew ?_)⟩
 cases c11:(c.kind==11)
 rotate_left
 ·have Hr:Hid (ey c=fF c ⟨c.kind,0,0,c.a,0⟩):=by
   show _=_
   have hk:c.kind=11:=by simpa using c11
   simp [ey,eh,aF,hk]
  go_enter Tryz.func35,Tryz.ntmps35
  go_wp2
  all_goals go_ret
  all_goals exact ⟨by rw [Hr.out];first | rfl | (simp_all [fF,go_sem];done),by repeat (first | exact aa.refl _ | refine aa.alloc ?_ _ | refine aa.drewN ?_ _ | refine aa.drew ?_)⟩
 have Hr:Hid (ey c=false):=by
  show _=_
  simp only [beq_eq_false_iff_ne,ne_eq] at c1 c2 c3 c4 c5 c6 c7 c8 c9 c10 c11
  have:aF c.kind 1 11=false:=by
   simp [aF]
   omega
  simp [ey,this]
 go_enter Tryz.func35,Tryz.ntmps35
 go_wp2
 go_ret
 exact ⟨by rw [Hr.out];rfl,(aa.refl w).alloc _⟩
end
theorem oF (t:ag):(bg t).size=9:=rfl
theorem Ae (t:ag):∀ u∈(bg t).toList,u.oneCell'=true:=by
 intro u hu
 simp at hu
 rcases hu with rfl | rfl | rfl | rfl | rfl | rfl | rfl | rfl | rfl <;> rfl
def fi (a b:ag):Bool:=decide (a.due < b.due)||a.due==b.due&&decide (a.no < b.no)
set_option maxHeartbeats 1000000 in
theorem Af (a b:ag) (w:World) :
  Calls Tryz.prog 301 #[.agg (bg a),.agg (bg b)] w fun e w'=>e = .returned (.bool (fi a b)) /\ aa w w':=by
 cases h1:decide (a.due < b.due)
 ·cases h2:(a.due==b.due)
  ·have Hr:Hid (fi a b=false):=by show _=_;simp only [fi,h1,h2,Bool.false_and,Bool.or_false]
   go_enter Tryz.func301,Tryz.ntmps301
   go_wp2
   go_ret
   exact ⟨by rw [Hr.out];rfl,((aa.refl _).alloc _).alloc _⟩
  ·have Hr:Hid (fi a b=decide (a.no < b.no)):=by show _=_;simp only [fi,h1,h2,Bool.true_and,Bool.false_or]
   go_enter Tryz.func301,Tryz.ntmps301
   go_wp2
   go_ret
   exact ⟨by rw [Hr.out];rfl,((aa.refl _).alloc _).alloc _⟩
 ·have Hr:Hid (fi a b=true):=by show _=_;simp only [fi,h1,Bool.true_or]
  go_enter Tryz.func301,Tryz.ntmps301
  go_wp2
  go_ret
  exact ⟨by rw [Hr.out];rfl,((aa.refl _).alloc _).alloc _⟩
theorem Ia (L b cap:Nat) (z:ag) (w:World) (hL:w.cell? ⟨L,0,none⟩=some (.slice (some ⟨b,0,none⟩) 2 cap)) (hz:∀ k,k < 9->w.cell? ⟨b,k,none⟩=(bg z)[k]?) :
  Calls Tryz.prog 305 #[.pointer (some ⟨L,0,none⟩)] w fun e w'=>e = .returned (.agg (bg z)) /\ aa w w':=by
 have l1:=aa.has hL
 have z0:=aa.has (hz 0 (by omega))
 have z1:=aa.has (hz 1 (by omega))
 have z2:=aa.has (hz 2 (by omega))
 have z3:=aa.has (hz 3 (by omega))
 have z4:=aa.has (hz 4 (by omega))
 have z5:=aa.has (hz 5 (by omega))
 have z6:=aa.has (hz 6 (by omega))
 have z7:=aa.has (hz 7 (by omega))
 have z8:=aa.has (hz 8 (by omega))
 clear hz hL
 go_enter Tryz.func305,Tryz.ntmps305
 go_wp2
 exact bodyPost_ret (v := .agg (bg z)) (by simp [results,Tryz.results305,go_sem]) rfl ⟨rfl,(aa.refl _).alloc _⟩
set_option maxHeartbeats 4000000 in
theorem Ib (x:ag) (L:Nat) (w:World) (B:ai w L #[.slice none 0 0]) :
  Calls Tryz.prog 304 #[.pointer (some ⟨L,0,none⟩),.agg (bg x)] w fun e w'=>e = .returned (.tuple #[]) /\
   ∃ v,ai w' L #[v] /\ Own 84 9 bg w' w.heap.size v [x] /\ ab L w w':=by
 have hl:=B.lt
 have B1:Hid (ai (w.alloc (.cells (bg x) 84)) L #[.slice none 0 0]):=B.alloc _
 have KW:Hid (ab L w (w.alloc (.cells (bg x) 84))):=ab.of ((aa.refl w).alloc _)
 have X1:=ai.new w (bg x) 84
 have hsz:Hid ((w.alloc (.cells (bg x) 84)).heap.size=w.heap.size+1):=by show _=_;simp
 go_enter Tryz.func304,Tryz.ntmps304
 go_wp2_with fail
 obtain ⟨_,x1,x2⟩:=X1
 obtain ⟨_,b1,b2⟩:=B1.out
 clear B
 generalize w.alloc (.cells (bg x) 84)=W at *
 go_region_law (refine qs rfl (.tmp 10) (.tmp 12) 301 rfl W.heap.size 84 (.agg (bg ag.zero)) 9 72 bg Tryz.underlying301 (by kernel_rfl) rfl (by decide) oF Ae (.slice none 0 0) [] (by simp [Act.eval]) (World.ownsRow_nil _ _ _ _) (by simp) x _ 1 ((ai.new _ _ _).keeps (aa.refl _).drew) (by simp [Act.eval]) (by decide) (by decide) ?_;intro v' w' hown hgrow;obtain ⟨bb,cap,rfl,-,-,-⟩:=hown.some oF (by simp);have G:Hid (ai w' L #[.slice none 0 0]):=((B1.out.alloc _).keeps (aa.refl _).drew).grown hgrow (by intro k hk;cases hk);obtain ⟨_,g1,g2⟩:=G.out)
 all_goals (go_wp2_with fail;refine wp_loop_once ?_;go_wp2;go_end0)
 all_goals
  have hL:L < W.heap.size:=by have:=hsz.out;omega
  have k1:ab L w w':=((KW.out.alloc _).drew.grown hgrow (by intro k hk;cases hk))
  exact ⟨rfl,_,by simpa using G.out.set 0 (by simp) _,(hown.cE ((ab.refl L w').setCell 0 _) hL).base (by have:=hsz.out;omega),k1.setCell 0 _⟩
structure iJ (w:World) (L b cap:Nat) (y x:ag):Prop where
 line:ai w L #[.slice (some ⟨b,0,none⟩) 2 cap]
 lt:b < w.heap.size
 low:L < b
 fst:∀ k,k < 9->w.cell? ⟨b,k,none⟩=(bg y)[k]?
 snd:∀ k,k < 9->w.cell? ⟨b,9+k,none⟩=(bg x)[k]?
 free:∀ k,w.frozen? ⟨b,k,none⟩=false
theorem iJ.keeps {w w':World} {L b cap:Nat} {y x:ag} (h:iJ w L b cap y x) (k:aa w w'):iJ w' L b cap y x :=
 ⟨h.line.keeps k,Nat.lt_of_lt_of_le h.lt k.size,h.low,fun i hi=>(k.cells _ _ h.lt).trans (h.fst i hi),fun i hi=>(k.cells _ _ h.lt).trans (h.snd i hi),fun i=>(k.aM _ _ h.lt).trans (h.free i)⟩
theorem Ic (x:ag):∀ (n:Nat) (w:World),0 < n->(method n 84 (.agg (bg x)) "loop.example/g00185/impl.isBefore").run Tryz.prog w = .ok (301,.agg (bg x)) w
 | 0,_,h=>absurd h (Nat.lt_irrefl 0)
 | _+1,_,_=>by kernel_rfl
theorem Ie {w:World} {L b cap base:Nat} {y x:ag} {u:Value} (h:Own 84 9 bg w base (.slice (some ⟨b,0,none⟩) ([y]++[x]).length cap) ([y]++[x])) (B:ai w L #[u]) (hL:L < base) :
  iJ (w.setCell ⟨L,0,none⟩ (.slice (some ⟨b,0,none⟩) ([y]++[x]).length cap)) L b cap y x:=by
 obtain ⟨f1,f2,f3⟩:=h.free
 obtain ⟨a,cp,e,l,-,-⟩:=h.slice oF
 simp only [Value.slice.injEq] at e
 obtain ⟨rfl,-,rfl⟩:=e
 have hne:L≠b:=by omega
 rcases l with l | ⟨b',off,e',hb',l⟩
 ·simp at l
 ·simp only [Option.some.injEq,Addr.mk.injEq] at e'
  obtain ⟨rfl,rfl,-⟩:=e'
  refine ⟨by simpa using B.set 0 (by simp) (.slice (some ⟨b,0,none⟩) ([y]++[x]).length cap),by simpa using f2,by omega,fun k hk => ?_,fun k hk => ?_,fun k=>by simpa using f3 k⟩
  ·rw [fp (.inl hne)]
   simpa using l 0 y rfl k hk
  ·rw [fp (.inl hne)]
   simpa using l 1 x rfl k hk
def vu (W0:World) (L:Nat) (z:ag) (w':World):Prop :=
 ∃ b cap,w'.cell? ⟨L,0,none⟩=some (.slice (some ⟨b,0,none⟩) 2 cap) /\ (∀ k,k < 9->w'.cell? ⟨b,k,none⟩=(bg z)[k]?) /\ aa W0 w'
theorem iJ.swap {W0 w:World} {L b cap:Nat} {y x:ag} (h:iJ w L b cap y x) (k:aa W0 w) (h0:W0.heap.size <= L):vu W0 L x (putC (putC w b 9 (bg y).toList) b 0 (bg x).toList).drew:=by
 have hb:=h.low
 have hc:∀ i,i < 9->∃ u,w.cell? ⟨b,i,none⟩=some u:=fun i hi=>⟨(bg y)[i]'hi,(h.fst i hi).trans (Array.getElem?_eq_getElem hi)⟩
 have hs:=Ag (A:=(bg y).toList) (B:=(bg x).toList) hb hc rfl
 have hk:=Ah (bg y).toList (bg x).toList k (show W0.heap.size <= b by omega)
 have hx:∀ i,(bg x).toList[i]?=(bg x)[i]?:=fun i=>Array.getElem?_toList
 generalize (putC (putC w b 9 (bg y).toList) b 0 (bg x).toList).drew=Y at hs hk ⊢
 exact ⟨b,cap,hs.1.trans (h.line.cells 0),fun i hi=>(hs.2 i hi).trans (hx i),hk⟩
def iw (x y:ag):ag:=if fi x y then x else y
set_option maxHeartbeats 8000000 in
theorem Ig (x y:ag) (L:Nat) (v:Value) (base:Nat) (W0 w:World) (B:ai w L #[v]) (hown:Own 84 9 bg w base v [y]) (hk:aa W0 w) (h0:W0.heap.size <= L) (h1:L < base) (h2:base <= w.heap.size) :
  Calls Tryz.prog 304 #[.pointer (some ⟨L,0,none⟩),.agg (bg x)] w fun e w'=>e = .returned (.tuple #[]) /\
   vu W0 L (iw x y) w':=by
 have hl:=B.lt
 obtain ⟨b0,cap0,rfl,-,-,-⟩:=hown.some oF (by simp)
 obtain ⟨f1,f2,-⟩:=hown.free
 have B1:Hid (ai (w.alloc (.cells (bg x) 84)) L #[.slice (some ⟨b0,0,none⟩) 1 cap0]):=B.alloc _
 have O1:Hid (Own 84 9 bg (w.alloc (.cells (bg x) 84)) base (.slice (some ⟨b0,0,none⟩) 1 cap0) [y]):=hown.alloc _
 have KW:Hid (aa W0 (w.alloc (.cells (bg x) 84))):=hk.alloc _
 have X1:=ai.new w (bg x) 84
 have hsz:Hid ((w.alloc (.cells (bg x) 84)).heap.size=w.heap.size+1):=by show _=_;simp
 go_enter Tryz.func304,Tryz.ntmps304
 go_wp2_with fail
 obtain ⟨_,z1,z2⟩:=X1
 obtain ⟨_,b1,b2⟩:=B1.out
 clear B hown hk
 generalize w.alloc (.cells (bg x) 84)=W at *
 go_cut [14] (fun c wx=>c = .pointer (some ⟨L,0,none⟩) /\ ∃ b cap,iJ wx L b cap y x /\ aa W0 wx)
 case first =>
  go_region_law (refine qs rfl (.tmp 10) (.tmp 12) 301 rfl base 84 (.agg (bg ag.zero)) 9 72 bg Tryz.underlying301 (by kernel_rfl) rfl (by decide) oF Ae (.slice (some ⟨b0,0,none⟩) 1 cap0) [y] (by simp [Act.eval]) ((O1.out.alloc _).keeps (aa.refl _).drew) (by have:=hsz.out;simp;omega) x _ 1 ((ai.new _ _ _).keeps (aa.refl _).drew) (by simp [Act.eval]) (by simp [maxLen]) (by simp) ?_;intro v' w' hown hgrow;obtain ⟨bb,cap,rfl,li,-,-⟩:=hown.some oF (by simp);have G:Hid (ai w' L #[.slice (some ⟨b0,0,none⟩) 1 cap0]):=((B1.out.alloc _).keeps (aa.refl _).drew).grown hgrow (by intro k hk;simp [Value.ownBlock] at hk;omega);obtain ⟨_,g1,g2⟩:=G.out)
  all_goals
   go_wp2
   go_meet
   refine ⟨rfl,bb,cap,Ie hown G.out h1,?_⟩
   exact ((KW.out.alloc _).drew.grown hgrow (by intro k hk;simp [Value.ownBlock] at hk;omega)).setCell h0 _
 case rest =>
  obtain ⟨rfl,b,cap,T,K⟩:=hcut
  generalize wc=X at *
  have TH:Hid (iJ X L b cap y x):=T
  have KH:Hid (aa W0 X):=K
  have l1:∀ w',aa X w'->w'.cell? ⟨L,0,none⟩=some (.slice (some ⟨b,0,none⟩) 2 cap):=aa.has (T.line.cells 0)
  have y0:∀ w',aa X w'->w'.cell? ⟨b,0,none⟩=some (.int .i64 y.no):=aa.has (T.fst 0 (by omega))
  have y1:∀ w',aa X w'->w'.cell? ⟨b,1,none⟩=some (.int .i64 y.cls):=aa.has (T.fst 1 (by omega))
  have y2:∀ w',aa X w'->w'.cell? ⟨b,2,none⟩=some (.int .i64 y.cpu):=aa.has (T.fst 2 (by omega))
  have y3:∀ w',aa X w'->w'.cell? ⟨b,3,none⟩=some (.int .i64 y.st):=aa.has (T.fst 3 (by omega))
  have y4:∀ w',aa X w'->w'.cell? ⟨b,4,none⟩=some (.bool y.idle):=aa.has (T.fst 4 (by omega))
  have y5:∀ w',aa X w'->w'.cell? ⟨b,5,none⟩=some (.int .i64 y.q):=aa.has (T.fst 5 (by omega))
  have y6:∀ w',aa X w'->w'.cell? ⟨b,6,none⟩=some (.int .i64 y.p):=aa.has (T.fst 6 (by omega))
  have y7:∀ w',aa X w'->w'.cell? ⟨b,7,none⟩=some (.int .i64 y.left):=aa.has (T.fst 7 (by omega))
  have y8:∀ w',aa X w'->w'.cell? ⟨b,8,none⟩=some (.int .i64 y.due):=aa.has (T.fst 8 (by omega))
  have x0:∀ w',aa X w'->w'.cell? ⟨b,9,none⟩=some (.int .i64 x.no):=aa.has (T.snd 0 (by omega))
  have x1:∀ w',aa X w'->w'.cell? ⟨b,10,none⟩=some (.int .i64 x.cls):=aa.has (T.snd 1 (by omega))
  have x2:∀ w',aa X w'->w'.cell? ⟨b,11,none⟩=some (.int .i64 x.cpu):=aa.has (T.snd 2 (by omega))
  have x3:∀ w',aa X w'->w'.cell? ⟨b,12,none⟩=some (.int .i64 x.st):=aa.has (T.snd 3 (by omega))
  have x4:∀ w',aa X w'->w'.cell? ⟨b,13,none⟩=some (.bool x.idle):=aa.has (T.snd 4 (by omega))
  have x5:∀ w',aa X w'->w'.cell? ⟨b,14,none⟩=some (.int .i64 x.q):=aa.has (T.snd 5 (by omega))
  have x6:∀ w',aa X w'->w'.cell? ⟨b,15,none⟩=some (.int .i64 x.p):=aa.has (T.snd 6 (by omega))
  have x7:∀ w',aa X w'->w'.cell? ⟨b,16,none⟩=some (.int .i64 x.left):=aa.has (T.snd 7 (by omega))
  have x8:∀ w',aa X w'->w'.cell? ⟨b,17,none⟩=some (.int .i64 x.due):=aa.has (T.snd 8 (by omega))
  clear T K z1 z2 b1 b2
  go_wp2_with fail
  have hm:=Ic x
  refine Ai ?_
  go_wp2_with fail
  cases hbf:fi x y
  ·have Hb:Hid (iw x y=y):=by show _=_;simp [iw,hbf]
   refine wp_region_held_drew (S:=(fun w'=>aa X w')) (by kernel_rfl) ?_ (fun hHeld => ?_)
   ·exact (aa.refl X).drew
   refine ad.go [0,1,2,3,4,5,6,7,8,9,10,11,12,13,14] ?_
   iterate 15 (refine aJ (h := ?_);try simp only [ar])
   refine ad.nil ?_
   refine aO 15 (h:=fun K hK => ?_)
   go_simp
   first
    | (go_at_call 301;refine (Af x y _).mono ?_;rintro e w5 ⟨rfl,k5⟩;rw [hbf])
   try go_wp2_with fail
   refine hK.out _ _ ?_ fun hHeld => ?_
   ·exact aa.trans (by assumption) (by assumption)
   clear hK K
   try simp only [ar]
   refine cU 16 (h := ?_)
   try simp only [ar]
   refine wpAnyH_done (by kernel_rfl) ?_ _
   have K5:aa X w5:=by assumption
   go_wp2
   exact bodyPost_ret (v := .tuple #[]) (results_none rfl _ _ _) rfl ⟨rfl,by rw [Hb.out];exact ⟨b,cap,l1 _ K5,(TH.out.keeps K5).fst,KH.out.trans K5⟩⟩
  ·have Hb:Hid (iw x y=x):=by show _=_;simp [iw,hbf]
   refine wp_region_held_drew (S:=(fun w'=>aa X w')) (by kernel_rfl) ?_ (fun hHeld => ?_)
   ·exact (aa.refl X).drew
   refine ad.go [0,1,2,3,4,5,6,7,8,9,10,11,12,13,14] ?_
   iterate 15 (refine aJ (h := ?_);try simp only [ar])
   refine ad.nil ?_
   refine aO 15 (h:=fun K hK => ?_)
   go_simp
   first
    | (go_at_call 301;refine (Af x y _).mono ?_;rintro e w5 ⟨rfl,k5⟩;rw [hbf])
   try go_wp2_with fail
   refine hK.out _ _ ?_ fun hHeld => ?_
   ·exact aa.trans (by assumption) (by assumption)
   clear hK K
   try simp only [ar]
   refine cU 16 (h := ?_)
   try simp only [ar]
   refine wpAnyH_done (by kernel_rfl) ?_ _
   have K5:aa X w5:=by assumption
   have ll:w5.cell? ⟨L,0,none⟩=some (.slice (some ⟨b,0,none⟩) 2 cap):=l1 _ K5
   have fr:=(TH.out.keeps K5).free
   have u0:w5.cell? ⟨b,0,none⟩=some (.int .i64 y.no):=y0 _ K5
   have u1:w5.cell? ⟨b,1,none⟩=some (.int .i64 y.cls):=y1 _ K5
   have u2:w5.cell? ⟨b,2,none⟩=some (.int .i64 y.cpu):=y2 _ K5
   have u3:w5.cell? ⟨b,3,none⟩=some (.int .i64 y.st):=y3 _ K5
   have u4:w5.cell? ⟨b,4,none⟩=some (.bool y.idle):=y4 _ K5
   have u5:w5.cell? ⟨b,5,none⟩=some (.int .i64 y.q):=y5 _ K5
   have u6:w5.cell? ⟨b,6,none⟩=some (.int .i64 y.p):=y6 _ K5
   have u7:w5.cell? ⟨b,7,none⟩=some (.int .i64 y.left):=y7 _ K5
   have u8:w5.cell? ⟨b,8,none⟩=some (.int .i64 y.due):=y8 _ K5
   have v0:w5.cell? ⟨b,9,none⟩=some (.int .i64 x.no):=x0 _ K5
   have v1:w5.cell? ⟨b,10,none⟩=some (.int .i64 x.cls):=x1 _ K5
   have v2:w5.cell? ⟨b,11,none⟩=some (.int .i64 x.cpu):=x2 _ K5
   have v3:w5.cell? ⟨b,12,none⟩=some (.int .i64 x.st):=x3 _ K5
   have v4:w5.cell? ⟨b,13,none⟩=some (.bool x.idle):=x4 _ K5
   have v5:w5.cell? ⟨b,14,none⟩=some (.int .i64 x.q):=x5 _ K5
   have v6:w5.cell? ⟨b,15,none⟩=some (.int .i64 x.p):=x6 _ K5
   have v7:w5.cell? ⟨b,16,none⟩=some (.int .i64 x.left):=x7 _ K5
   have v8:w5.cell? ⟨b,17,none⟩=some (.int .i64 x.due):=x8 _ K5
   clear l1 y0 y1 y2 y3 y4 y5 y6 y7 y8 x0 x1 x2 x3 x4 x5 x6 x7 x8 k5 hHeld
   go_wp2_with fail
   go_region
   have D:=(TH.out.keeps K5).swap (KH.out.trans K5) h0
   change Exit.then _ _ _ _ (putC (putC w5 b 9 (bg y).toList) b 0 (bg x).toList).drew
   clear u0 u1 u2 u3 u4 u5 u6 u7 u8 v0 v1 v2 v3 v4 v5 v6 v7 v8 fr ll
   generalize (putC (putC w5 b 9 (bg y).toList) b 0 (bg x).toList).drew=Y at D ⊢
   have DH:Hid (vu W0 L x Y):=D
   clear D
   go_wp2
   go_end0
   exact ⟨rfl,by rw [Hb.out];exact DH.out⟩
def oG (a b:ag):Bool:=a.no==b.no&&(a.cls==b.cls&&(a.cpu==b.cpu&&(a.st==b.st&&(a.idle==b.idle&&(a.q==b.q&&(a.p==b.p&&(a.left==b.left&&(a.due==b.due))))))))
theorem Ih (d:Nat) (w:World) (a b:ag):(Op.equalIn (d+4) 84 (.agg (bg a)) (.agg (bg b))).run Tryz.prog w = .ok (oG a b) w:=by
 rw [run_equalIn_agg _ _ _ _ _ (by kernel_rfl) (by kernel_rfl)]
 go_simp
 unfold oG
 by_cases h0:a.no=b.no
 case neg=>simp only [if_neg h0,beq_eq_false_iff_ne.2 h0,Bool.false_and]
 simp only [if_pos h0,beq_iff_eq.2 h0,Bool.true_and]
 by_cases h1:a.cls=b.cls
 case neg=>simp only [if_neg h1,beq_eq_false_iff_ne.2 h1,Bool.false_and]
 simp only [if_pos h1,beq_iff_eq.2 h1,Bool.true_and]
 by_cases h2:a.cpu=b.cpu
 case neg=>simp only [if_neg h2,beq_eq_false_iff_ne.2 h2,Bool.false_and]
 simp only [if_pos h2,beq_iff_eq.2 h2,Bool.true_and]
 by_cases h3:a.st=b.st
 case neg=>simp only [if_neg h3,beq_eq_false_iff_ne.2 h3,Bool.false_and]
 simp only [if_pos h3,beq_iff_eq.2 h3,Bool.true_and]
 by_cases h4:a.idle=b.idle
 case neg=>simp only [if_neg h4,beq_eq_false_iff_ne.2 h4,Bool.false_and]
 simp only [if_pos h4,beq_iff_eq.2 h4,Bool.true_and]
 by_cases h5:a.q=b.q
 case neg=>simp only [if_neg h5,beq_eq_false_iff_ne.2 h5,Bool.false_and]
 simp only [if_pos h5,beq_iff_eq.2 h5,Bool.true_and]
 by_cases h6:a.p=b.p
 case neg=>simp only [if_neg h6,beq_eq_false_iff_ne.2 h6,Bool.false_and]
 simp only [if_pos h6,beq_iff_eq.2 h6,Bool.true_and]
 by_cases h7:a.left=b.left
 case neg=>simp only [if_neg h7,beq_eq_false_iff_ne.2 h7,Bool.false_and]
 simp only [if_pos h7,beq_iff_eq.2 h7,Bool.true_and]
 by_cases h8:a.due=b.due
 ·simp only [if_pos h8,beq_iff_eq.2 h8]
 ·simp only [if_neg h8,beq_eq_false_iff_ne.2 h8]
theorem Ii (w:World) (a b:ag):(binOp .neq 84 (.agg (bg a)) (.agg (bg b))).run Tryz.prog w = .ok (.bool (!oG a b)) w:=by
 rw [run_neq_struct,Ih 9996];rfl
theorem Ij (x y:ag):(!oG (iw x y) y)=fi x y:=by
 cases h:fi x y
 ·simp [iw,h,oG]
 ·simp only [iw,h,if_true]
  rw [Bool.not_eq_true',Bool.eq_false_iff]
  intro e
  simp only [oG,Bool.and_eq_true,beq_iff_eq] at e
  simp only [fi,Bool.or_eq_true,Bool.and_eq_true,decide_eq_true_eq,beq_iff_eq] at h
  omega
theorem Ik {W w:World} {L b cap:Nat} {z:ag} (K:aa W w) (hL:W.cell? ⟨L,0,none⟩=some (.slice (some ⟨b,0,none⟩) 2 cap)) (hz:∀ k,k < 9->W.cell? ⟨b,k,none⟩=(bg z)[k]?) :
  Calls Tryz.prog 305 #[.pointer (some ⟨L,0,none⟩)] w fun e w'=>e = .returned (.agg (bg z)) /\ aa w w' :=
 Ia L b cap z w (aa.has hL w K) (fun k hk=>(K.cells _ _ (World.block_lt_of_cell? W ⟨b,0,none⟩ (hz 0 (by omega)))).trans (hz k hk))
attribute [local go_sem high] Ii
set_option maxHeartbeats 4000000 in
theorem vv:Il:=by
 intro a b w
 go_enter Tryz.func303,Tryz.ntmps303
 go_wp2_with fail
 have kW:aa w ((w.alloc (.cells (tc a) 43)).alloc (.cells (tc b) 43)):=((aa.refl w).alloc _).alloc _
 have r1:∀ w',aa ((w.alloc (.cells (tc a) 43)).alloc (.cells (tc b) 43)) w'->∀ k,w'.cell? ⟨w.heap.size,k,none⟩=(tc a)[k]?:=fun w' h=>(((ai.new w (tc a) 43).alloc _).keeps h).cells
 have r2:∀ w',aa ((w.alloc (.cells (tc a) 43)).alloc (.cells (tc b) 43)) w'->∀ k,w'.cell? ⟨w.heap.size+1,k,none⟩=(tc b)[k]?:=fun w' h=>by
  have:=(ai.new (w.alloc (.cells (tc a) 43)) (tc b) 43).keeps h
  simp only [World.size_alloc] at this
  exact this.cells
 generalize (w.alloc (.cells (tc a) 43)).alloc (.cells (tc b) 43)=W at *
 refine (yg a _).mono ?_
 rintro e w1 ⟨rfl,k1⟩
 cases ha:dh a
 ·have Hr:Hid (fQ a b=false):=by show _=_;simp [fQ,ha]
  go_wp2
  go_ret
  exact ⟨by rw [Hr.out];rfl,kW.trans k1⟩
 ·go_wp2_with fail
  refine (yg b _).mono ?_
  rintro e w2 ⟨rfl,k2⟩
  have K2:=k1.trans k2
  cases hb:dh b
  ·have Hr:Hid (fQ a b=false):=by show _=_;simp [fQ,hb]
   go_wp2
   go_ret
   exact ⟨by rw [Hr.out];rfl,kW.trans K2⟩
  ·have Hr:Hid (fQ a b=fi a b):=by show _=_;simp only [fQ,fi,ha,hb,Bool.true_and]
   clear k1 k2
   go_wp2_with fail
   have BL:=ai.new w2 #[.slice none 0 0] 303
   have K3:aa W (w2.alloc (.cells #[.slice none 0 0] 303)):=K2.alloc _
   have hL:=K2.size
   refine (pO b _).mono ?_
   rintro e w3 ⟨rfl,k3⟩
   have qT:=K3.trans k3
   go_wp2_with fail
   refine (Ib b w2.heap.size w3 (BL.keeps k3)).mono ?_
   rintro e w4 ⟨rfl,v,B4,O4,K4⟩
   have k4:aa W w4:=K4.keeps qT hL
   have hs3:w2.heap.size < w3.heap.size:=(BL.keeps k3).lt
   clear BL K3 k3 qT K2
   generalize w2.heap.size=L at *
   generalize w3.heap.size=base at *
   have s4:Hid (base <= w4.heap.size):=by
    obtain ⟨_,_,rfl,_⟩:=O4.some oF (by simp)
    have:=O4.free
    show _ <= _
    omega
   go_wp2_with fail
   refine (pO a _).mono ?_
   rintro e w5 ⟨rfl,k5⟩
   go_wp2_with fail
   refine (Ig a b L v base W w5 (B4.keeps k5) (O4.keeps k5) (k4.trans k5) hL hs3 (Nat.le_trans s4.out k5.size)).mono ?_
   rintro e w6 ⟨rfl,c,cap,q1,q2,k6⟩
   have l1:=aa.has q1
   clear B4 O4 k4 k5 K4
   have r3:∀ w',aa w6 w'->∀ k,w'.cell? ⟨w.heap.size+1,k,none⟩=(tc b)[k]?:=fun w' h=>r2 w' (k6.trans h)
   obtain ⟨z,Hz⟩:∃ z,Hid (iw a b=z):=⟨_,rfl⟩
   have He:Hid ((!oG z b)=fi a b):=by show _=_;rw [<- Hz.out];exact Ij a b
   rw [Hz.out] at q2
   have Q1:Hid (w6.cell? ⟨L,0,none⟩=some (.slice (some ⟨c,0,none⟩) 2 cap)):=q1
   have Q2:Hid (∀ k,k < 9->w6.cell? ⟨c,k,none⟩=(bg z)[k]?):=q2
   have hc:Hid (c < w6.heap.size):=World.block_lt_of_cell? w6 _ (q2 0 (by omega))
   have Aj:Hid (L < w6.heap.size):=World.block_lt_of_cell? w6 _ q1
   clear r1 r2 q1 q2 hL hs3 s4
   have K0:=aa.refl w6
   go_wp2_with fail
   go_region_held3 (fun w'=>aa w6 w') (first | exact aa.drew (by assumption) | exact aa.trans (by assumption) (by assumption))
    (first
    | (go_at_call 43;refine (pO b _).mono ?_;rintro e w7 ⟨rfl,k7⟩)
    | (go_at_call 305;refine (Ik (K:=by assumption) Q1.out Q2.out).mono ?_;rintro e w8 ⟨rfl,k8⟩))
   go_wp2
   go_ret
   exact ⟨by rw [Hr.out,<- He.out];rfl,kW.trans (k6.trans (by assumption))⟩
end Go.Proofs.YteagpjlgjfaclaaGreatDoor
