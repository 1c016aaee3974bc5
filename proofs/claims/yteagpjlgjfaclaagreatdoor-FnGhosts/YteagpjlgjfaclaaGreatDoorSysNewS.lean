/-
  Deadlines, the program's side: what its functions are made
  Ticks, as plain functions: what they leave as it was.
  The system is marked, and looked at again: as a whole.
  The program's locks: what the functions that only look say.
  The system: a new one.
-/
import Derived.Test.YteagpjlgjfaclaaGreatDoorImplWhole
import Derived.Test.YteagpjlgjfaclaaGreatDoorFairList
import Derived.Test.YteagpjlgjfaclaaGreatDoorImplLockA
import Derived.Test.YteagpjlgjfaclaaGreatDoorSysCopy
import Derived.RegionTactic
import Derived.BigRegion
namespace Go.Proofs.YteagpjlgjfaclaaGreatDoor
set_option maxRecDepth 100000
open Go.RowKit
section
attribute [local go_sem] aa.refl aa.alloc aa.drew aa.drewN
theorem Jd (t:ar) (w:World) :
  Calls Tryz.prog 190 #[tk t] w fun e w'=>e = .returned (.bool (cq t)) /\ aa w w':=by
 cases c1:(t.cls==1)
 ·have Hr:Hid (cq t=false):=by show _=_;simp [cq,c1]
  go_enter Tryz.func190,Tryz.ntmps190
  go_wp2
  go_ret
  exact ⟨by rw [Hr.out];rfl,(aa.refl _).alloc _⟩
 ·have Hr:Hid (cq t=bN t):=by show _=_;simp [cq,c1]
  go_enter Tryz.func190,Tryz.ntmps190
  go_wp2_with (go_at_call 74;refine (p5 t _).mono ?_;rintro e w1 ⟨rfl,k1⟩)
  go_ret
  exact ⟨by rw [Hr.out];rfl,((aa.refl w).alloc _).trans k1⟩
set_option maxHeartbeats 1000000 in
theorem Fv:Ek:=by
 intro t w
 go_enter Tryz.func169,Tryz.ntmps169
 go_wp2_with fail
 refine (Jd t _).mono ?_
 rintro e w1 ⟨rfl,k1⟩
 have B1:=((aq.new w (tc t) 43).alloc (.cells #[.int .i64 0,.int .i64 0] 51)).keeps k1
 have B2:=(aq.new (w.alloc (.cells (tc t) 43)) #[.int .i64 0,.int .i64 0] 51).keeps k1
 have K1:Hid (aa w w1):=(((aa.refl w).alloc _).alloc _).trans k1
 simp only [World.size_alloc] at B2
 have R:Hid (aq w1 (w.heap.size+1) #[.int .i64 0,.int .i64 0]):=B2
 obtain ⟨_,b1,b2⟩:=B1
 obtain ⟨_,c1,c2⟩:=B2
 clear k1
 cases hd:cq t
 ·have Hq:Hid (iC t=0):=by show _=_;simp [iC,hd]
  have Hp:Hid (iD t=0):=by show _=_;simp [iD,hd]
  go_wp2
  have D:=R.out.putC [.int .i64 0,.int .i64 0] rfl
  have K:=aa.putC (b:=w.heap.size+1) (by omega) [.int .i64 0,.int .i64 0] 0 K1.out
  change bodyPost _ _ _ _ _ (putC w1 (w.heap.size+1) 0 [.int .i64 0,.int .i64 0])
  generalize putC w1 (w.heap.size+1) 0 [.int .i64 0,.int .i64 0]=X at D K ⊢
  exact bodyPost_ret (v := .tuple #[sh 0 0,.bool false]) (by simp [results,Tryz.results169,go_sem,D.cells]) rfl ⟨by rw [Hq.out,Hp.out,hd],K⟩
 ·have Hq:Hid (iC t=t.q):=by show _=_;simp [iC,hd]
  have Hp:Hid (iD t=t.p):=by show _=_;simp [iD,hd]
  go_wp2_with fail
  refine (tX t _).mono ?_
  rintro e w2 ⟨rfl,k2⟩
  have R2:Hid (aq w2 (w.heap.size+1) #[.int .i64 0,.int .i64 0]):=R.out.keeps k2
  have K2:Hid (aa w w2):=K1.out.trans k2
  obtain ⟨_,f1,f2⟩:=R2.out
  clear c1 c2 b1 b2 k2
  have g1:∀ w:World,(Instr.field 84 (.agg (fJ t)) 1).run Tryz.prog w = .ok (.agg (t8 t)) w:=fun w=>rfl
  have g2:∀ w:World,(Instr.field 82 (.agg (t8 t)) 0).run Tryz.prog w = .ok (.agg #[.int .i64 t.q,.int .i64 t.p]) w:=fun w=>rfl
  go_wp2
  have D:=R2.out.putC [.int .i64 t.q,.int .i64 t.p] rfl
  have K:=aa.putC (b:=w.heap.size+1) (by omega) [.int .i64 t.q,.int .i64 t.p] 0 K2.out
  change bodyPost _ _ _ _ _ (putC w2 (w.heap.size+1) 0 [.int .i64 t.q,.int .i64 t.p])
  generalize putC w2 (w.heap.size+1) 0 [.int .i64 t.q,.int .i64 t.p]=X at D K ⊢
  exact bodyPost_ret (v := .tuple #[sh t.q t.p,.bool true]) (by simp [results,Tryz.results169,go_sem,D.cells]) rfl ⟨by rw [Hq.out,Hp.out,hd],K⟩
end
theorem Je (s:Sy) (cpu:Int):(fI s cpu).az=s.az /\ (fI s cpu).now=s.now /\ bE (fI s cpu)=bE s+1 /\ s.seq <= (fI s cpu).seq /\ (fI s cpu).seq <= s.seq+1:=by
 unfold fI
 split
 ·refine ⟨rfl,rfl,?_,Int.le_refl _,by show s.seq <= s.seq+1;omega⟩
  simp only [bE,List.length_append,List.length_singleton]
  omega
 ·unfold rj
  refine ⟨rfl,rfl,?_,?_,?_⟩
  ·simp only [bE,List.length_append,List.length_singleton,List.length_set]
   omega
  ·dsimp only;split <;> omega
  ·dsimp only;split <;> omega
theorem pV (s:Sy):∀ k:Nat,(eh s k).az=s.az /\ (eh s k).now=s.now /\ bE (eh s k)=bE s+k /\ s.seq <= (eh s k).seq /\ (eh s k).seq <= s.seq+k
 | 0=>⟨rfl,rfl,rfl,Int.le_refl _,by simp [eh]⟩
 | k+1=>by
  obtain ⟨h1,h2,h3,h4,h5⟩:=pV s k
  obtain ⟨g1,g2,g3,g4,g5⟩:=Je (eh s k) k
  have e:eh s (k+1)=fI (eh s k) k:=rfl
  rw [e]
  exact ⟨g1.trans h1,g2.trans h2,by omega,by omega,by omega⟩
theorem Ao (s:Sy):bE (fi s) <= bE s:=by
 have:=List.length_filter_le (fun g=>decide (s.now < g.eX)) s.af
 simp only [fi,bE,List.length_map]
 omega
theorem Jf (now:Int) (t:ar):(iF now t).cpu=t.cpu:=by
 unfold iF jk
 split
 ·split <;> rfl
 ·rfl
theorem Jg {s:Sy} (h:oz s):oz (fi s):=by
 intro t ht
 simp only [fi,List.mem_map] at ht
 obtain ⟨u,hu,rfl⟩:=ht
 rw [Jf]
 exact h u hu
theorem Ap (s:Sy):bE (eY s)=bE s:=by simp [eY,bE]
theorem Aq (s:Sy):bE (gh s)=bE s:=by simp [gh,bE]
section
attribute [local go_sem] aa.refl aa.alloc aa.drew aa.drewN
theorem ay.nothing (w:World) (lo:Nat):ay w lo Sv.zero [] Sy.zero:=by
 refine ⟨World.ownsRow_nil _ _ _ _,Mine.none _ _ _ _ (World.ownsRow_nil _ _ _ _) (fun b e=>by simp [Value.ownBlock] at e),World.ownsRow_nil _ _ _ _,World.ownsRow_nil _ _ _ _,World.ownsRow_nil _ _ _ _,?_⟩
 intro i j b hi hj
 match i,hi with
 | 0,hi=>simp [aX,Value.ownBlock] at hi
 | 1,hi=>simp [aX,Value.ownBlock] at hi
 | 2,hi=>simp [aX,Value.ownBlock] at hi
 | 3,hi=>simp [aX,Value.ownBlock] at hi
 | 4,hi=>simp [aX,Value.ownBlock] at hi
abbrev lK (c b1 b3:Nat):Sv:=⟨⟨none,0,0⟩,⟨some ⟨b1,0,none⟩,5,5⟩,⟨none,0,0⟩,⟨some ⟨b3,0,none⟩,c,c⟩,⟨none,0,0⟩⟩
theorem uZ {c:Nat} (h:aH (c:Int) 1 4=true):aP c={ Sy.zero with az:=(c:Int),ak:=List.replicate 5 ⟨0,[]⟩,ax:=List.replicate c 0 }:=by
 unfold aP
 rw [h,if_pos rfl,Int.toNat_natCast]
theorem Ar {W:World} {lo c b1 b3:Nat} (h:aH (c:Int) 1 4=true) (L:Mine W lo W.heap.size (.slice (some ⟨b1,0,none⟩) 5 5) (List.replicate 5 Lv.zero) (List.replicate 5 ⟨0,[]⟩)) (F:aS W lo (.slice (some ⟨b3,0,none⟩) c c) (List.replicate c 0)) (hne:b1≠b3) :
  ay W lo (lK c b1 b3) (List.replicate 5 Lv.zero) (aP c):=by
 rw [uZ h]
 refine ⟨World.ownsRow_nil _ _ _ _,L,World.ownsRow_nil _ _ _ _,F,World.ownsRow_nil _ _ _ _,?_⟩
 have key:∀ i b,aX (lK c b1 b3) (List.replicate 5 Lv.zero) i b->(i=1 /\ b=b1)∨(i=3 /\ b=b3):=by
  intro i b hi
  match i,hi with
  | 0,hi=>simp [aX,Value.ownBlock] at hi
  | 1,hi =>
   rcases hi with hi | ⟨x,hx,hi⟩
   ·simp [Value.ownBlock] at hi;exact .inl ⟨rfl,hi.symm⟩
   ·have:=List.eq_of_mem_replicate hx
    subst this
    simp [Value.ownBlock] at hi
  | 2,hi=>simp [aX,Value.ownBlock] at hi
  | 3,hi=>simp [aX,Value.ownBlock] at hi;exact .inr ⟨rfl,hi.symm⟩
  | 4,hi=>simp [aX,Value.ownBlock] at hi
 intro i j b hi hj
 have:=key i b hi
 have:=key j b hj
 omega
theorem As (c:Nat):madeCells #[.int .i64 0] c=madeCells (ic 0) (c*1):=by rw [Nat.mul_one]
set_option maxHeartbeats 4000000 in
theorem BE (az:Int) (w:World) :
  Calls Tryz.prog 97 #[.int .i64 az] w fun e w'=>∃ v vs,e = .returned (.tuple #[.agg (ae (aP az) v),.bool (aH az 1 4)]) /\ ay w' w.heap.size v vs (aP az) /\ aa w w':=by
 cases hc:aH az 1 4
 ·have Hn:Hid (aP az=Sy.zero):=by show _=_;unfold aP;rw [hc];rfl
  go_enter Tryz.func97,Tryz.ntmps97
  go_wp2_with (go_at_call 27;refine (bq _ _ _ _).mono ?_;rintro e w' ⟨rfl,hw'⟩;have hw2:=hw'.symm;subst hw2;rw [hc])
  exact bodyPost_ret (v := .tuple #[.agg (ae Sy.zero Sv.zero),.bool false]) (by simp [results,Tryz.results97,go_sem,Sy.zero]) rfl ⟨Sv.zero,[],by rw [Hn.out],by rw [Hn.out];exact ay.nothing _ _,(aa.refl w).alloc _⟩
 ·obtain ⟨c1,c2⟩:=dq.1 hc
  obtain ⟨c,rfl⟩:∃ c:Nat,az=(c:Int):=⟨az.toNat,by omega⟩
  have hm1:∀ w:World,(Instr.makeSlice 25 (.int .i64 5) (.int .i64 5)).run Tryz.prog w = .ok (.slice (some ⟨w.heap.size,0,none⟩) 5 5) (w.alloc (.cells (madeCells #[.int .i64 0,.slice none 0 0] 10) 37)):=by
   have:=qR (P:=Tryz.prog) 25 37 (.agg #[.int .i64 0,.slice none 0 0]) 2 32 Tryz.underlying25 (by kernel_rfl) 5 (by decide) (by decide)
   simpa [Value.cells] using this
  have hm2:∀ w:World,(Instr.makeSlice 27 (.int .i64 (c:Int)) (.int .i64 (c:Int))).run Tryz.prog w = .ok (.slice (some ⟨w.heap.size,0,none⟩) c c) (w.alloc (.cells (madeCells #[.int .i64 0] c) 3)):=by
   have:=qR (P:=Tryz.prog) 27 3 (.int .i64 0) 1 8 Tryz.underlying27 (by kernel_rfl) c (by omega) (by omega)
   simpa [Value.cells] using this
  go_enter Tryz.func97,Tryz.ntmps97
  go_wp2_with (go_at_call 27;refine (bq _ _ _ _).mono ?_;rintro e w' ⟨rfl,hw'⟩;have hw2:=hw'.symm;subst hw2;rw [hc])
  go_region
  ·have L:Mine ((((w.alloc (.cells #[.int .i64 0,.int .i64 (c:Int),.slice none 0 0,.slice (some ⟨w.heap.size+1,0,none⟩) 5 5,.slice none 0 0,.slice (some ⟨w.heap.size+1+1,0,none⟩) c c,.int .i64 0,.int .i64 0,.slice none 0 0] 30)).alloc (.cells (madeCells #[.int .i64 0,.slice none 0 0] 10) 37)).alloc (.cells (madeCells #[.int .i64 0] c) 3)).drew) w.heap.size ((((w.alloc (.cells #[.int .i64 0,.int .i64 (c:Int),.slice none 0 0,.slice (some ⟨w.heap.size+1,0,none⟩) 5 5,.slice none 0 0,.slice (some ⟨w.heap.size+1+1,0,none⟩) c c,.int .i64 0,.int .i64 0,.slice none 0 0] 30)).alloc (.cells (madeCells #[.int .i64 0,.slice none 0 0] 10) 37)).alloc (.cells (madeCells #[.int .i64 0] c) 3)).drew).heap.size (.slice (some ⟨w.heap.size+1,0,none⟩) 5 5) (List.replicate 5 Lv.zero) (List.replicate 5 ⟨0,[]⟩):=by
    have m:=Mine.zero (w.alloc (.cells #[.int .i64 0,.int .i64 (c:Int),.slice none 0 0,.slice (some ⟨w.heap.size+1,0,none⟩) 5 5,.slice none 0 0,.slice (some ⟨w.heap.size+1+1,0,none⟩) c c,.int .i64 0,.int .i64 0,.slice none 0 0] 30)) 5 (by decide)
    simp only [World.size_alloc] at m
    exact (m.keeps ((aa.refl _).alloc _).drew).widen (by omega) (by simp)
   have F:aS ((((w.alloc (.cells #[.int .i64 0,.int .i64 (c:Int),.slice none 0 0,.slice (some ⟨w.heap.size+1,0,none⟩) 5 5,.slice none 0 0,.slice (some ⟨w.heap.size+1+1,0,none⟩) c c,.int .i64 0,.int .i64 0,.slice none 0 0] 30)).alloc (.cells (madeCells #[.int .i64 0,.slice none 0 0] 10) 37)).alloc (.cells (madeCells #[.int .i64 0] c) 3)).drew) w.heap.size (.slice (some ⟨w.heap.size+1+1,0,none⟩) c c) (List.replicate c 0):=by
    have f:=Own.zeros (e:=3) fq (by decide) (0:Int) ((w.alloc (.cells #[.int .i64 0,.int .i64 (c:Int),.slice none 0 0,.slice (some ⟨w.heap.size+1,0,none⟩) 5 5,.slice none 0 0,.slice (some ⟨w.heap.size+1+1,0,none⟩) c c,.int .i64 0,.int .i64 0,.slice none 0 0] 30)).alloc (.cells (madeCells #[.int .i64 0,.slice none 0 0] 10) 37)) c (by unfold maxLen;omega)
    rw [<- As] at f
    simp only [World.size_alloc] at f
    exact (f.keeps (aa.refl _).drew).base (by omega)
   have D:aq ((((w.alloc (.cells #[.int .i64 0,.int .i64 (c:Int),.slice none 0 0,.slice (some ⟨w.heap.size+1,0,none⟩) 5 5,.slice none 0 0,.slice (some ⟨w.heap.size+1+1,0,none⟩) c c,.int .i64 0,.int .i64 0,.slice none 0 0] 30)).alloc (.cells (madeCells #[.int .i64 0,.slice none 0 0] 10) 37)).alloc (.cells (madeCells #[.int .i64 0] c) 3)).drew) w.heap.size #[.int .i64 0,.int .i64 (c:Int),.slice none 0 0,.slice (some ⟨w.heap.size+1,0,none⟩) 5 5,.slice none 0 0,.slice (some ⟨w.heap.size+1+1,0,none⟩) c c,.int .i64 0,.int .i64 0,.slice none 0 0]:=(((aq.new _ _ _).alloc _).alloc _).keeps (aa.refl _).drew
   have K:aa w ((((w.alloc (.cells #[.int .i64 0,.int .i64 (c:Int),.slice none 0 0,.slice (some ⟨w.heap.size+1,0,none⟩) 5 5,.slice none 0 0,.slice (some ⟨w.heap.size+1+1,0,none⟩) c c,.int .i64 0,.int .i64 0,.slice none 0 0] 30)).alloc (.cells (madeCells #[.int .i64 0,.slice none 0 0] 10) 37)).alloc (.cells (madeCells #[.int .i64 0] c) 3)).drew):=((((aa.refl w).alloc _).alloc _).alloc _).drew
   have S0:=Ar hc L F (by omega)
   have e0:Hid (aP c={ Sy.zero with az:=(c:Int),ak:=List.replicate 5 ⟨0,[]⟩,ax:=List.replicate c 0 }):=uZ hc
   generalize (((w.alloc (.cells #[.int .i64 0,.int .i64 (c:Int),.slice none 0 0,.slice (some ⟨w.heap.size+1,0,none⟩) 5 5,.slice none 0 0,.slice (some ⟨w.heap.size+1+1,0,none⟩) c c,.int .i64 0,.int .i64 0,.slice none 0 0] 30)).alloc (.cells (madeCells #[.int .i64 0,.slice none 0 0] 10) 37)).alloc (.cells (madeCells #[.int .i64 0] c) 3)).drew=Z at *
   go_wp2
   exact bodyPost_ret (v := .tuple #[.agg (ae (aP c) (lK c (w.heap.size+1) (w.heap.size+1+1))),.bool true]) (by rw [e0.out];simp [results,Tryz.results97,go_sem,D.cells,Sy.zero]) rfl ⟨_,rfl,⟨_,S0⟩,K⟩
  ·have L:Mine ((((w.alloc (.cells #[.int .i64 0,.int .i64 (c:Int),.slice none 0 0,.slice (some ⟨w.heap.size+1+1,0,none⟩) 5 5,.slice none 0 0,.slice (some ⟨w.heap.size+1,0,none⟩) c c,.int .i64 0,.int .i64 0,.slice none 0 0] 30)).alloc (.cells (madeCells #[.int .i64 0] c) 3)).alloc (.cells (madeCells #[.int .i64 0,.slice none 0 0] 10) 37)).drew) w.heap.size ((((w.alloc (.cells #[.int .i64 0,.int .i64 (c:Int),.slice none 0 0,.slice (some ⟨w.heap.size+1+1,0,none⟩) 5 5,.slice none 0 0,.slice (some ⟨w.heap.size+1,0,none⟩) c c,.int .i64 0,.int .i64 0,.slice none 0 0] 30)).alloc (.cells (madeCells #[.int .i64 0] c) 3)).alloc (.cells (madeCells #[.int .i64 0,.slice none 0 0] 10) 37)).drew).heap.size (.slice (some ⟨w.heap.size+1+1,0,none⟩) 5 5) (List.replicate 5 Lv.zero) (List.replicate 5 ⟨0,[]⟩):=by
    have m:=Mine.zero ((w.alloc (.cells #[.int .i64 0,.int .i64 (c:Int),.slice none 0 0,.slice (some ⟨w.heap.size+1+1,0,none⟩) 5 5,.slice none 0 0,.slice (some ⟨w.heap.size+1,0,none⟩) c c,.int .i64 0,.int .i64 0,.slice none 0 0] 30)).alloc (.cells (madeCells #[.int .i64 0] c) 3)) 5 (by decide)
    simp only [World.size_alloc] at m
    exact (m.keeps (aa.refl _).drew).widen (by omega) (by simp)
   have F:aS ((((w.alloc (.cells #[.int .i64 0,.int .i64 (c:Int),.slice none 0 0,.slice (some ⟨w.heap.size+1+1,0,none⟩) 5 5,.slice none 0 0,.slice (some ⟨w.heap.size+1,0,none⟩) c c,.int .i64 0,.int .i64 0,.slice none 0 0] 30)).alloc (.cells (madeCells #[.int .i64 0] c) 3)).alloc (.cells (madeCells #[.int .i64 0,.slice none 0 0] 10) 37)).drew) w.heap.size (.slice (some ⟨w.heap.size+1,0,none⟩) c c) (List.replicate c 0):=by
    have f:=Own.zeros (e:=3) fq (by decide) (0:Int) (w.alloc (.cells #[.int .i64 0,.int .i64 (c:Int),.slice none 0 0,.slice (some ⟨w.heap.size+1+1,0,none⟩) 5 5,.slice none 0 0,.slice (some ⟨w.heap.size+1,0,none⟩) c c,.int .i64 0,.int .i64 0,.slice none 0 0] 30)) c (by unfold maxLen;omega)
    rw [<- As] at f
    simp only [World.size_alloc] at f
    exact (f.keeps ((aa.refl _).alloc _).drew).base (by omega)
   have D:aq ((((w.alloc (.cells #[.int .i64 0,.int .i64 (c:Int),.slice none 0 0,.slice (some ⟨w.heap.size+1+1,0,none⟩) 5 5,.slice none 0 0,.slice (some ⟨w.heap.size+1,0,none⟩) c c,.int .i64 0,.int .i64 0,.slice none 0 0] 30)).alloc (.cells (madeCells #[.int .i64 0] c) 3)).alloc (.cells (madeCells #[.int .i64 0,.slice none 0 0] 10) 37)).drew) w.heap.size #[.int .i64 0,.int .i64 (c:Int),.slice none 0 0,.slice (some ⟨w.heap.size+1+1,0,none⟩) 5 5,.slice none 0 0,.slice (some ⟨w.heap.size+1,0,none⟩) c c,.int .i64 0,.int .i64 0,.slice none 0 0]:=(((aq.new _ _ _).alloc _).alloc _).keeps (aa.refl _).drew
   have K:aa w ((((w.alloc (.cells #[.int .i64 0,.int .i64 (c:Int),.slice none 0 0,.slice (some ⟨w.heap.size+1+1,0,none⟩) 5 5,.slice none 0 0,.slice (some ⟨w.heap.size+1,0,none⟩) c c,.int .i64 0,.int .i64 0,.slice none 0 0] 30)).alloc (.cells (madeCells #[.int .i64 0] c) 3)).alloc (.cells (madeCells #[.int .i64 0,.slice none 0 0] 10) 37)).drew):=((((aa.refl w).alloc _).alloc _).alloc _).drew
   have S0:=Ar hc L F (by omega)
   have e0:Hid (aP c={ Sy.zero with az:=(c:Int),ak:=List.replicate 5 ⟨0,[]⟩,ax:=List.replicate c 0 }):=uZ hc
   generalize (((w.alloc (.cells #[.int .i64 0,.int .i64 (c:Int),.slice none 0 0,.slice (some ⟨w.heap.size+1+1,0,none⟩) 5 5,.slice none 0 0,.slice (some ⟨w.heap.size+1,0,none⟩) c c,.int .i64 0,.int .i64 0,.slice none 0 0] 30)).alloc (.cells (madeCells #[.int .i64 0] c) 3)).alloc (.cells (madeCells #[.int .i64 0,.slice none 0 0] 10) 37)).drew=Z at *
   go_wp2
   exact bodyPost_ret (v := .tuple #[.agg (ae (aP c) (lK c (w.heap.size+1+1) (w.heap.size+1))),.bool true]) (by rw [e0.out];simp [results,Tryz.results97,go_sem,D.cells,Sy.zero]) rfl ⟨_,rfl,⟨_,S0⟩,K⟩
end
end Go.Proofs.YteagpjlgjfaclaaGreatDoor
