/-
  The system: a new one.
-/
import Derived.Test.YteagpjlgjfaclaaGreatDoorSysLaws
import Derived.RegionTactic
import Derived.BigRegion
namespace Go.Proofs.YteagpjlgjfaclaaGreatDoor
set_option maxRecDepth 100000
open Go.RowKit
attribute [local go_sem] Keeps.refl Keeps.alloc Keeps.drew Keeps.drewN
theorem OwnS.nothing (w:World) (lo:Nat):OwnS w lo Sv.zero [] Sy.zero:=by
 refine ⟨World.ownsRow_nil _ _ _ _,Mine.none _ _ _ _ (World.ownsRow_nil _ _ _ _) (fun b e=>by simp [Value.ownBlock] at e),World.ownsRow_nil _ _ _ _,World.ownsRow_nil _ _ _ _,World.ownsRow_nil _ _ _ _,?_⟩
 intro i j b hi hj
 match i,hi with
 | 0,hi=>simp [qaf,Value.ownBlock] at hi
 | 1,hi=>simp [qaf,Value.ownBlock] at hi
 | 2,hi=>simp [qaf,Value.ownBlock] at hi
 | 3,hi=>simp [qaf,Value.ownBlock] at hi
 | 4,hi=>simp [qaf,Value.ownBlock] at hi
abbrev newV (c b1 b3:Nat):Sv:=⟨⟨none,0,0⟩,⟨some ⟨b1,0,none⟩,5,5⟩,⟨none,0,0⟩,⟨some ⟨b3,0,none⟩,c,c⟩,⟨none,0,0⟩⟩
theorem qfC {c:Nat} (h:inB (c:Int) 1 4=true):newS c={ Sy.zero with cpus:=(c:Int),locks:=List.replicate 5 ⟨0,[]⟩,floors:=List.replicate c 0 }:=by
 unfold newS
 rw [h,if_pos rfl,Int.toNat_natCast]
theorem qhB {W:World} {lo c b1 b3:Nat} (h:inB (c:Int) 1 4=true) (L:Mine W lo W.heap.size (.slice (some ⟨b1,0,none⟩) 5 5) (List.replicate 5 Lv.zero) (List.replicate 5 ⟨0,[]⟩)) (F:OwnN W lo (.slice (some ⟨b3,0,none⟩) c c) (List.replicate c 0)) (hne:b1≠b3) :
  OwnS W lo (newV c b1 b3) (List.replicate 5 Lv.zero) (newS c):=by
 rw [qfC h]
 refine ⟨World.ownsRow_nil _ _ _ _,L,World.ownsRow_nil _ _ _ _,F,World.ownsRow_nil _ _ _ _,?_⟩
 have key:∀ i b,qaf (newV c b1 b3) (List.replicate 5 Lv.zero) i b->(i=1 /\ b=b1)∨(i=3 /\ b=b3):=by
  intro i b hi
  match i,hi with
  | 0,hi=>simp [qaf,Value.ownBlock] at hi
  | 1,hi =>
   rcases hi with hi | ⟨x,hx,hi⟩
   ·simp [Value.ownBlock] at hi;exact .inl ⟨rfl,hi.symm⟩
   ·have:=List.eq_of_mem_replicate hx
    subst this
    simp [Value.ownBlock] at hi
  | 2,hi=>simp [qaf,Value.ownBlock] at hi
  | 3,hi=>simp [qaf,Value.ownBlock] at hi;exact .inr ⟨rfl,hi.symm⟩
  | 4,hi=>simp [qaf,Value.ownBlock] at hi
 intro i j b hi hj
 have:=key i b hi
 have:=key j b hj
 omega
theorem qhC (c:Nat):madeCells #[.int .i64 0] c=madeCells (ic 0) (c*1):=by rw [Nat.mul_one]
set_option maxHeartbeats 4000000 in
theorem qmd (cpus:Int) (w:World) :
  Calls Tryz.prog 97 #[.int .i64 cpus] w fun e w'=>∃ v vs,e = .returned (.tuple #[.agg (syc (newS cpus) v),.bool (inB cpus 1 4)]) /\ OwnS w' w.heap.size v vs (newS cpus) /\ Keeps w w':=by
 cases hc:inB cpus 1 4
 ·have Hn:Hid (newS cpus=Sy.zero):=by show _=_;unfold newS;rw [hc];rfl
  go_enter Tryz.func97,Tryz.ntmps97
  go_wp2_with (go_at_call 27;refine (qag _ _ _ _).mono ?_;rintro e w' ⟨rfl,hw'⟩;have hw2:=hw'.symm;subst hw2;rw [hc])
  exact bodyPost_ret (v := .tuple #[.agg (syc Sy.zero Sv.zero),.bool false]) (by simp [results,Tryz.results97,go_sem,Sy.zero]) rfl ⟨Sv.zero,[],by rw [Hn.out],by rw [Hn.out];exact OwnS.nothing _ _,(Keeps.refl w).alloc _⟩
 ·obtain ⟨c1,c2⟩:=qas.1 hc
  obtain ⟨c,rfl⟩:∃ c:Nat,cpus=(c:Int):=⟨cpus.toNat,by omega⟩
  have hm1:∀ w:World,(Instr.makeSlice 25 (.int .i64 5) (.int .i64 5)).run Tryz.prog w = .ok (.slice (some ⟨w.heap.size,0,none⟩) 5 5) (w.alloc (.cells (madeCells #[.int .i64 0,.slice none 0 0] 10) 37)):=by
   have:=qeE (P:=Tryz.prog) 25 37 (.agg #[.int .i64 0,.slice none 0 0]) 2 32 Tryz.underlying25 (by kernel_rfl) 5 (by decide) (by decide)
   simpa [Value.cells] using this
  have hm2:∀ w:World,(Instr.makeSlice 27 (.int .i64 (c:Int)) (.int .i64 (c:Int))).run Tryz.prog w = .ok (.slice (some ⟨w.heap.size,0,none⟩) c c) (w.alloc (.cells (madeCells #[.int .i64 0] c) 3)):=by
   have:=qeE (P:=Tryz.prog) 27 3 (.int .i64 0) 1 8 Tryz.underlying27 (by kernel_rfl) c (by omega) (by omega)
   simpa [Value.cells] using this
  go_enter Tryz.func97,Tryz.ntmps97
  go_wp2_with (go_at_call 27;refine (qag _ _ _ _).mono ?_;rintro e w' ⟨rfl,hw'⟩;have hw2:=hw'.symm;subst hw2;rw [hc])
  go_region
  ·have L:Mine ((((w.alloc (.cells #[.int .i64 0,.int .i64 (c:Int),.slice none 0 0,.slice (some ⟨w.heap.size+1,0,none⟩) 5 5,.slice none 0 0,.slice (some ⟨w.heap.size+1+1,0,none⟩) c c,.int .i64 0,.int .i64 0,.slice none 0 0] 30)).alloc (.cells (madeCells #[.int .i64 0,.slice none 0 0] 10) 37)).alloc (.cells (madeCells #[.int .i64 0] c) 3)).drew) w.heap.size ((((w.alloc (.cells #[.int .i64 0,.int .i64 (c:Int),.slice none 0 0,.slice (some ⟨w.heap.size+1,0,none⟩) 5 5,.slice none 0 0,.slice (some ⟨w.heap.size+1+1,0,none⟩) c c,.int .i64 0,.int .i64 0,.slice none 0 0] 30)).alloc (.cells (madeCells #[.int .i64 0,.slice none 0 0] 10) 37)).alloc (.cells (madeCells #[.int .i64 0] c) 3)).drew).heap.size (.slice (some ⟨w.heap.size+1,0,none⟩) 5 5) (List.replicate 5 Lv.zero) (List.replicate 5 ⟨0,[]⟩):=by
    have m:=Mine.zero (w.alloc (.cells #[.int .i64 0,.int .i64 (c:Int),.slice none 0 0,.slice (some ⟨w.heap.size+1,0,none⟩) 5 5,.slice none 0 0,.slice (some ⟨w.heap.size+1+1,0,none⟩) c c,.int .i64 0,.int .i64 0,.slice none 0 0] 30)) 5 (by decide)
    simp only [World.size_alloc] at m
    exact (m.keeps ((Keeps.refl _).alloc _).drew).widen (by omega) (by simp)
   have F:OwnN ((((w.alloc (.cells #[.int .i64 0,.int .i64 (c:Int),.slice none 0 0,.slice (some ⟨w.heap.size+1,0,none⟩) 5 5,.slice none 0 0,.slice (some ⟨w.heap.size+1+1,0,none⟩) c c,.int .i64 0,.int .i64 0,.slice none 0 0] 30)).alloc (.cells (madeCells #[.int .i64 0,.slice none 0 0] 10) 37)).alloc (.cells (madeCells #[.int .i64 0] c) 3)).drew) w.heap.size (.slice (some ⟨w.heap.size+1+1,0,none⟩) c c) (List.replicate c 0):=by
    have f:=Own.zeros (e:=3) qaW (by decide) (0:Int) ((w.alloc (.cells #[.int .i64 0,.int .i64 (c:Int),.slice none 0 0,.slice (some ⟨w.heap.size+1,0,none⟩) 5 5,.slice none 0 0,.slice (some ⟨w.heap.size+1+1,0,none⟩) c c,.int .i64 0,.int .i64 0,.slice none 0 0] 30)).alloc (.cells (madeCells #[.int .i64 0,.slice none 0 0] 10) 37)) c (by unfold maxLen;omega)
    rw [<- qhC] at f
    simp only [World.size_alloc] at f
    exact (f.keeps (Keeps.refl _).drew).base (by omega)
   have D:Blk ((((w.alloc (.cells #[.int .i64 0,.int .i64 (c:Int),.slice none 0 0,.slice (some ⟨w.heap.size+1,0,none⟩) 5 5,.slice none 0 0,.slice (some ⟨w.heap.size+1+1,0,none⟩) c c,.int .i64 0,.int .i64 0,.slice none 0 0] 30)).alloc (.cells (madeCells #[.int .i64 0,.slice none 0 0] 10) 37)).alloc (.cells (madeCells #[.int .i64 0] c) 3)).drew) w.heap.size #[.int .i64 0,.int .i64 (c:Int),.slice none 0 0,.slice (some ⟨w.heap.size+1,0,none⟩) 5 5,.slice none 0 0,.slice (some ⟨w.heap.size+1+1,0,none⟩) c c,.int .i64 0,.int .i64 0,.slice none 0 0]:=(((Blk.new _ _ _).alloc _).alloc _).keeps (Keeps.refl _).drew
   have K:Keeps w ((((w.alloc (.cells #[.int .i64 0,.int .i64 (c:Int),.slice none 0 0,.slice (some ⟨w.heap.size+1,0,none⟩) 5 5,.slice none 0 0,.slice (some ⟨w.heap.size+1+1,0,none⟩) c c,.int .i64 0,.int .i64 0,.slice none 0 0] 30)).alloc (.cells (madeCells #[.int .i64 0,.slice none 0 0] 10) 37)).alloc (.cells (madeCells #[.int .i64 0] c) 3)).drew):=((((Keeps.refl w).alloc _).alloc _).alloc _).drew
   have S0:=qhB hc L F (by omega)
   have e0:Hid (newS c={ Sy.zero with cpus:=(c:Int),locks:=List.replicate 5 ⟨0,[]⟩,floors:=List.replicate c 0 }):=qfC hc
   generalize (((w.alloc (.cells #[.int .i64 0,.int .i64 (c:Int),.slice none 0 0,.slice (some ⟨w.heap.size+1,0,none⟩) 5 5,.slice none 0 0,.slice (some ⟨w.heap.size+1+1,0,none⟩) c c,.int .i64 0,.int .i64 0,.slice none 0 0] 30)).alloc (.cells (madeCells #[.int .i64 0,.slice none 0 0] 10) 37)).alloc (.cells (madeCells #[.int .i64 0] c) 3)).drew=Z at *
   go_wp2
   exact bodyPost_ret (v := .tuple #[.agg (syc (newS c) (newV c (w.heap.size+1) (w.heap.size+1+1))),.bool true]) (by rw [e0.out];simp [results,Tryz.results97,go_sem,D.cells,Sy.zero]) rfl ⟨_,rfl,⟨_,S0⟩,K⟩
  ·have L:Mine ((((w.alloc (.cells #[.int .i64 0,.int .i64 (c:Int),.slice none 0 0,.slice (some ⟨w.heap.size+1+1,0,none⟩) 5 5,.slice none 0 0,.slice (some ⟨w.heap.size+1,0,none⟩) c c,.int .i64 0,.int .i64 0,.slice none 0 0] 30)).alloc (.cells (madeCells #[.int .i64 0] c) 3)).alloc (.cells (madeCells #[.int .i64 0,.slice none 0 0] 10) 37)).drew) w.heap.size ((((w.alloc (.cells #[.int .i64 0,.int .i64 (c:Int),.slice none 0 0,.slice (some ⟨w.heap.size+1+1,0,none⟩) 5 5,.slice none 0 0,.slice (some ⟨w.heap.size+1,0,none⟩) c c,.int .i64 0,.int .i64 0,.slice none 0 0] 30)).alloc (.cells (madeCells #[.int .i64 0] c) 3)).alloc (.cells (madeCells #[.int .i64 0,.slice none 0 0] 10) 37)).drew).heap.size (.slice (some ⟨w.heap.size+1+1,0,none⟩) 5 5) (List.replicate 5 Lv.zero) (List.replicate 5 ⟨0,[]⟩):=by
    have m:=Mine.zero ((w.alloc (.cells #[.int .i64 0,.int .i64 (c:Int),.slice none 0 0,.slice (some ⟨w.heap.size+1+1,0,none⟩) 5 5,.slice none 0 0,.slice (some ⟨w.heap.size+1,0,none⟩) c c,.int .i64 0,.int .i64 0,.slice none 0 0] 30)).alloc (.cells (madeCells #[.int .i64 0] c) 3)) 5 (by decide)
    simp only [World.size_alloc] at m
    exact (m.keeps (Keeps.refl _).drew).widen (by omega) (by simp)
   have F:OwnN ((((w.alloc (.cells #[.int .i64 0,.int .i64 (c:Int),.slice none 0 0,.slice (some ⟨w.heap.size+1+1,0,none⟩) 5 5,.slice none 0 0,.slice (some ⟨w.heap.size+1,0,none⟩) c c,.int .i64 0,.int .i64 0,.slice none 0 0] 30)).alloc (.cells (madeCells #[.int .i64 0] c) 3)).alloc (.cells (madeCells #[.int .i64 0,.slice none 0 0] 10) 37)).drew) w.heap.size (.slice (some ⟨w.heap.size+1,0,none⟩) c c) (List.replicate c 0):=by
    have f:=Own.zeros (e:=3) qaW (by decide) (0:Int) (w.alloc (.cells #[.int .i64 0,.int .i64 (c:Int),.slice none 0 0,.slice (some ⟨w.heap.size+1+1,0,none⟩) 5 5,.slice none 0 0,.slice (some ⟨w.heap.size+1,0,none⟩) c c,.int .i64 0,.int .i64 0,.slice none 0 0] 30)) c (by unfold maxLen;omega)
    rw [<- qhC] at f
    simp only [World.size_alloc] at f
    exact (f.keeps ((Keeps.refl _).alloc _).drew).base (by omega)
   have D:Blk ((((w.alloc (.cells #[.int .i64 0,.int .i64 (c:Int),.slice none 0 0,.slice (some ⟨w.heap.size+1+1,0,none⟩) 5 5,.slice none 0 0,.slice (some ⟨w.heap.size+1,0,none⟩) c c,.int .i64 0,.int .i64 0,.slice none 0 0] 30)).alloc (.cells (madeCells #[.int .i64 0] c) 3)).alloc (.cells (madeCells #[.int .i64 0,.slice none 0 0] 10) 37)).drew) w.heap.size #[.int .i64 0,.int .i64 (c:Int),.slice none 0 0,.slice (some ⟨w.heap.size+1+1,0,none⟩) 5 5,.slice none 0 0,.slice (some ⟨w.heap.size+1,0,none⟩) c c,.int .i64 0,.int .i64 0,.slice none 0 0]:=(((Blk.new _ _ _).alloc _).alloc _).keeps (Keeps.refl _).drew
   have K:Keeps w ((((w.alloc (.cells #[.int .i64 0,.int .i64 (c:Int),.slice none 0 0,.slice (some ⟨w.heap.size+1+1,0,none⟩) 5 5,.slice none 0 0,.slice (some ⟨w.heap.size+1,0,none⟩) c c,.int .i64 0,.int .i64 0,.slice none 0 0] 30)).alloc (.cells (madeCells #[.int .i64 0] c) 3)).alloc (.cells (madeCells #[.int .i64 0,.slice none 0 0] 10) 37)).drew):=((((Keeps.refl w).alloc _).alloc _).alloc _).drew
   have S0:=qhB hc L F (by omega)
   have e0:Hid (newS c={ Sy.zero with cpus:=(c:Int),locks:=List.replicate 5 ⟨0,[]⟩,floors:=List.replicate c 0 }):=qfC hc
   generalize (((w.alloc (.cells #[.int .i64 0,.int .i64 (c:Int),.slice none 0 0,.slice (some ⟨w.heap.size+1+1,0,none⟩) 5 5,.slice none 0 0,.slice (some ⟨w.heap.size+1,0,none⟩) c c,.int .i64 0,.int .i64 0,.slice none 0 0] 30)).alloc (.cells (madeCells #[.int .i64 0] c) 3)).alloc (.cells (madeCells #[.int .i64 0,.slice none 0 0] 10) 37)).drew=Z at *
   go_wp2
   exact bodyPost_ret (v := .tuple #[.agg (syc (newS c) (newV c (w.heap.size+1+1) (w.heap.size+1))),.bool true]) (by rw [e0.out];simp [results,Tryz.results97,go_sem,D.cells,Sy.zero]) rfl ⟨_,rfl,⟨_,S0⟩,K⟩
end Go.Proofs.YteagpjlgjfaclaaGreatDoor
