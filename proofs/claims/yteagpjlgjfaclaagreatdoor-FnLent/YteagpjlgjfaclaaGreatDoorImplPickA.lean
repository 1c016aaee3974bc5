/-
  The program's tasks behind an interface: each class's own t
  The program's picking: who is before whom, whom one comes t
-/
import Derived.Test.YteagpjlgjfaclaaGreatDoorImplTaskOk
import Derived.Test.YteagpjlgjfaclaaGreatDoorDueHeap2
import Derived.Test.YteagpjlgjfaclaaGreatDoorCallSpoil
import Derived.Test.YteagpjlgjfaclaaGreatDoorImplSysS
import Derived.Test.YteagpjlgjfaclaaGreatDoorPickPure
import Derived.Deep.RegionHeld3
import Derived.Test.YteagpjlgjfaclaaGreatDoorLaidErrs
import Derived.Test.YteagpjlgjfaclaaGreatDoorFixHeap2
import Derived.Test.YteagpjlgjfaclaaGreatDoorCallMove
import Derived.Test.YteagpjlgjfaclaaGreatDoorLoneLeaves
namespace Go.Proofs.YteagpjlgjfaclaaGreatDoor
set_option maxRecDepth 100000
open Go.RowKit
attribute [local go_sem] aa.refl aa.alloc aa.drew aa.drewN
abbrev dI (t:ag):Value := .iface 84 (.agg (bg t))
abbrev fI (t:ag):Value := .iface 171 (.agg (aT t))
abbrev rI (t:ag):Value := .iface 176 (.agg (aV t))
theorem A9 {t:ag} (h:aY t=true) (c:(t.cls==1)=true):t.cm=t:=by
 rw [Ba t c,Bool.and_eq_true] at h
 exact pX.1 h.2
theorem Bb {t:ag} (h:aY t=true) (c:(t.cls==2)=true):t.cj=t:=by
 rw [Bc t c,Bool.and_eq_true] at h
 exact pX.1 h.2
theorem Bd {t:ag} (h:aY t=true) (c:(t.cls==3)=true):t.bk=t:=by
 rw [Be t c,Bool.and_eq_true] at h
 exact pX.1 h.2
theorem JQ (x:Value) (w:World):(Instr.typeAssert (.iface 84 x) 141 84 true).run Tryz.prog w = .ok (.tuple #[x,.bool true]) w:=by kernel_rfl
theorem JR (x:Value) (w:World):(Instr.typeAssert (.iface 84 x) 141 171 true).run Tryz.prog w = .ok (.tuple #[.agg (aT ag.zero),.bool false]) w:=by kernel_rfl
theorem JS (x:Value) (w:World):(Instr.typeAssert (.iface 84 x) 141 176 true).run Tryz.prog w = .ok (.tuple #[.agg (aV ag.zero),.bool false]) w:=by kernel_rfl
theorem JT (x:Value) (w:World):(Instr.typeAssert (.iface 171 x) 141 84 true).run Tryz.prog w = .ok (.tuple #[.agg (bg ag.zero),.bool false]) w:=by kernel_rfl
theorem JU (x:Value) (w:World):(Instr.typeAssert (.iface 171 x) 141 171 true).run Tryz.prog w = .ok (.tuple #[x,.bool true]) w:=by kernel_rfl
theorem JV (x:Value) (w:World):(Instr.typeAssert (.iface 171 x) 141 176 true).run Tryz.prog w = .ok (.tuple #[.agg (aV ag.zero),.bool false]) w:=by kernel_rfl
theorem JW (x:Value) (w:World):(Instr.typeAssert (.iface 176 x) 141 84 true).run Tryz.prog w = .ok (.tuple #[.agg (bg ag.zero),.bool false]) w:=by kernel_rfl
theorem JX (x:Value) (w:World):(Instr.typeAssert (.iface 176 x) 141 171 true).run Tryz.prog w = .ok (.tuple #[.agg (aT ag.zero),.bool false]) w:=by kernel_rfl
theorem JY (x:Value) (w:World):(Instr.typeAssert (.iface 176 x) 141 176 true).run Tryz.prog w = .ok (.tuple #[x,.bool true]) w:=by kernel_rfl
theorem JZ (x:ag):∀ (n:Nat) (w:World),0 < n->(method n 84 (.agg (bg x)) "loop.example/g00185/impl.isBeforeInClass").run Tryz.prog w = .ok (302,.agg (bg x)) w
 | 0,_,h=>absurd h (Nat.lt_irrefl 0)
 | _+1,_,_=>by kernel_rfl
theorem J4 (x:ag):∀ (n:Nat) (w:World),0 < n->(nilAhead n 84 (.agg (bg x)) "loop.example/g00185/impl.isBeforeInClass").run Tryz.prog w = .ok (some false) w
 | 0,_,h=>absurd h (Nat.lt_irrefl 0)
 | _+1,_,_=>by kernel_rfl
theorem Bf (x:ag):∀ (n:Nat) (w:World),0 < n->(method n 171 (.agg (aT x)) "loop.example/g00185/impl.isBeforeInClass").run Tryz.prog w = .ok (322,.agg (aT x)) w
 | 0,_,h=>absurd h (Nat.lt_irrefl 0)
 | _+1,_,_=>by kernel_rfl
theorem Bg (x:ag):∀ (n:Nat) (w:World),0 < n->(nilAhead n 171 (.agg (aT x)) "loop.example/g00185/impl.isBeforeInClass").run Tryz.prog w = .ok (some false) w
 | 0,_,h=>absurd h (Nat.lt_irrefl 0)
 | _+1,_,_=>by kernel_rfl
theorem vQ (x:ag):∀ (n:Nat) (w:World),0 < n->(method n 176 (.agg (aV x)) "loop.example/g00185/impl.isBeforeInClass").run Tryz.prog w = .ok (329,.agg (aV x)) w
 | 0,_,h=>absurd h (Nat.lt_irrefl 0)
 | _+1,_,_=>by kernel_rfl
theorem vR (x:ag):∀ (n:Nat) (w:World),0 < n->(nilAhead n 176 (.agg (aV x)) "loop.example/g00185/impl.isBeforeInClass").run Tryz.prog w = .ok (some false) w
 | 0,_,h=>absurd h (Nat.lt_irrefl 0)
 | _+1,_,_=>by kernel_rfl
attribute [local go_sem high] JQ JR JS JT JU JV JW JX JY
theorem J5 (t:ag) (w:World) (c1:(t.cls==1)=true) :
  Calls Tryz.prog 92 #[tk t] w fun e w'=>e = .returned (dI t) /\ aa w w':=by
 have kW:=cZ w (.cells (tc t) 43)
 go_enter Tryz.func92,Tryz.ntmps92
 go_wp2_with (go_at_call 43;refine (pO t _).mono ?_;rintro e w1 ⟨rfl,k1⟩)
 go_ret
 exact ⟨rfl,kW.trans k1⟩
theorem J6 (t:ag) (w:World) (c1:(t.cls==1)=false) (c2:(t.cls==2)=true) :
  Calls Tryz.prog 92 #[tk t] w fun e w'=>e = .returned (fI t) /\ aa w w':=by
 have kW:=cZ w (.cells (tc t) 43)
 go_enter Tryz.func92,Tryz.ntmps92
 go_wp2_with (go_at_call 116;refine (qS t _).mono ?_;rintro e w1 ⟨rfl,k1⟩)
 go_ret
 exact ⟨rfl,kW.trans k1⟩
theorem J7 (t:ag) (w:World) (c1:(t.cls==1)=false) (c2:(t.cls==2)=false) :
  Calls Tryz.prog 92 #[tk t] w fun e w'=>e = .returned (rI t) /\ aa w w':=by
 have kW:=cZ w (.cells (tc t) 43)
 go_enter Tryz.func92,Tryz.ntmps92
 go_wp2_with (go_at_call 119;refine (tw t _).mono ?_;rintro e w1 ⟨rfl,k1⟩)
 go_ret
 exact ⟨rfl,kW.trans k1⟩
theorem pY (x:Value) (w:World) :
  Calls Tryz.prog 154 #[.iface 84 x] w fun e w'=>e = .returned (.int .i64 1) /\ w'=w:=by
 go_enter Tryz.func154,Tryz.ntmps154
 go_wp2
 go_ret
 exact ⟨rfl,rfl⟩
theorem pZ (x:Value) (w:World) :
  Calls Tryz.prog 154 #[.iface 171 x] w fun e w'=>e = .returned (.int .i64 2) /\ w'=w:=by
 go_enter Tryz.func154,Tryz.ntmps154
 go_wp2
 go_ret
 exact ⟨rfl,rfl⟩
theorem p3 (x:Value) (w:World) :
  Calls Tryz.prog 154 #[.iface 176 x] w fun e w'=>e = .returned (.int .i64 3) /\ w'=w:=by
 go_enter Tryz.func154,Tryz.ntmps154
 go_wp2
 go_ret
 exact ⟨rfl,rfl⟩
set_option maxHeartbeats 1000000 in
theorem J8 (t u:ag) (w:World) :
  Calls Tryz.prog 302 #[.agg (bg t),dI u] w fun e w'=>e = .returned (.bool (fQ t.cm u.cm)) /\ aa w w':=by
 go_enter Tryz.func302,Tryz.ntmps302
 go_wp2_with fail
 have K0:aa w ((w.alloc (.cells (bg t) 84)).alloc (.cells (bg u) 84)):=((aa.refl w).alloc _).alloc _
 have r1:∀ w',aa ((w.alloc (.cells (bg t) 84)).alloc (.cells (bg u) 84)) w'->∀ k,w'.cell? ⟨w.heap.size,k,none⟩=(bg t)[k]?:=fun w' h=>(((ai.new w (bg t) 84).alloc _).keeps h).cells
 have r2:∀ w',aa ((w.alloc (.cells (bg t) 84)).alloc (.cells (bg u) 84)) w'->∀ k,w'.cell? ⟨w.heap.size+1,k,none⟩=(bg u)[k]?:=fun w' h=>by
  have:=(ai.new (w.alloc (.cells (bg t) 84)) (bg u) 84).keeps h
  simp only [World.size_alloc] at this
  exact this.cells
 generalize (w.alloc (.cells (bg t) 84)).alloc (.cells (bg u) 84)=W at *
 refine wp_region_held_drew (S:=(fun w'=>aa W w')) (by kernel_rfl) ?_ (fun hHeld => ?_)
 ·exact (aa.refl W).drew
 refine ad.go [0,1,2,4] ?_
 iterate 4 (refine aJ (h := ?_);try simp only [ar])
 refine ad.nil ?_
 refine aO 3 (h:=fun K hK => ?_)
 go_simp
 first
  | (go_at_call 303;refine (vv _ _ _).mono ?_;rintro e w1 ⟨rfl,k1⟩)
  | (go_at_call 115;refine (mJ _ _).mono ?_;rintro e w1 ⟨rfl,k1⟩)
 try go_wp2_with fail
 refine hK.out _ _ ?_ fun hHeld => ?_
 ·exact aa.trans (by assumption) (by assumption)
 clear hK K
 try simp only [ar]
 refine aO 5 (h:=fun K hK => ?_)
 go_simp
 first
  | (go_at_call 303;refine (vv _ _ _).mono ?_;rintro e w1 ⟨rfl,k1⟩)
  | (go_at_call 115;refine (mJ _ _).mono ?_;rintro e w1 ⟨rfl,k1⟩)
 try go_wp2_with fail
 refine hK.out _ _ ?_ fun hHeld => ?_
 ·exact aa.trans (by assumption) (by assumption)
 clear hK K
 try simp only [ar]
 refine aO 6 (h:=fun K hK => ?_)
 go_simp
 first
  | (go_at_call 303;refine (vv _ _ _).mono ?_;rintro e w1 ⟨rfl,k1⟩)
  | (go_at_call 115;refine (mJ _ _).mono ?_;rintro e w1 ⟨rfl,k1⟩)
 try go_wp2_with fail
 refine hK.out _ _ ?_ fun hHeld => ?_
 ·exact aa.trans (by assumption) (by assumption)
 clear hK K
 try simp only [ar]
 refine ad.go [7,8] ?_
 iterate 2 (refine aJ (h := ?_);try simp only [ar])
 refine ad.nil ?_
 refine wpAnyH_done (by kernel_rfl) ?_ _
 have K1:aa W w1:=by assumption
 go_wp2
 go_ret
 exact ⟨rfl,K0.trans K1⟩
theorem J9 (t u:ag) (w:World) :
  Calls Tryz.prog 322 #[.agg (aT t),dI u] w fun e w'=>e = .returned (.bool false) /\ aa w w':=by
 go_enter Tryz.func322,Tryz.ntmps322
 go_wp2_with fail
 have K0:aa w ((w.alloc (.cells (aT t) 171)).alloc (.cells (aT ag.zero) 171)):=((aa.refl w).alloc _).alloc _
 generalize (w.alloc (.cells (aT t) 171)).alloc (.cells (aT ag.zero) 171)=W at *
 refine wp_region_held_drew (S:=(fun w'=>aa W w')) (by kernel_rfl) ?_ (fun hHeld => ?_)
 ·exact (aa.refl W).drew
 refine ad.go [0,1] ?_
 iterate 2 (refine aJ (h := ?_);try simp only [ar])
 refine ad.nil ?_
 refine ad.go [2,3,4,5,6] ?_
 iterate 5 (refine dB (h := ?_);try simp only [ar])
 refine ad.nil ?_
 refine ad.go [7,8] ?_
 iterate 2 (refine aJ (h := ?_);try simp only [ar])
 refine ad.nil ?_
 refine wpAnyH_done (by kernel_rfl) ?_ _
 go_wp2
 go_ret
 exact ⟨rfl,K0.trans (by assumption)⟩
set_option maxHeartbeats 1000000 in
theorem Ka (t u:ag) (w:World) :
  Calls Tryz.prog 322 #[.agg (aT t),fI u] w fun e w'=>e = .returned (.bool (fE t.cj u.cj)) /\ aa w w':=by
 go_enter Tryz.func322,Tryz.ntmps322
 go_wp2_with fail
 have K0:aa w ((w.alloc (.cells (aT t) 171)).alloc (.cells (aT u) 171)):=((aa.refl w).alloc _).alloc _
 have r1:∀ w',aa ((w.alloc (.cells (aT t) 171)).alloc (.cells (aT u) 171)) w'->∀ k,w'.cell? ⟨w.heap.size,k,none⟩=(aT t)[k]?:=fun w' h=>(((ai.new w (aT t) 171).alloc _).keeps h).cells
 have r2:∀ w',aa ((w.alloc (.cells (aT t) 171)).alloc (.cells (aT u) 171)) w'->∀ k,w'.cell? ⟨w.heap.size+1,k,none⟩=(aT u)[k]?:=fun w' h=>by
  have:=(ai.new (w.alloc (.cells (aT t) 171)) (aT u) 171).keeps h
  simp only [World.size_alloc] at this
  exact this.cells
 generalize (w.alloc (.cells (aT t) 171)).alloc (.cells (aT u) 171)=W at *
 refine wp_region_held_drew (S:=(fun w'=>aa W w')) (by kernel_rfl) ?_ (fun hHeld => ?_)
 ·exact (aa.refl W).drew
 refine ad.go [0,1,2,4] ?_
 iterate 4 (refine aJ (h := ?_);try simp only [ar])
 refine ad.nil ?_
 refine aO 3 (h:=fun K hK => ?_)
 go_simp
 first
  | (go_at_call 323;refine (vb _ _ _).mono ?_;rintro e w1 ⟨rfl,k1⟩)
  | (go_at_call 118;refine (mL _ _).mono ?_;rintro e w1 ⟨rfl,k1⟩)
 try go_wp2_with fail
 refine hK.out _ _ ?_ fun hHeld => ?_
 ·exact aa.trans (by assumption) (by assumption)
 clear hK K
 try simp only [ar]
 refine aO 5 (h:=fun K hK => ?_)
 go_simp
 first
  | (go_at_call 323;refine (vb _ _ _).mono ?_;rintro e w1 ⟨rfl,k1⟩)
  | (go_at_call 118;refine (mL _ _).mono ?_;rintro e w1 ⟨rfl,k1⟩)
 try go_wp2_with fail
 refine hK.out _ _ ?_ fun hHeld => ?_
 ·exact aa.trans (by assumption) (by assumption)
 clear hK K
 try simp only [ar]
 refine aO 6 (h:=fun K hK => ?_)
 go_simp
 first
  | (go_at_call 323;refine (vb _ _ _).mono ?_;rintro e w1 ⟨rfl,k1⟩)
  | (go_at_call 118;refine (mL _ _).mono ?_;rintro e w1 ⟨rfl,k1⟩)
 try go_wp2_with fail
 refine hK.out _ _ ?_ fun hHeld => ?_
 ·exact aa.trans (by assumption) (by assumption)
 clear hK K
 try simp only [ar]
 refine ad.go [7,8] ?_
 iterate 2 (refine aJ (h := ?_);try simp only [ar])
 refine ad.nil ?_
 refine wpAnyH_done (by kernel_rfl) ?_ _
 have K1:aa W w1:=by assumption
 go_wp2
 go_ret
 exact ⟨rfl,K0.trans K1⟩
theorem Kb (t u:ag) (w:World) :
  Calls Tryz.prog 329 #[.agg (aV t),dI u] w fun e w'=>e = .returned (.bool false) /\ aa w w':=by
 go_enter Tryz.func329,Tryz.ntmps329
 go_wp2_with fail
 have K0:aa w ((w.alloc (.cells (aV t) 176)).alloc (.cells (aV ag.zero) 176)):=((aa.refl w).alloc _).alloc _
 generalize (w.alloc (.cells (aV t) 176)).alloc (.cells (aV ag.zero) 176)=W at *
 refine wp_region_held_drew (S:=(fun w'=>aa W w')) (by kernel_rfl) ?_ (fun hHeld => ?_)
 ·exact (aa.refl W).drew
 refine ad.go [0,1] ?_
 iterate 2 (refine aJ (h := ?_);try simp only [ar])
 refine ad.nil ?_
 refine ad.go [2,3,4,5,6] ?_
 iterate 5 (refine dB (h := ?_);try simp only [ar])
 refine ad.nil ?_
 refine ad.go [7,8] ?_
 iterate 2 (refine aJ (h := ?_);try simp only [ar])
 refine ad.nil ?_
 refine wpAnyH_done (by kernel_rfl) ?_ _
 go_wp2
 go_ret
 exact ⟨rfl,K0.trans (by assumption)⟩
theorem Kc (t u:ag) (w:World) :
  Calls Tryz.prog 329 #[.agg (aV t),fI u] w fun e w'=>e = .returned (.bool false) /\ aa w w':=by
 go_enter Tryz.func329,Tryz.ntmps329
 go_wp2_with fail
 have K0:aa w ((w.alloc (.cells (aV t) 176)).alloc (.cells (aV ag.zero) 176)):=((aa.refl w).alloc _).alloc _
 generalize (w.alloc (.cells (aV t) 176)).alloc (.cells (aV ag.zero) 176)=W at *
 refine wp_region_held_drew (S:=(fun w'=>aa W w')) (by kernel_rfl) ?_ (fun hHeld => ?_)
 ·exact (aa.refl W).drew
 refine ad.go [0,1] ?_
 iterate 2 (refine aJ (h := ?_);try simp only [ar])
 refine ad.nil ?_
 refine ad.go [2,3,4,5,6] ?_
 iterate 5 (refine dB (h := ?_);try simp only [ar])
 refine ad.nil ?_
 refine ad.go [7,8] ?_
 iterate 2 (refine aJ (h := ?_);try simp only [ar])
 refine ad.nil ?_
 refine wpAnyH_done (by kernel_rfl) ?_ _
 go_wp2
 go_ret
 exact ⟨rfl,K0.trans (by assumption)⟩
set_option maxHeartbeats 1000000 in
theorem Kd (t u:ag) (w:World) :
  Calls Tryz.prog 329 #[.agg (aV t),rI u] w fun e w'=>e = .returned (.bool (fO t.bk u.bk)) /\ aa w w':=by
 go_enter Tryz.func329,Tryz.ntmps329
 go_wp2_with fail
 have K0:aa w ((w.alloc (.cells (aV t) 176)).alloc (.cells (aV u) 176)):=((aa.refl w).alloc _).alloc _
 have r1:∀ w',aa ((w.alloc (.cells (aV t) 176)).alloc (.cells (aV u) 176)) w'->∀ k,w'.cell? ⟨w.heap.size,k,none⟩=(aV t)[k]?:=fun w' h=>(((ai.new w (aV t) 176).alloc _).keeps h).cells
 have r2:∀ w',aa ((w.alloc (.cells (aV t) 176)).alloc (.cells (aV u) 176)) w'->∀ k,w'.cell? ⟨w.heap.size+1,k,none⟩=(aV u)[k]?:=fun w' h=>by
  have:=(ai.new (w.alloc (.cells (aV t) 176)) (aV u) 176).keeps h
  simp only [World.size_alloc] at this
  exact this.cells
 generalize (w.alloc (.cells (aV t) 176)).alloc (.cells (aV u) 176)=W at *
 refine wp_region_held_drew (S:=(fun w'=>aa W w')) (by kernel_rfl) ?_ (fun hHeld => ?_)
 ·exact (aa.refl W).drew
 refine ad.go [0,1,2,4] ?_
 iterate 4 (refine aJ (h := ?_);try simp only [ar])
 refine ad.nil ?_
 refine aO 3 (h:=fun K hK => ?_)
 go_simp
 first
  | (go_at_call 330;refine (vS _ _ _).mono ?_;rintro e w1 ⟨rfl,k1⟩)
  | (go_at_call 121;refine (mM _ _).mono ?_;rintro e w1 ⟨rfl,k1⟩)
 try go_wp2_with fail
 refine hK.out _ _ ?_ fun hHeld => ?_
 ·exact aa.trans (by assumption) (by assumption)
 clear hK K
 try simp only [ar]
 refine aO 5 (h:=fun K hK => ?_)
 go_simp
 first
  | (go_at_call 330;refine (vS _ _ _).mono ?_;rintro e w1 ⟨rfl,k1⟩)
  | (go_at_call 121;refine (mM _ _).mono ?_;rintro e w1 ⟨rfl,k1⟩)
 try go_wp2_with fail
 refine hK.out _ _ ?_ fun hHeld => ?_
 ·exact aa.trans (by assumption) (by assumption)
 clear hK K
 try simp only [ar]
 refine aO 6 (h:=fun K hK => ?_)
 go_simp
 first
  | (go_at_call 330;refine (vS _ _ _).mono ?_;rintro e w1 ⟨rfl,k1⟩)
  | (go_at_call 121;refine (mM _ _).mono ?_;rintro e w1 ⟨rfl,k1⟩)
 try go_wp2_with fail
 refine hK.out _ _ ?_ fun hHeld => ?_
 ·exact aa.trans (by assumption) (by assumption)
 clear hK K
 try simp only [ar]
 refine ad.go [7,8] ?_
 iterate 2 (refine aJ (h := ?_);try simp only [ar])
 refine ad.nil ?_
 refine wpAnyH_done (by kernel_rfl) ?_ _
 have K1:aa W w1:=by assumption
 go_wp2
 go_ret
 exact ⟨rfl,K0.trans K1⟩
theorem Ke (t u:ag) (w:World) :
  Calls Tryz.prog 91 #[dI t,dI u] w fun e w'=>e = .returned (.bool (fQ t.cm u.cm)) /\ aa w w':=by
 have hm:=JZ t
 have hn:=J4 t
 have CA:=pY
 have CB:=pY
 go_enter Tryz.func91,Tryz.ntmps91
 go_wp2_with (first
  | (go_at_call 154;have k0:=CA;clear CA;refine (k0 _ _).mono ?_;rintro e w1 ⟨rfl,rfl⟩)
  | (go_at_call 154;refine (CB _ _).mono ?_;rintro e w1 ⟨rfl,rfl⟩)
  | (go_at_call 302;refine (J8 t u _).mono ?_;rintro e w2 ⟨rfl,k2⟩))
 go_ret
 exact ⟨rfl,k2⟩
theorem Kf (t u:ag) (w:World) :
  Calls Tryz.prog 91 #[dI t,fI u] w fun e w'=>e = .returned (.bool true) /\ aa w w':=by
 have CA:=pY
 have CB:=pZ
 go_enter Tryz.func91,Tryz.ntmps91
 go_wp2_with (first
  | (go_at_call 154;have k0:=CA;clear CA;refine (k0 _ _).mono ?_;rintro e w1 ⟨rfl,rfl⟩)
  | (go_at_call 154;refine (CB _ _).mono ?_;rintro e w1 ⟨rfl,rfl⟩))
 go_ret
 exact ⟨rfl,aa.refl _⟩
theorem Kg (t u:ag) (w:World) :
  Calls Tryz.prog 91 #[dI t,rI u] w fun e w'=>e = .returned (.bool true) /\ aa w w':=by
 have CA:=pY
 have CB:=p3
 go_enter Tryz.func91,Tryz.ntmps91
 go_wp2_with (first
  | (go_at_call 154;have k0:=CA;clear CA;refine (k0 _ _).mono ?_;rintro e w1 ⟨rfl,rfl⟩)
  | (go_at_call 154;refine (CB _ _).mono ?_;rintro e w1 ⟨rfl,rfl⟩))
 go_ret
 exact ⟨rfl,aa.refl _⟩
theorem Kh (t u:ag) (w:World) :
  Calls Tryz.prog 91 #[fI t,dI u] w fun e w'=>e = .returned (.bool false) /\ aa w w':=by
 have hm:=Bf t
 have hn:=Bg t
 have CA:=pZ
 have CB:=pY
 go_enter Tryz.func91,Tryz.ntmps91
 go_wp2_with (first
  | (go_at_call 154;have k0:=CA;clear CA;refine (k0 _ _).mono ?_;rintro e w1 ⟨rfl,rfl⟩)
  | (go_at_call 154;refine (CB _ _).mono ?_;rintro e w1 ⟨rfl,rfl⟩)
  | (go_at_call 322;refine (J9 t u _).mono ?_;rintro e w2 ⟨rfl,k2⟩))
 go_ret
 exact ⟨rfl,k2⟩
theorem Ki (t u:ag) (w:World) :
  Calls Tryz.prog 91 #[fI t,fI u] w fun e w'=>e = .returned (.bool (fE t.cj u.cj)) /\ aa w w':=by
 have hm:=Bf t
 have hn:=Bg t
 have CA:=pZ
 have CB:=pZ
 go_enter Tryz.func91,Tryz.ntmps91
 go_wp2_with (first
  | (go_at_call 154;have k0:=CA;clear CA;refine (k0 _ _).mono ?_;rintro e w1 ⟨rfl,rfl⟩)
  | (go_at_call 154;refine (CB _ _).mono ?_;rintro e w1 ⟨rfl,rfl⟩)
  | (go_at_call 322;refine (Ka t u _).mono ?_;rintro e w2 ⟨rfl,k2⟩))
 go_ret
 exact ⟨rfl,k2⟩
theorem Kj (t u:ag) (w:World) :
  Calls Tryz.prog 91 #[fI t,rI u] w fun e w'=>e = .returned (.bool true) /\ aa w w':=by
 have CA:=pZ
 have CB:=p3
 go_enter Tryz.func91,Tryz.ntmps91
 go_wp2_with (first
  | (go_at_call 154;have k0:=CA;clear CA;refine (k0 _ _).mono ?_;rintro e w1 ⟨rfl,rfl⟩)
  | (go_at_call 154;refine (CB _ _).mono ?_;rintro e w1 ⟨rfl,rfl⟩))
 go_ret
 exact ⟨rfl,aa.refl _⟩
theorem Kk (t u:ag) (w:World) :
  Calls Tryz.prog 91 #[rI t,dI u] w fun e w'=>e = .returned (.bool false) /\ aa w w':=by
 have hm:=vQ t
 have hn:=vR t
 have CA:=p3
 have CB:=pY
 go_enter Tryz.func91,Tryz.ntmps91
 go_wp2_with (first
  | (go_at_call 154;have k0:=CA;clear CA;refine (k0 _ _).mono ?_;rintro e w1 ⟨rfl,rfl⟩)
  | (go_at_call 154;refine (CB _ _).mono ?_;rintro e w1 ⟨rfl,rfl⟩)
  | (go_at_call 329;refine (Kb t u _).mono ?_;rintro e w2 ⟨rfl,k2⟩))
 go_ret
 exact ⟨rfl,k2⟩
theorem Kl (t u:ag) (w:World) :
  Calls Tryz.prog 91 #[rI t,fI u] w fun e w'=>e = .returned (.bool false) /\ aa w w':=by
 have hm:=vQ t
 have hn:=vR t
 have CA:=p3
 have CB:=pZ
 go_enter Tryz.func91,Tryz.ntmps91
 go_wp2_with (first
  | (go_at_call 154;have k0:=CA;clear CA;refine (k0 _ _).mono ?_;rintro e w1 ⟨rfl,rfl⟩)
  | (go_at_call 154;refine (CB _ _).mono ?_;rintro e w1 ⟨rfl,rfl⟩)
  | (go_at_call 329;refine (Kc t u _).mono ?_;rintro e w2 ⟨rfl,k2⟩))
 go_ret
 exact ⟨rfl,k2⟩
theorem Km (t u:ag) (w:World) :
  Calls Tryz.prog 91 #[rI t,rI u] w fun e w'=>e = .returned (.bool (fO t.bk u.bk)) /\ aa w w':=by
 have hm:=vQ t
 have hn:=vR t
 have CA:=p3
 have CB:=p3
 go_enter Tryz.func91,Tryz.ntmps91
 go_wp2_with (first
  | (go_at_call 154;have k0:=CA;clear CA;refine (k0 _ _).mono ?_;rintro e w1 ⟨rfl,rfl⟩)
  | (go_at_call 154;refine (CB _ _).mono ?_;rintro e w1 ⟨rfl,rfl⟩)
  | (go_at_call 329;refine (Kd t u _).mono ?_;rintro e w2 ⟨rfl,k2⟩))
 go_ret
 exact ⟨rfl,k2⟩
def oM (t:ag) (v:Value):Prop:=((t.cls==1)=true /\ v=dI t)∨((t.cls==2)=true /\ v=fI t)∨((t.cls==3)=true /\ v=rI t)
theorem Kn {t:ag} (h:aY t=true):(t.cls==1)=true∨((t.cls==1)=false /\ (t.cls==2)=true)∨((t.cls==1)=false /\ (t.cls==2)=false /\ (t.cls==3)=true):=by
 have:=rE h
 simp only [beq_iff_eq,beq_eq_false_iff_ne,ne_eq]
 omega
theorem Bh {t:ag} (h:aY t=true) (w:World) :
  Calls Tryz.prog 92 #[tk t] w fun e w'=>∃ v,e = .returned v /\ oM t v /\ aa w w':=by
 rcases Kn h with c1 | ⟨c1,c2⟩ | ⟨c1,c2,c3⟩
 ·exact (J5 t w c1).mono fun e w' ⟨he,k⟩=>⟨_,he,.inl ⟨c1,rfl⟩,k⟩
 ·exact (J6 t w c1 c2).mono fun e w' ⟨he,k⟩=>⟨_,he,.inr (.inl ⟨c2,rfl⟩),k⟩
 ·exact (J7 t w c1 c2).mono fun e w' ⟨he,k⟩=>⟨_,he,.inr (.inr ⟨c3,rfl⟩),k⟩
theorem vT {a b:ag} (ha:aY a=true) (hb:aY b=true) (h:a.cls < b.cls):bh a b=true:=nA.2 ⟨ha,hb,.inl h⟩
theorem vU {a b:ag} (h:b.cls < a.cls):bh a b=false:=by
 rw [Bool.eq_false_iff]
 intro h2
 have:=nA.1 h2
 omega
theorem Ko {a b:ag} (ha:aY a=true) (hb:aY b=true) (ca:(a.cls==1)=true) (cb:(b.cls==1)=true):bh a b=fQ a b:=by
 simp only [beq_iff_eq] at ca cb
 unfold bh fE fO dD dY
 simp [ha,hb,ca,cb]
theorem Kp {a b:ag} (ha:aY a=true) (hb:aY b=true) (ca:(a.cls==2)=true) (cb:(b.cls==2)=true):bh a b=fE a b:=by
 simp only [beq_iff_eq] at ca cb
 unfold bh fQ fO dh dY
 simp [ha,hb,ca,cb]
theorem Kq {a b:ag} (ha:aY a=true) (hb:aY b=true) (ca:(a.cls==3)=true) (cb:(b.cls==3)=true):bh a b=fO a b:=by
 simp only [beq_iff_eq] at ca cb
 unfold bh fQ fE dh dD
 simp [ha,hb,ca,cb]
theorem Ks {a b:ag} (ha:aY a=true) (hb:aY b=true) {x y:Value} (hx:oM a x) (hy:oM b y) (w:World) :
  Calls Tryz.prog 91 #[x,y] w fun e w'=>e = .returned (.bool (bh a b)) /\ aa w w':=by
 rcases hx with ⟨c,rfl⟩ | ⟨c,rfl⟩ | ⟨c,rfl⟩ <;> rcases hy with ⟨d,rfl⟩ | ⟨d,rfl⟩ | ⟨d,rfl⟩
 ·have:=Ke a b w
  rw [A9 ha c,A9 hb d] at this
  rw [Ko ha hb c d]
  exact this
 ·rw [vT ha hb (by simp at c d;omega)];exact Kf a b w
 ·rw [vT ha hb (by simp at c d;omega)];exact Kg a b w
 ·rw [vU (by simp at c d;omega)];exact Kh a b w
 ·have:=Ki a b w
  rw [Bb ha c,Bb hb d] at this
  rw [Kp ha hb c d]
  exact this
 ·rw [vT ha hb (by simp at c d;omega)];exact Kj a b w
 ·rw [vU (by simp at c d;omega)];exact Kk a b w
 ·rw [vU (by simp at c d;omega)];exact Kl a b w
 ·have:=Km a b w
  rw [Bd ha c,Bd hb d] at this
  rw [Kq ha hb c d]
  exact this
set_option maxHeartbeats 2000000 in
theorem Bi:FZ:=by
 intro a b w
 go_enter Tryz.func41,Tryz.ntmps41
 go_wp2_with fail
 have kW:aa w ((w.alloc (.cells (tc a) 43)).alloc (.cells (tc b) 43)):=((aa.refl w).alloc _).alloc _
 have r1:∀ w',aa ((w.alloc (.cells (tc a) 43)).alloc (.cells (tc b) 43)) w'->∀ k,w'.cell? ⟨w.heap.size,k,none⟩=(tc a)[k]?:=fun w' h=>(((ai.new w (tc a) 43).alloc _).keeps h).cells
 have r2:∀ w',aa ((w.alloc (.cells (tc a) 43)).alloc (.cells (tc b) 43)) w'->∀ k,w'.cell? ⟨w.heap.size+1,k,none⟩=(tc b)[k]?:=fun w' h=>by
  have:=(ai.new (w.alloc (.cells (tc a) 43)) (tc b) 43).keeps h
  simp only [World.size_alloc] at this
  exact this.cells
 generalize (w.alloc (.cells (tc a) 43)).alloc (.cells (tc b) 43)=W at *
 have K0:=aa.refl W
 have TA:Hid (∀ w,Calls Tryz.prog 74 #[tk a] w fun e w'=>e = .returned (.bool (aY a)) /\ aa w w'):=fun w=>ml a w
 have TB:Hid (∀ w,Calls Tryz.prog 74 #[tk b] w fun e w'=>e = .returned (.bool (aY b)) /\ aa w w'):=fun w=>ml b w
 cases ha:aY a
 ·have Hr:Hid (bh a b=false):=by show _=_;simp [bh,ha]
  rw [ha] at TA
  refine wp_region_held_drew (S:=(fun w'=>aa W w')) (by kernel_rfl) ?_ (fun hHeld => ?_)
  ·exact K0.drew
  refine cU 0 (h := ?_)
  try simp only [ar]
  refine aO 1 (h:=fun K hK => ?_)
  go_simp
  first
   | (go_at_call 74;refine (TA.out _).mono ?_;rintro e w1 ⟨rfl,k1⟩)
  try go_wp2_with fail
  refine hK.out _ _ ?_ fun hHeld => ?_
  ·exact aa.trans (by assumption) (by assumption)
  clear hK K
  try simp only [ar]
  refine cU 2 (h := ?_)
  try simp only [ar]
  refine ad.go [3,4] ?_
  iterate 2 (refine dB (h := ?_);try simp only [ar])
  refine ad.nil ?_
  refine ad.go [5,6] ?_
  iterate 2 (refine aJ (h := ?_);try simp only [ar])
  refine ad.nil ?_
  refine ad.go [7,8,9,10,11] ?_
  iterate 5 (refine dB (h := ?_);try simp only [ar])
  refine ad.nil ?_
  refine ad.go [12,13] ?_
  iterate 2 (refine aJ (h := ?_);try simp only [ar])
  refine ad.nil ?_
  refine wpAnyH_done (by kernel_rfl) ?_ _
  have K1:aa W w1:=by assumption
  go_wp2
  go_ret
  exact ⟨by rw [Hr.out];rfl,kW.trans K1⟩
 cases hb:aY b
 ·have Hr:Hid (bh a b=false):=by show _=_;simp [bh,hb]
  rw [ha] at TA
  rw [hb] at TB
  refine wp_region_held_drew (S:=(fun w'=>aa W w')) (by kernel_rfl) ?_ (fun hHeld => ?_)
  ·exact K0.drew
  refine cU 0 (h := ?_)
  try simp only [ar]
  refine aO 1 (h:=fun K hK => ?_)
  go_simp
  first
   | (go_at_call 74;have k0:=TA;clear TA;refine (k0.out _).mono ?_;rintro e w1 ⟨rfl,k1⟩)
   | (go_at_call 74;refine (TB.out _).mono ?_;rintro e w2 ⟨rfl,k2⟩)
  try go_wp2_with fail
  refine hK.out _ _ ?_ fun hHeld => ?_
  ·exact aa.trans (by assumption) (by assumption)
  clear hK K
  try simp only [ar]
  refine ad.go [2,3] ?_
  iterate 2 (refine aJ (h := ?_);try simp only [ar])
  refine ad.nil ?_
  refine aO 4 (h:=fun K hK => ?_)
  go_simp
  first
   | (go_at_call 74;have k0:=TA;clear TA;refine (k0.out _).mono ?_;rintro e w1 ⟨rfl,k1⟩)
   | (go_at_call 74;refine (TB.out _).mono ?_;rintro e w2 ⟨rfl,k2⟩)
  try go_wp2_with fail
  refine hK.out _ _ ?_ fun hHeld => ?_
  ·exact aa.trans (by assumption) (by assumption)
  clear hK K
  try simp only [ar]
  refine ad.go [5,6] ?_
  iterate 2 (refine aJ (h := ?_);try simp only [ar])
  refine ad.nil ?_
  refine ad.go [7,8,9,10,11] ?_
  iterate 5 (refine dB (h := ?_);try simp only [ar])
  refine ad.nil ?_
  refine ad.go [12,13] ?_
  iterate 2 (refine aJ (h := ?_);try simp only [ar])
  refine ad.nil ?_
  refine wpAnyH_done (by kernel_rfl) ?_ _
  have K2:aa W w2:=by assumption
  go_wp2
  go_ret
  exact ⟨by rw [Hr.out];rfl,kW.trans K2⟩
 ·have OA:Hid (∀ w,Calls Tryz.prog 92 #[tk a] w fun e w'=>∃ v,e = .returned v /\ oM a v /\ aa w w'):=fun w=>Bh ha w
  have OB:Hid (∀ w,Calls Tryz.prog 92 #[tk b] w fun e w'=>∃ v,e = .returned v /\ oM b v /\ aa w w'):=fun w=>Bh hb w
  have GG:Hid (∀ x y w,oM a x->oM b y->Calls Tryz.prog 91 #[x,y] w fun e w'=>e = .returned (.bool (bh a b)) /\ aa w w'):=fun x y w hx hy=>Ks ha hb hx hy w
  obtain ⟨z,Hz⟩:∃ z,Hid (bh a b=z):=⟨_,rfl⟩
  rw [Hz.out] at GG
  rw [ha] at TA
  rw [hb] at TB
  clear ha hb
  refine wp_region_held_drew (S:=(fun w'=>aa W w')) (by kernel_rfl) ?_ (fun hHeld => ?_)
  ·exact K0.drew
  refine cU 0 (h := ?_)
  try simp only [ar]
  refine aO 1 (h:=fun K hK => ?_)
  go_simp
  first
   | (go_at_call 74;have k0:=TA;clear TA;refine (k0.out _).mono ?_;rintro e w1 ⟨rfl,k1⟩)
   | (go_at_call 74;refine (TB.out _).mono ?_;rintro e w2 ⟨rfl,k2⟩)
   | (go_at_call 92;have k0:=OA;clear OA;refine (k0.out _).mono ?_;rintro e w3 ⟨x,rfl,hx,k3⟩)
   | (go_at_call 92;refine (OB.out _).mono ?_;rintro e w4 ⟨y,rfl,hy,k4⟩)
   | (go_at_call 91;refine (GG.out _ _ _ hx hy).mono ?_;rintro e w5 ⟨rfl,k5⟩)
  try go_wp2_with fail
  refine hK.out _ _ ?_ fun hHeld => ?_
  ·exact aa.trans (by assumption) (by assumption)
  clear hK K
  try simp only [ar]
  refine ad.go [2,3] ?_
  iterate 2 (refine aJ (h := ?_);try simp only [ar])
  refine ad.nil ?_
  refine aO 4 (h:=fun K hK => ?_)
  go_simp
  first
   | (go_at_call 74;have k0:=TA;clear TA;refine (k0.out _).mono ?_;rintro e w1 ⟨rfl,k1⟩)
   | (go_at_call 74;refine (TB.out _).mono ?_;rintro e w2 ⟨rfl,k2⟩)
   | (go_at_call 92;have k0:=OA;clear OA;refine (k0.out _).mono ?_;rintro e w3 ⟨x,rfl,hx,k3⟩)
   | (go_at_call 92;refine (OB.out _).mono ?_;rintro e w4 ⟨y,rfl,hy,k4⟩)
   | (go_at_call 91;refine (GG.out _ _ _ hx hy).mono ?_;rintro e w5 ⟨rfl,k5⟩)
  try go_wp2_with fail
  refine hK.out _ _ ?_ fun hHeld => ?_
  ·exact aa.trans (by assumption) (by assumption)
  clear hK K
  try simp only [ar]
  refine ad.go [5,6,7,9] ?_
  iterate 4 (refine aJ (h := ?_);try simp only [ar])
  refine ad.nil ?_
  refine aO 8 (h:=fun K hK => ?_)
  go_simp
  first
   | (go_at_call 74;have k0:=TA;clear TA;refine (k0.out _).mono ?_;rintro e w1 ⟨rfl,k1⟩)
   | (go_at_call 74;refine (TB.out _).mono ?_;rintro e w2 ⟨rfl,k2⟩)
   | (go_at_call 92;have k0:=OA;clear OA;refine (k0.out _).mono ?_;rintro e w3 ⟨x,rfl,hx,k3⟩)
   | (go_at_call 92;refine (OB.out _).mono ?_;rintro e w4 ⟨y,rfl,hy,k4⟩)
   | (go_at_call 91;refine (GG.out _ _ _ hx hy).mono ?_;rintro e w5 ⟨rfl,k5⟩)
  try go_wp2_with fail
  refine hK.out _ _ ?_ fun hHeld => ?_
  ·exact aa.trans (by assumption) (by assumption)
  clear hK K
  try simp only [ar]
  refine aO 10 (h:=fun K hK => ?_)
  go_simp
  first
   | (go_at_call 74;have k0:=TA;clear TA;refine (k0.out _).mono ?_;rintro e w1 ⟨rfl,k1⟩)
   | (go_at_call 74;refine (TB.out _).mono ?_;rintro e w2 ⟨rfl,k2⟩)
   | (go_at_call 92;have k0:=OA;clear OA;refine (k0.out _).mono ?_;rintro e w3 ⟨x,rfl,hx,k3⟩)
   | (go_at_call 92;refine (OB.out _).mono ?_;rintro e w4 ⟨y,rfl,hy,k4⟩)
   | (go_at_call 91;refine (GG.out _ _ _ hx hy).mono ?_;rintro e w5 ⟨rfl,k5⟩)
  try go_wp2_with fail
  refine hK.out _ _ ?_ fun hHeld => ?_
  ·exact aa.trans (by assumption) (by assumption)
  clear hK K
  try simp only [ar]
  refine aO 11 (h:=fun K hK => ?_)
  go_simp
  first
   | (go_at_call 74;have k0:=TA;clear TA;refine (k0.out _).mono ?_;rintro e w1 ⟨rfl,k1⟩)
   | (go_at_call 74;refine (TB.out _).mono ?_;rintro e w2 ⟨rfl,k2⟩)
   | (go_at_call 92;have k0:=OA;clear OA;refine (k0.out _).mono ?_;rintro e w3 ⟨x,rfl,hx,k3⟩)
   | (go_at_call 92;refine (OB.out _).mono ?_;rintro e w4 ⟨y,rfl,hy,k4⟩)
   | (go_at_call 91;refine (GG.out _ _ _ hx hy).mono ?_;rintro e w5 ⟨rfl,k5⟩)
  try go_wp2_with fail
  refine hK.out _ _ ?_ fun hHeld => ?_
  ·exact aa.trans (by assumption) (by assumption)
  clear hK K
  try simp only [ar]
  refine ad.go [12,13] ?_
  iterate 2 (refine aJ (h := ?_);try simp only [ar])
  refine ad.nil ?_
  refine wpAnyH_done (by kernel_rfl) ?_ _
  have K5:aa W w5:=by assumption
  go_wp2
  go_ret
  exact ⟨by rw [Hz.out];rfl,kW.trans K5⟩
theorem fk.eR {w w':World} {a:Option Addr} {n cap:Nat} {ts:List ag} (h:fk w a n cap ts) (x:Int) {z:Int} (hz:dA ts x=z) (k:aa w w'):Calls Tryz.prog 17 #[.slice a n cap,.int .i64 x] w' fun e w''=>e = .returned (.int .i64 z) /\ aa w' w'':=by
 have:=vM a cap ts x w' h.small (h.keeps k).lies
 rw [h.len,hz] at this
 exact this
theorem fk.fA {w w':World} {a:Option Addr} {n cap:Nat} {ts:List ag} (h:fk w a n cap ts) {z:Bool} (hz:di ts=z) (k:aa w w'):Calls Tryz.prog 33 #[.slice a n cap] w' fun e w''=>e = .returned (.bool z) /\ aa w' w'':=by
 have:=Bj a cap ts w' h.small (h.keeps k).lies
 rw [h.len,hz] at this
 exact this
end Go.Proofs.YteagpjlgjfaclaaGreatDoor
