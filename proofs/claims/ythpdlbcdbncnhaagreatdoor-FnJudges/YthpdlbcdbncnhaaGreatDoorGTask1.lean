/-
  A task as a value, and the laws' own helpers over one: a co
  A part of time is right: the contract of the program's Shar
-/
import Derived.Test.YthpdlbcdbncnhaaGreatDoorGBase1
import Derived.Laws.ResultCell
import Derived.Deep.RegionHeld3
namespace Go.Proofs.YthpdlbcdbncnhaaGreatDoor
open Go.RowKit
structure Tsk where
 no:Int
 cls:Int
 cpu:Int
 st:Int
 idle:Bool
 q:Int
 p:Int
 left:Int
 due:Int
 prio:Int
 round:Int
 seq:Int
 nice:Int
 v:Int
def eqT (a b:Tsk):Bool:=a.no==b.no&&(a.cls==b.cls&&(a.cpu==b.cpu&&(a.st==b.st&&(a.idle==b.idle&&(a.q==b.q&&(a.p==b.p&&(a.left==b.left&&(a.due==b.due&&(a.prio==b.prio&&(a.round==b.round&&(a.seq==b.seq&&(a.nice==b.nice&&a.v==b.v))))))))))))
theorem qel {a b:Tsk}:eqT a b=true↔a=b:=by
 cases a;cases b;simp [eqT]
def Tsk.zero:Tsk:=⟨0,0,0,0,false,0,0,0,0,0,0,0,0,0⟩
abbrev tc (t:Tsk):Array Value:=#[.int .i64 t.no,.int .i64 t.cls,.int .i64 t.cpu,.int .i64 t.st,.bool t.idle,.int .i64 t.q,.int .i64 t.p,.int .i64 t.left,.int .i64 t.due,.int .i64 t.prio,.int .i64 t.round,.int .i64 t.seq,.int .i64 t.nice,.int .i64 t.v]
abbrev tk (t:Tsk):Value := .agg (tc t)
abbrev putT (w:World) (b:Nat) (t:Tsk):World:=(((((((((((((w.setCell ⟨b,0,none⟩ (.int .i64 t.no)).setCell ⟨b,1,none⟩ (.int .i64 t.cls)).setCell ⟨b,2,none⟩ (.int .i64 t.cpu)).setCell ⟨b,3,none⟩ (.int .i64 t.st)).setCell ⟨b,4,none⟩ (.bool t.idle)).setCell ⟨b,5,none⟩ (.int .i64 t.q)).setCell ⟨b,6,none⟩ (.int .i64 t.p)).setCell ⟨b,7,none⟩ (.int .i64 t.left)).setCell ⟨b,8,none⟩ (.int .i64 t.due)).setCell ⟨b,9,none⟩ (.int .i64 t.prio)).setCell ⟨b,10,none⟩ (.int .i64 t.round)).setCell ⟨b,11,none⟩ (.int .i64 t.seq)).setCell ⟨b,12,none⟩ (.int .i64 t.nice)).setCell ⟨b,13,none⟩ (.int .i64 t.v)
theorem Blk.putT {w:World} {b:Nat} {s:Tsk} (h:Blk w b (tc s)) (t:Tsk):Blk (putT w b t) b (tc t):=by
 have h0:=h.set 0 (by simp) (.int .i64 t.no)
 simp only [List.setIfInBounds_toArray,List.set_cons_zero] at h0
 have h1:=h0.set 1 (by simp) (.int .i64 t.cls)
 simp only [List.setIfInBounds_toArray,List.set_cons_zero,List.set_cons_succ] at h1
 have h2:=h1.set 2 (by simp) (.int .i64 t.cpu)
 simp only [List.setIfInBounds_toArray,List.set_cons_zero,List.set_cons_succ] at h2
 have h3:=h2.set 3 (by simp) (.int .i64 t.st)
 simp only [List.setIfInBounds_toArray,List.set_cons_zero,List.set_cons_succ] at h3
 have h4:=h3.set 4 (by simp) (.bool t.idle)
 simp only [List.setIfInBounds_toArray,List.set_cons_zero,List.set_cons_succ] at h4
 have h5:=h4.set 5 (by simp) (.int .i64 t.q)
 simp only [List.setIfInBounds_toArray,List.set_cons_zero,List.set_cons_succ] at h5
 have h6:=h5.set 6 (by simp) (.int .i64 t.p)
 simp only [List.setIfInBounds_toArray,List.set_cons_zero,List.set_cons_succ] at h6
 have h7:=h6.set 7 (by simp) (.int .i64 t.left)
 simp only [List.setIfInBounds_toArray,List.set_cons_zero,List.set_cons_succ] at h7
 have h8:=h7.set 8 (by simp) (.int .i64 t.due)
 simp only [List.setIfInBounds_toArray,List.set_cons_zero,List.set_cons_succ] at h8
 have h9:=h8.set 9 (by simp) (.int .i64 t.prio)
 simp only [List.setIfInBounds_toArray,List.set_cons_zero,List.set_cons_succ] at h9
 have h10:=h9.set 10 (by simp) (.int .i64 t.round)
 simp only [List.setIfInBounds_toArray,List.set_cons_zero,List.set_cons_succ] at h10
 have h11:=h10.set 11 (by simp) (.int .i64 t.seq)
 simp only [List.setIfInBounds_toArray,List.set_cons_zero,List.set_cons_succ] at h11
 have h12:=h11.set 12 (by simp) (.int .i64 t.nice)
 simp only [List.setIfInBounds_toArray,List.set_cons_zero,List.set_cons_succ] at h12
 have h13:=h12.set 13 (by simp) (.int .i64 t.v)
 simp only [List.setIfInBounds_toArray,List.set_cons_zero,List.set_cons_succ] at h13
 exact h13
theorem Blk.farT {w:World} {b c:Nat} {C:Array Value} (h:Blk w b C) (hc:c≠b) (t:Tsk):Blk (Go.Proofs.YthpdlbcdbncnhaaGreatDoor.putT w c t) b C:=((((((((((((((h.far hc _).far hc _).far hc _).far hc _).far hc _).far hc _).far hc _).far hc _).far hc _).far hc _).far hc _).far hc _).far hc _).far hc _)
theorem Keeps.putT {a w:World} {b:Nat} (h:Keeps a w) (hp:a.heap.size <= b) (t:Tsk):Keeps a (Go.Proofs.YthpdlbcdbncnhaaGreatDoor.putT w b t):=((((((((((((((h.setCell hp _).setCell hp _).setCell hp _).setCell hp _).setCell hp _).setCell hp _).setCell hp _).setCell hp _).setCell hp _).setCell hp _).setCell hp _).setCell hp _).setCell hp _).setCell hp _)
abbrev sh (q p:Int):Value := .agg #[.int .i64 q,.int .i64 p]
def okB (q p:Int):Bool:=inB p 1 40&&inB q 1 p
theorem qcG {q p:Int}:okB q p=true↔(1 <= p /\ p <= 40) /\ 1 <= q /\ q <= p:=by simp [okB,qap]
theorem qem (q p:Int) (w:World) :
  Calls Tryz.prog 176 #[sh q p] w fun e w'=>e = .returned (.bool (okB q p)) /\ w'=w.alloc (.cells #[.int .i64 q,.int .i64 p] 65):=by
 by_cases h1:1 <= p
 ·by_cases h2:p <= 40
  ·by_cases h3:1 <= q
   ·by_cases h4:q <= p
    ·have Hr:Hid (okB q p=true):=qcG.2 ⟨⟨h1,h2⟩,h3,h4⟩
     go_enter Tryz.func176,Tryz.ntmps176
     go_wp2
     go_ret
     exact ⟨by rw [Hr.out];rfl,rfl⟩
    ·have Hr:Hid (okB q p=false):=by
      show _=_;rw [Bool.eq_false_iff];intro h;have:=qcG.1 h;omega
     have hd:decide (q <= p)=false:=by simpa using h4
     go_enter Tryz.func176,Tryz.ntmps176
     go_wp2
     go_ret
     exact ⟨by rw [Hr.out];rfl,rfl⟩
   ·have Hr:Hid (okB q p=false):=by
     show _=_;rw [Bool.eq_false_iff];intro h;have:=qcG.1 h;omega
    have hd:decide (1 <= q)=false:=by simpa using h3
    go_enter Tryz.func176,Tryz.ntmps176
    go_wp2
    go_ret
    exact ⟨by rw [Hr.out];rfl,rfl⟩
  ·have Hr:Hid (okB q p=false):=by
    show _=_;rw [Bool.eq_false_iff];intro h;have:=qcG.1 h;omega
   have hd:decide (p <= 40)=false:=by simpa using h2
   go_enter Tryz.func176,Tryz.ntmps176
   go_wp2
   go_ret
   exact ⟨by rw [Hr.out];rfl,rfl⟩
 ·have Hr:Hid (okB q p=false):=by
   show _=_;rw [Bool.eq_false_iff];intro h;have:=qcG.1 h;omega
  have hd:decide (1 <= p)=false:=by simpa using h1
  go_enter Tryz.func176,Tryz.ntmps176
  go_wp2
  go_ret
  exact ⟨by rw [Hr.out];rfl,rfl⟩
theorem qch (q p:Int) (w:World) :
  Calls Tryz.prog 115 #[sh q p] w fun e w'=>e = .returned (.bool (okB q p)) /\ w'=w.alloc (.cells #[.int .i64 q,.int .i64 p] 65):=by
 cases h1:inB p 1 40
 ·have Hr:Hid (okB q p=false):=by show _=_;simp [okB,h1]
  go_enter Tryz.func115,Tryz.ntmps115
  go_wp2_with (go_at_call 64;refine (qaf _ _ _ _).mono ?_;rintro e w' ⟨rfl,rfl⟩)
  go_ret
  exact ⟨by rw [Hr.out];rfl,rfl⟩
 ·have Hr:Hid (okB q p=inB q 1 p):=by show _=_;simp [okB,h1]
  go_enter Tryz.func115,Tryz.ntmps115
  go_wp2_with (go_at_call 64;refine (qaf _ _ _ _).mono ?_;rintro e w' ⟨rfl,rfl⟩)
  go_ret
  exact ⟨by rw [Hr.out];rfl,rfl⟩
theorem qgr (q p:Int) (w:World) :
  Calls Tryz.prog 115 #[sh q p] w fun e w'=>e = .returned (.bool (okB q p)) /\ Keeps w w' :=
 (qch q p w).mono (by rintro e w' ⟨rfl,rfl⟩;exact ⟨rfl,(Keeps.refl _).alloc _⟩)
theorem qbX (x:Int) (w:World) :
  Calls Tryz.prog 156 #[.int .i64 x] w fun e w'=>e = .returned (.bool (inB x (-4) 4)) /\ w'=w:=by
 go_enter Tryz.func156,Tryz.ntmps156
 go_wp2_with (go_at_call 64;refine (qaf _ _ _ _).mono ?_;rintro e w' ⟨rfl,rfl⟩)
 go_ret
 exact ⟨rfl,rfl⟩
end Go.Proofs.YthpdlbcdbncnhaaGreatDoor
namespace Go.Proofs.YthpdlbcdbncnhaaGreatDoor
open Go.RowKit
end Go.Proofs.YthpdlbcdbncnhaaGreatDoor
