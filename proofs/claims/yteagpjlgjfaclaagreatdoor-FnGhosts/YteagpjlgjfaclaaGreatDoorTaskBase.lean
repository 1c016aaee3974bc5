/-
  A task as a value, and the laws' own helpers over one: a co
-/
import Derived.Test.YteagpjlgjfaclaaGreatDoorBase
import Derived.Laws.ResultCell
import Derived.Deep.RegionHeld3
namespace Go.Proofs.YteagpjlgjfaclaaGreatDoor
open Go.RowKit
structure ar where
 no:Int
 cls:Int
 cpu:Int
 st:Int
 idle:Bool
 q:Int
 p:Int
 left:Int
 due:Int
 prio:Int
 round:Int
 seq:Int
 nice:Int
 v:Int
def fK (a b:ar):Bool:=a.no==b.no&&(a.cls==b.cls&&(a.cpu==b.cpu&&(a.st==b.st&&(a.idle==b.idle&&(a.q==b.q&&(a.p==b.p&&(a.left==b.left&&(a.due==b.due&&(a.prio==b.prio&&(a.round==b.round&&(a.seq==b.seq&&(a.nice==b.nice&&a.v==b.v))))))))))))
theorem ud {a b:ar}:fK a b=true↔a=b:=by
 cases a;cases b;simp [fK]
def ar.zero:ar:=⟨0,0,0,0,false,0,0,0,0,0,0,0,0,0⟩
abbrev tc (t:ar):Array Value:=#[.int .i64 t.no,.int .i64 t.cls,.int .i64 t.cpu,.int .i64 t.st,.bool t.idle,.int .i64 t.q,.int .i64 t.p,.int .i64 t.left,.int .i64 t.due,.int .i64 t.prio,.int .i64 t.round,.int .i64 t.seq,.int .i64 t.nice,.int .i64 t.v]
abbrev tk (t:ar):Value := .agg (tc t)
abbrev putT (w:World) (b:Nat) (t:ar):World:=(((((((((((((w.setCell ⟨b,0,none⟩ (.int .i64 t.no)).setCell ⟨b,1,none⟩ (.int .i64 t.cls)).setCell ⟨b,2,none⟩ (.int .i64 t.cpu)).setCell ⟨b,3,none⟩ (.int .i64 t.st)).setCell ⟨b,4,none⟩ (.bool t.idle)).setCell ⟨b,5,none⟩ (.int .i64 t.q)).setCell ⟨b,6,none⟩ (.int .i64 t.p)).setCell ⟨b,7,none⟩ (.int .i64 t.left)).setCell ⟨b,8,none⟩ (.int .i64 t.due)).setCell ⟨b,9,none⟩ (.int .i64 t.prio)).setCell ⟨b,10,none⟩ (.int .i64 t.round)).setCell ⟨b,11,none⟩ (.int .i64 t.seq)).setCell ⟨b,12,none⟩ (.int .i64 t.nice)).setCell ⟨b,13,none⟩ (.int .i64 t.v)
theorem aq.putT {w:World} {b:Nat} {s:ar} (h:aq w b (tc s)) (t:ar):aq (putT w b t) b (tc t):=by
 have h0:=h.set 0 (by simp) (.int .i64 t.no)
 simp only [List.setIfInBounds_toArray,List.set_cons_zero] at h0
 have h1:=h0.set 1 (by simp) (.int .i64 t.cls)
 simp only [List.setIfInBounds_toArray,List.set_cons_zero,List.set_cons_succ] at h1
 have h2:=h1.set 2 (by simp) (.int .i64 t.cpu)
 simp only [List.setIfInBounds_toArray,List.set_cons_zero,List.set_cons_succ] at h2
 have h3:=h2.set 3 (by simp) (.int .i64 t.st)
 simp only [List.setIfInBounds_toArray,List.set_cons_zero,List.set_cons_succ] at h3
 have h4:=h3.set 4 (by simp) (.bool t.idle)
 simp only [List.setIfInBounds_toArray,List.set_cons_zero,List.set_cons_succ] at h4
 have h5:=h4.set 5 (by simp) (.int .i64 t.q)
 simp only [List.setIfInBounds_toArray,List.set_cons_zero,List.set_cons_succ] at h5
 have h6:=h5.set 6 (by simp) (.int .i64 t.p)
 simp only [List.setIfInBounds_toArray,List.set_cons_zero,List.set_cons_succ] at h6
 have h7:=h6.set 7 (by simp) (.int .i64 t.left)
 simp only [List.setIfInBounds_toArray,List.set_cons_zero,List.set_cons_succ] at h7
 have h8:=h7.set 8 (by simp) (.int .i64 t.due)
 simp only [List.setIfInBounds_toArray,List.set_cons_zero,List.set_cons_succ] at h8
 have h9:=h8.set 9 (by simp) (.int .i64 t.prio)
 simp only [List.setIfInBounds_toArray,List.set_cons_zero,List.set_cons_succ] at h9
 have h10:=h9.set 10 (by simp) (.int .i64 t.round)
 simp only [List.setIfInBounds_toArray,List.set_cons_zero,List.set_cons_succ] at h10
 have h11:=h10.set 11 (by simp) (.int .i64 t.seq)
 simp only [List.setIfInBounds_toArray,List.set_cons_zero,List.set_cons_succ] at h11
 have h12:=h11.set 12 (by simp) (.int .i64 t.nice)
 simp only [List.setIfInBounds_toArray,List.set_cons_zero,List.set_cons_succ] at h12
 have me:=h12.set 13 (by simp) (.int .i64 t.v)
 simp only [List.setIfInBounds_toArray,List.set_cons_zero,List.set_cons_succ] at me
 exact me
theorem aq.tg {w:World} {b c:Nat} {C:Array Value} (h:aq w b C) (hc:c≠b) (t:ar):aq (Go.Proofs.YteagpjlgjfaclaaGreatDoor.putT w c t) b C:=((((((((((((((h.far hc _).far hc _).far hc _).far hc _).far hc _).far hc _).far hc _).far hc _).far hc _).far hc _).far hc _).far hc _).far hc _).far hc _)
theorem aa.putT {a w:World} {b:Nat} (h:aa a w) (hp:a.heap.size <= b) (t:ar):aa a (Go.Proofs.YteagpjlgjfaclaaGreatDoor.putT w b t):=((((((((((((((h.setCell hp _).setCell hp _).setCell hp _).setCell hp _).setCell hp _).setCell hp _).setCell hp _).setCell hp _).setCell hp _).setCell hp _).setCell hp _).setCell hp _).setCell hp _).setCell hp _)
end Go.Proofs.YteagpjlgjfaclaaGreatDoor
