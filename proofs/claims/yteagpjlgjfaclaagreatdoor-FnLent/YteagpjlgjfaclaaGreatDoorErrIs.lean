/-
  errors.Is of one of the program's six errors, or of none, b
  The greatest common divisor: contracts of the program's and
-/
import Derived.Test.YteagpjlgjfaclaaGreatDoorLate
import Derived.LaidEql
import Derived.Stop.Asserts
import Derived.RowKitTokens
namespace Go.Proofs.YteagpjlgjfaclaaGreatDoor
set_option maxRecDepth 100000
section
open Go.RowKit Go.Extern.Stop Go.Stop Go.Extern
attribute [local go_sem] aa.refl aa.alloc aa.drew aa.drewN
theorem Am (v:Value) (w:World):(Extern.ReflectliteType.typeOf #[.iface 284 v]).run Tryz.prog w = .ok (.iface 152 (.agg #[.pointer (some ⟨7,284,none⟩)])) w:=by kernel_rfl
theorem An (w:World):(callFunc 312 #[.agg #[.pointer (some ⟨7,284,none⟩)]]).run Tryz.prog w = .ok (.value (.bool true)) w:=by kernel_rfl
theorem Ao (v:Value) (w:World):(Go.method 436 152 v "Comparable").run Tryz.prog w = .ok (312,v) w:=by kernel_rfl
theorem Ap:(Tryz.prog.info? 284).map (·.comparable)=some true:=by kernel_rfl
theorem Aq:(Tryz.prog.info? 324).map (·.size)=some 1:=by kernel_rfl
theorem IL (v:Value) (xT:TypeId) (w:World):(Instr.typeAssert (.iface 284 v) xT 206 true).run Tryz.prog w = .ok (.tuple #[.nilIface,.bool false]) w:=run_typeAssert_lacksB Tryz.underlying206 (by kernel_rfl) (by kernel_rfl) v xT w
theorem IM (v:Value) (xT:TypeId) (w:World):(Instr.typeAssert (.iface 284 v) xT 160 true).run Tryz.prog w = .ok (.tuple #[.nilIface,.bool false]) w:=run_typeAssert_lacksB Tryz.underlying160 (by kernel_rfl) (by kernel_rfl) v xT w
theorem IN (v:Value) (xT:TypeId) (w:World):(Instr.typeAssert (.iface 284 v) xT 162 true).run Tryz.prog w = .ok (.tuple #[.nilIface,.bool false]) w:=run_typeAssert_lacksB Tryz.underlying162 (by kernel_rfl) (by kernel_rfl) v xT w
set_option maxHeartbeats 1000000 in
theorem IP (a:Addr) (w:World) :
  Calls Tryz.prog 80 #[.iface 284 (.pointer (some a)),.iface 284 (.pointer (some a))] w fun e w'=>e = .returned (.bool true) /\ w'=w:=by
 obtain ⟨i,hi,hcmp⟩:=Option.map_eq_some_iff.1 Ap
 obtain ⟨j,hj,hjs⟩:=Option.map_eq_some_iff.1 Aq
 have h8 := @run_callFunc_extern Tryz.prog 102 _ Extern.ReflectliteType.typeOf Tryz.func102 (by kernel_rfl) (by kernel_rfl) (by kernel_rfl) (by kernel_rfl)
 have tT:=Am
 have cT:=An
 have mR:=Ao
 have heq:=run_eql_iface_ptr_same (P:=Tryz.prog) w a Tryz.underlying63 Tryz.underlying284 hi hcmp hj
 go_enter Tryz.func80,Tryz.ntmps80
 go_wp2
 refine wp_loop_rounds 1 ?_
 rw [rounds_succ]
 go_wp2
 go_ret
 exact ⟨rfl,rfl⟩
theorem IQ (b:Addr) (w:World) :
  Calls Tryz.prog 80 #[.nilIface,.iface 284 (.pointer (some b))] w fun e w'=>e = .returned (.bool false) /\ w'=w:=by
 have hn:=run_eql_iface_nil_left (P:=Tryz.prog) w 284 (.pointer (some b)) Tryz.underlying63
 go_enter Tryz.func80,Tryz.ntmps80
 go_wp2
 go_ret
 exact ⟨rfl,rfl⟩
set_option maxHeartbeats 1000000 in
theorem IS (a b:Addr) (ca cb:Array Value) (ta tb:TypeId) (w:World) (hne:a≠b) (ha:w.heap[a.block]?=some (.cells ca ta (0,0))) (hb:w.heap[b.block]?=some (.cells cb tb (0,0))) :
  Calls Tryz.prog 80 #[.iface 284 (.pointer (some a)),.iface 284 (.pointer (some b))] w fun e w'=>e = .returned (.bool false) /\ w'=w:=by
 obtain ⟨i,hi,hcmp⟩:=Option.map_eq_some_iff.1 Ap
 obtain ⟨j,hj,hjs⟩:=Option.map_eq_some_iff.1 Aq
 have h8 := @run_callFunc_extern Tryz.prog 102 _ Extern.ReflectliteType.typeOf Tryz.func102 (by kernel_rfl) (by kernel_rfl) (by kernel_rfl) (by kernel_rfl)
 have tT:=Am
 have cT:=An
 have mR:=Ao
 have nE:=IL
 have uE:=IM
 have vE:=IN
 have heq:=run_eql_iface_ptr_other (P:=Tryz.prog) w Tryz.underlying63 Tryz.underlying284 hi hcmp hj (by rw [hjs];decide) hne ha hb
 go_enter Tryz.func80,Tryz.ntmps80
 go_wp2
 refine wp_loop_rounds 1 ?_
 rw [rounds_succ]
 go_wp2
 go_ret
 exact ⟨rfl,rfl⟩
structure dZ (w:World) (er:Nat->Addr):Prop where
 var:∀ k,1 <= k->k <= 6->w.cell? ⟨k,0,none⟩=some (.iface 284 (.pointer (some (er k))))
 low:6 < w.heap.size
 apart:∀ j k,1 <= j->j <= 6->1 <= k->k <= 6->j≠k->er j≠er k
 lies:∀ k,1 <= k->k <= 6->∃ c t,w.heap[(er k).block]?=some (.cells c t (0,0))
theorem dZ.keeps {w w':World} {er:Nat->Addr} (h:dZ w er) (k:aa w w'):dZ w' er:=by
 refine ⟨fun j h1 h2=>(k.cells j 0 (by have:=h.low;omega)).trans (h.var j h1 h2),Nat.lt_of_lt_of_le h.low k.size,h.apart,fun j h1 h2 => ?_⟩
 obtain ⟨c,t,e⟩:=h.lies j h1 h2
 exact ⟨c,t,(Below.block k _ (Array.getElem?_eq_some_iff.1 e).1).trans e⟩
def fH (er:Nat->Addr) (n:Nat):Value:=if n=0 then .nilIface else .iface 284 (.pointer (some (er n)))
theorem pP {w:World} {er:Nat->Addr} (h:dZ w er) (n k:Nat) (hn:n <= 6) (h1:1 <= k) (h6:k <= 6) :
  Calls Tryz.prog 80 #[fH er n,.iface 284 (.pointer (some (er k)))] w fun e w'=>e = .returned (.bool (n==k)) /\ w'=w:=by
 unfold fH
 by_cases h0:n=0
 ·subst h0
  rw [if_pos rfl,show ((0:Nat)==k)=false from by simp;omega]
  exact IQ _ _
 ·rw [if_neg h0]
  by_cases hk:n=k
  ·subst hk
   rw [show (n==n)=true from by simp]
   exact IP _ _
  ·obtain ⟨c1,t1,e1⟩:=h.lies n (by omega) hn
   obtain ⟨c2,t2,e2⟩:=h.lies k h1 h6
   rw [show (n==k)=false from by simpa using hk]
   exact IS _ _ c1 c2 t1 t2 w (h.apart n k (by omega) hn h1 h6 hk) e1 e2
set_option maxHeartbeats 1000000 in
theorem IT {w:World} {er:Nat->Addr} (h:dZ w er) (n:Nat) (hn:n <= 6) :
  Calls Tryz.prog 37 #[fH er n] w fun e w'=>e = .returned (.int .i64 (n:Int)) /\ w'=w:=by
 have c1:=pP h n 1 hn (by omega) (by omega)
 have c2:=pP h n 2 hn (by omega) (by omega)
 have c3:=pP h n 3 hn (by omega) (by omega)
 have c4:=pP h n 4 hn (by omega) (by omega)
 have c5:=pP h n 5 hn (by omega) (by omega)
 have c6:=pP h n 6 hn (by omega) (by omega)
 have v1:=h.var 1 (by omega) (by omega)
 have v2:=h.var 2 (by omega) (by omega)
 have v3:=h.var 3 (by omega) (by omega)
 have v4:=h.var 4 (by omega) (by omega)
 have v5:=h.var 5 (by omega) (by omega)
 have v6:=h.var 6 (by omega) (by omega)
 generalize fH er n=ev at *
 generalize er 1=a1 at *
 generalize er 2=a2 at *
 generalize er 3=a3 at *
 generalize er 4=a4 at *
 generalize er 5=a5 at *
 generalize er 6=a6 at *
 clear h
 have go:n=0∨n=1∨n=2∨n=3∨n=4∨n=5∨n=6:=by omega
 clear hn
 rcases go with rfl | rfl | rfl | rfl | rfl | rfl | rfl
 all_goals
  go_enter Tryz.func37,Tryz.ntmps37
  go_wp2_with first
   | (go_at_call 80;refine c1.mono ?_;rintro e w' ⟨rfl,rfl⟩;clear c1)
   | (go_at_call 80;refine c2.mono ?_;rintro e w' ⟨rfl,rfl⟩;clear c2)
   | (go_at_call 80;refine c3.mono ?_;rintro e w' ⟨rfl,rfl⟩;clear c3)
   | (go_at_call 80;refine c4.mono ?_;rintro e w' ⟨rfl,rfl⟩;clear c4)
   | (go_at_call 80;refine c5.mono ?_;rintro e w' ⟨rfl,rfl⟩;clear c5)
   | (go_at_call 80;refine c6.mono ?_;rintro e w' ⟨rfl,rfl⟩;clear c6)
  go_ret
  exact ⟨rfl,rfl⟩
end
section
open Go.RowKit
theorem Ar (x y:Nat):Nat.gcd y (x % y)=Nat.gcd x y:=by
 rw [Nat.gcd_comm x y,Nat.gcd_rec y x,Nat.gcd_comm]
set_option maxHeartbeats 400000 in
theorem IU (a b:Nat) (w:World) (ha:a <= 9223372036854775807) (hb:b <= 9223372036854775807) :
  Calls Tryz.prog 112 #[.int .i64 a,.int .i64 b] w fun e w'=>e = .returned (.int .i64 (Nat.gcd a b)) /\ Quiet w w':=by
 go_enter Tryz.func112,Tryz.ntmps112
 go_wp2
 go_loopw [0,1] (fun s t wr=>∃ x y:Nat,x <= 9223372036854775807 /\ y <= 9223372036854775807 /\ s = .int .i64 x /\ t = .int .i64 y /\ Hid (Nat.gcd x y=Nat.gcd a b) /\ Quiet w wr) (fun _ t _=>(intOf t).toNat)
 case atStart=>exact ⟨a,b,ha,hb,rfl,rfl,rfl,Quiet.refl _⟩
 case round =>
  obtain ⟨x,y,hx,hy,rfl,rfl,hg,hq⟩:=hrel
  by_cases h0:0 < y
  ·have h1:x % y < y:=Nat.mod_lt _ h0
   have hn:((y:Int) != 0)=true:=by rw [bne_iff_ne];omega
   go_wp2
   go_quiet (fail)
   go_wp2
   go_roundw
   case rel=>exact ⟨y,x % y,hy,by omega,rfl,rfl,(Ar x y).trans hg.out,hq.drewN _⟩
   case measure=>simp only [intOf];omega
  ·have h2:y=0:=by omega
   subst h2
   go_wp2
   go_ret
   exact ⟨by rw [<- hg.out];simp,hq⟩
set_option maxHeartbeats 400000 in
theorem IV (a b:Nat) (w:World) (ha:a <= 9223372036854775807) (hb:b <= 9223372036854775807) :
  Calls Tryz.prog 185 #[.int .i64 a,.int .i64 b] w fun e w'=>e = .returned (.int .i64 (Nat.gcd a b)) /\ Quiet w w':=by
 go_enter Tryz.func185,Tryz.ntmps185
 go_wp2
 go_loopw [0,1] (fun s t wr=>∃ x y:Nat,x <= 9223372036854775807 /\ y <= 9223372036854775807 /\ s = .int .i64 x /\ t = .int .i64 y /\ Hid (Nat.gcd x y=Nat.gcd a b) /\ Quiet w wr) (fun _ t _=>(intOf t).toNat)
 case atStart=>exact ⟨a,b,ha,hb,rfl,rfl,rfl,Quiet.refl _⟩
 case round =>
  obtain ⟨x,y,hx,hy,rfl,rfl,hg,hq⟩:=hrel
  by_cases h0:0 < y
  ·have h1:x % y < y:=Nat.mod_lt _ h0
   have hn:((y:Int) != 0)=true:=by rw [bne_iff_ne];omega
   go_wp2
   go_quiet (fail)
   go_wp2
   go_roundw
   case rel=>exact ⟨y,x % y,hy,by omega,rfl,rfl,(Ar x y).trans hg.out,hq.drewN _⟩
   case measure=>simp only [intOf];omega
  ·have h2:y=0:=by omega
   subst h2
   go_wp2
   go_ret
   exact ⟨by rw [<- hg.out];simp,hq⟩
theorem yR (a b:Int) (w:World) :
  Calls Tryz.prog 56 #[.int .i64 a,.int .i64 b] w fun e w'=>e = .returned (.int .i64 (max a b)) /\ w'=w:=by
 by_cases h0:b < a
 ·have Hr:Hid (max a b=a):=by show _=_;omega
  go_enter Tryz.func56,Tryz.ntmps56
  go_wp2
  go_ret
  exact ⟨by rw [Hr.out];rfl,rfl⟩
 ·have Hr:Hid (max a b=b):=by show _=_;omega
  go_enter Tryz.func56,Tryz.ntmps56
  go_wp2
  go_ret
  exact ⟨by rw [Hr.out];rfl,rfl⟩
end
end Go.Proofs.YteagpjlgjfaclaaGreatDoor
