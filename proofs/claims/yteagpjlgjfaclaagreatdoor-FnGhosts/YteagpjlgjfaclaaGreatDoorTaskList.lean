/-
  Lists of tasks: the laws' own helpers, and what the model's
  errors.Is of one of the program's six errors, or of none, b
-/
import Derived.Test.YteagpjlgjfaclaaGreatDoorTaskSpec
import Derived.Test.YteagpjlgjfaclaaGreatDoorCur
import Derived.Test.YteagpjlgjfaclaaGreatDoorBase
import Derived.LaidEql
import Derived.Stop.Asserts
import Derived.RowKitTokens
namespace Go.Proofs.YteagpjlgjfaclaaGreatDoor
set_option maxRecDepth 100000
attribute [local go_sem] aa.refl aa.alloc aa.drew aa.drewN
section
open Go.RowKit
abbrev Ts (w:World) (a:Option Addr) (ts:List ar):Prop:=cm 14 tc w a ts
theorem iT {α:Type} {xs:List α} {k:Nat} (h:k < xs.length):∃ x,xs[k]?=some x:=⟨xs[k],List.getElem?_eq_getElem h⟩
def dc (ts:List ar) (no:Int):Int:=match ts.findIdx? (fun t=>t.no==no) with
 | some i=>i
 | none => -1
set_option maxHeartbeats 1000000 in
theorem ID (a:Option Addr) (cap:Nat) (ts:List ar) (no:Int) (w:World) (hl:ts.length <= maxLen) (hs:Ts w a ts) :
  Calls Tryz.prog 71 #[.slice a ts.length cap,.int .i64 no] w fun e w'=>e = .returned (.int .i64 (dc ts no)) /\ aa w w':=by
 unfold maxLen at hl
 generalize hn:ts.length=n at hl
 have Hn:Hid (ts.length=n):=hn
 clear hn
 go_enter Tryz.func71,Tryz.ntmps71
 go_wp2
 go_loopw [5] (fun i wr=>∃ k:Nat,k <= n /\ i = .int .i64 k /\ aa w wr /\ Hid (∀ j t,j < k->ts[j]?=some t->(t.no==no)=false)) (fun i _=>n - (intOf i).toNat)
 case atStart=>exact ⟨0,Nat.zero_le _,rfl,aa.refl _,fun j t hj=>by omega⟩
 case round =>
  obtain ⟨k,hk,rfl,hK,H⟩:=hrel
  by_cases hlt:k < n
  ·obtain ⟨t,ht⟩:=iT (xs:=ts) (k:=k) (by rw [Hn.out];exact hlt)
   obtain ⟨b,off,rfl,r0,r1⟩:=hs.at ht (by omega)
   have hlt':(k:Int) < (n:Int):=by omega
   have Ht:Hid (ts[k]?=some t):=ht
   clear hs ht
   cases hq:(t.no==no)
   ·go_wp2
    exact ⟨⟨k+1,by omega,by go_num,hK,fun j s hj hs=>by
     by_cases e:j=k
     ·subst e;rw [Ht.out] at hs;cases hs;exact hq
     ·exact H.out j s (by omega) hs⟩,by simp only [intOf];omega⟩
   ·have Hr:Hid (dc ts no=k):=by
     show _=_
     have:ts.findIdx? (fun t=>t.no==no)=some k:=by
      rw [List.findIdx?_eq_some_iff_getElem]
      have hk':k < ts.length:=by rw [Hn.out];exact hlt
      have e1:ts[k]=t:=by have:=Ht.out;rw [List.getElem?_eq_getElem hk'] at this;simpa using this
      refine ⟨hk',by rw [e1];exact hq,fun j hj => ?_⟩
      have:=H.out j ts[j] (by omega) (List.getElem?_eq_getElem _)
      simp [this]
     simp [dc,this]
    go_wp2
    go_ret
    exact ⟨by rw [Hr.out];rfl,hK⟩
  ·have Hr:Hid (dc ts no = -1):=by
    show _=_
    have:ts.findIdx? (fun t=>t.no==no)=none:=by
     rw [List.findIdx?_eq_none_iff]
     intro t ht
     obtain ⟨j,hj,rfl⟩:=List.mem_iff_getElem.1 ht
     exact H.out j _ (by have:=Hn.out;omega) (List.getElem?_eq_getElem hj)
    simp [dc,this]
   go_wp2
   go_ret
   exact ⟨by rw [Hr.out];rfl,hK⟩
end
section
open Go.RowKit Go.Extern.Stop Go.Stop Go.Extern
theorem AZ (v:Value) (w:World):(Extern.ReflectliteType.typeOf #[.iface 284 v]).run Tryz.prog w = .ok (.iface 152 (.agg #[.pointer (some ⟨7,284,none⟩)])) w:=by kernel_rfl
theorem A1 (w:World):(callFunc 312 #[.agg #[.pointer (some ⟨7,284,none⟩)]]).run Tryz.prog w = .ok (.value (.bool true)) w:=by kernel_rfl
theorem A2 (v:Value) (w:World):(Go.method 436 152 v "Comparable").run Tryz.prog w = .ok (312,v) w:=by kernel_rfl
theorem A7:(Tryz.prog.info? 284).map (·.comparable)=some true:=by kernel_rfl
theorem A9:(Tryz.prog.info? 324).map (·.size)=some 1:=by kernel_rfl
theorem JN (v:Value) (xT:TypeId) (w:World):(Instr.typeAssert (.iface 284 v) xT 206 true).run Tryz.prog w = .ok (.tuple #[.nilIface,.bool false]) w:=run_typeAssert_lacksB Tryz.underlying206 (by kernel_rfl) (by kernel_rfl) v xT w
theorem JO (v:Value) (xT:TypeId) (w:World):(Instr.typeAssert (.iface 284 v) xT 160 true).run Tryz.prog w = .ok (.tuple #[.nilIface,.bool false]) w:=run_typeAssert_lacksB Tryz.underlying160 (by kernel_rfl) (by kernel_rfl) v xT w
theorem JP (v:Value) (xT:TypeId) (w:World):(Instr.typeAssert (.iface 284 v) xT 162 true).run Tryz.prog w = .ok (.tuple #[.nilIface,.bool false]) w:=run_typeAssert_lacksB Tryz.underlying162 (by kernel_rfl) (by kernel_rfl) v xT w
set_option maxHeartbeats 1000000 in
theorem JQ (a:Addr) (w:World) :
  Calls Tryz.prog 80 #[.iface 284 (.pointer (some a)),.iface 284 (.pointer (some a))] w fun e w'=>e = .returned (.bool true) /\ w'=w:=by
 obtain ⟨i,hi,hcmp⟩:=Option.map_eq_some_iff.1 A7
 obtain ⟨j,hj,hjs⟩:=Option.map_eq_some_iff.1 A9
 have h8 := @run_callFunc_extern Tryz.prog 102 _ Extern.ReflectliteType.typeOf Tryz.func102 (by kernel_rfl) (by kernel_rfl) (by kernel_rfl) (by kernel_rfl)
 have tT:=AZ
 have cT:=A1
 have mR:=A2
 have heq:=run_eql_iface_ptr_same (P:=Tryz.prog) w a Tryz.underlying63 Tryz.underlying284 hi hcmp hj
 go_enter Tryz.func80,Tryz.ntmps80
 go_wp2
 refine wp_loop_rounds 1 ?_
 rw [rounds_succ]
 go_wp2
 go_ret
 exact ⟨rfl,rfl⟩
theorem JR (b:Addr) (w:World) :
  Calls Tryz.prog 80 #[.nilIface,.iface 284 (.pointer (some b))] w fun e w'=>e = .returned (.bool false) /\ w'=w:=by
 have hn:=run_eql_iface_nil_left (P:=Tryz.prog) w 284 (.pointer (some b)) Tryz.underlying63
 go_enter Tryz.func80,Tryz.ntmps80
 go_wp2
 go_ret
 exact ⟨rfl,rfl⟩
set_option maxHeartbeats 1000000 in
theorem JS (a b:Addr) (ca cb:Array Value) (ta tb:TypeId) (w:World) (hne:a≠b) (ha:w.heap[a.block]?=some (.cells ca ta (0,0))) (hb:w.heap[b.block]?=some (.cells cb tb (0,0))) :
  Calls Tryz.prog 80 #[.iface 284 (.pointer (some a)),.iface 284 (.pointer (some b))] w fun e w'=>e = .returned (.bool false) /\ w'=w:=by
 obtain ⟨i,hi,hcmp⟩:=Option.map_eq_some_iff.1 A7
 obtain ⟨j,hj,hjs⟩:=Option.map_eq_some_iff.1 A9
 have h8 := @run_callFunc_extern Tryz.prog 102 _ Extern.ReflectliteType.typeOf Tryz.func102 (by kernel_rfl) (by kernel_rfl) (by kernel_rfl) (by kernel_rfl)
 have tT:=AZ
 have cT:=A1
 have mR:=A2
 have nE:=JN
 have uE:=JO
 have vE:=JP
 have heq:=run_eql_iface_ptr_other (P:=Tryz.prog) w Tryz.underlying63 Tryz.underlying284 hi hcmp hj (by rw [hjs];decide) hne ha hb
 go_enter Tryz.func80,Tryz.ntmps80
 go_wp2
 refine wp_loop_rounds 1 ?_
 rw [rounds_succ]
 go_wp2
 go_ret
 exact ⟨rfl,rfl⟩
structure cQ (w:World) (er:Nat->Addr):Prop where
 var:∀ k,1 <= k->k <= 6->w.cell? ⟨k,0,none⟩=some (.iface 284 (.pointer (some (er k))))
 low:6 < w.heap.size
 apart:∀ j k,1 <= j->j <= 6->1 <= k->k <= 6->j≠k->er j≠er k
 lies:∀ k,1 <= k->k <= 6->∃ c t,w.heap[(er k).block]?=some (.cells c t (0,0))
theorem cQ.keeps {w w':World} {er:Nat->Addr} (h:cQ w er) (k:aa w w'):cQ w' er:=by
 refine ⟨fun j h1 h2=>(k.cells j 0 (by have:=h.low;omega)).trans (h.var j h1 h2),Nat.lt_of_lt_of_le h.low k.size,h.apart,fun j h1 h2 => ?_⟩
 obtain ⟨c,t,e⟩:=h.lies j h1 h2
 exact ⟨c,t,(Below.block k _ (Array.getElem?_eq_some_iff.1 e).1).trans e⟩
def gJ (er:Nat->Addr) (n:Nat):Value:=if n=0 then .nilIface else .iface 284 (.pointer (some (er n)))
theorem oS {w:World} {er:Nat->Addr} (h:cQ w er) (n k:Nat) (hn:n <= 6) (h1:1 <= k) (h6:k <= 6) :
  Calls Tryz.prog 80 #[gJ er n,.iface 284 (.pointer (some (er k)))] w fun e w'=>e = .returned (.bool (n==k)) /\ w'=w:=by
 unfold gJ
 by_cases h0:n=0
 ·subst h0
  rw [if_pos rfl,show ((0:Nat)==k)=false from by simp;omega]
  exact JR _ _
 ·rw [if_neg h0]
  by_cases hk:n=k
  ·subst hk
   rw [show (n==n)=true from by simp]
   exact JQ _ _
  ·obtain ⟨c1,t1,e1⟩:=h.lies n (by omega) hn
   obtain ⟨c2,t2,e2⟩:=h.lies k h1 h6
   rw [show (n==k)=false from by simpa using hk]
   exact JS _ _ c1 c2 t1 t2 w (h.apart n k (by omega) hn h1 h6 hk) e1 e2
set_option maxHeartbeats 1000000 in
theorem Gn {w:World} {er:Nat->Addr} (h:cQ w er) (n:Nat) (hn:n <= 6) :
  Calls Tryz.prog 37 #[gJ er n] w fun e w'=>e = .returned (.int .i64 (n:Int)) /\ w'=w:=by
 have c1:=oS h n 1 hn (by omega) (by omega)
 have c2:=oS h n 2 hn (by omega) (by omega)
 have c3:=oS h n 3 hn (by omega) (by omega)
 have c4:=oS h n 4 hn (by omega) (by omega)
 have c5:=oS h n 5 hn (by omega) (by omega)
 have c6:=oS h n 6 hn (by omega) (by omega)
 have v1:=h.var 1 (by omega) (by omega)
 have v2:=h.var 2 (by omega) (by omega)
 have v3:=h.var 3 (by omega) (by omega)
 have v4:=h.var 4 (by omega) (by omega)
 have v5:=h.var 5 (by omega) (by omega)
 have v6:=h.var 6 (by omega) (by omega)
 generalize gJ er n=ev at *
 generalize er 1=a1 at *
 generalize er 2=a2 at *
 generalize er 3=a3 at *
 generalize er 4=a4 at *
 generalize er 5=a5 at *
 generalize er 6=a6 at *
 clear h
 have go:n=0∨n=1∨n=2∨n=3∨n=4∨n=5∨n=6:=by omega
 clear hn
 rcases go with rfl | rfl | rfl | rfl | rfl | rfl | rfl
 all_goals
  go_enter Tryz.func37,Tryz.ntmps37
  go_wp2_with first
   | (go_at_call 80;refine c1.mono ?_;rintro e w' ⟨rfl,rfl⟩;clear c1)
   | (go_at_call 80;refine c2.mono ?_;rintro e w' ⟨rfl,rfl⟩;clear c2)
   | (go_at_call 80;refine c3.mono ?_;rintro e w' ⟨rfl,rfl⟩;clear c3)
   | (go_at_call 80;refine c4.mono ?_;rintro e w' ⟨rfl,rfl⟩;clear c4)
   | (go_at_call 80;refine c5.mono ?_;rintro e w' ⟨rfl,rfl⟩;clear c5)
   | (go_at_call 80;refine c6.mono ?_;rintro e w' ⟨rfl,rfl⟩;clear c6)
  go_ret
  exact ⟨rfl,rfl⟩
end
end Go.Proofs.YteagpjlgjfaclaaGreatDoor
