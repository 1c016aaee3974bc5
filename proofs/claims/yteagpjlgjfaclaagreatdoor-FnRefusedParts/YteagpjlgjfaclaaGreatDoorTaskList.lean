/-
  Lists of tasks: the laws' own helpers, and what the model's
-/
import Derived.Test.YteagpjlgjfaclaaGreatDoorTaskSpec
import Derived.Test.YteagpjlgjfaclaaGreatDoorPlain1
namespace Go.Proofs.YteagpjlgjfaclaaGreatDoor
set_option maxRecDepth 100000
open Go.RowKit
attribute [local go_sem] Keeps.refl Keeps.alloc Keeps.drew Keeps.drewN
abbrev Ts (w:World) (a:Option Addr) (ts:List Tsk):Prop:=Lies 14 tc w a ts
theorem qbP {α:Type} {xs:List α} {k:Nat} (h:k < xs.length):∃ x,xs[k]?=some x:=⟨xs[k],List.getElem?_eq_getElem h⟩
def qau (ts:List Tsk) (no:Int):Int:=match ts.findIdx? (fun t=>t.no==no) with
 | some i=>i
 | none => -1
set_option maxHeartbeats 1000000 in
theorem qmw (a:Option Addr) (cap:Nat) (ts:List Tsk) (no:Int) (w:World) (hl:ts.length <= maxLen) (hs:Ts w a ts) :
  Calls Tryz.prog 71 #[.slice a ts.length cap,.int .i64 no] w fun e w'=>e = .returned (.int .i64 (qau ts no)) /\ Keeps w w':=by
 unfold maxLen at hl
 generalize hn:ts.length=n at hl
 have Hn:Hid (ts.length=n):=hn
 clear hn
 go_enter Tryz.func71,Tryz.ntmps71
 go_wp2
 go_loopw [5] (fun i wr=>∃ k:Nat,k <= n /\ i = .int .i64 k /\ Keeps w wr /\ Hid (∀ j t,j < k->ts[j]?=some t->(t.no==no)=false)) (fun i _=>n - (intOf i).toNat)
 case atStart=>exact ⟨0,Nat.zero_le _,rfl,Keeps.refl _,fun j t hj=>by omega⟩
 case round =>
  obtain ⟨k,hk,rfl,hK,H⟩:=hrel
  by_cases hlt:k < n
  ·obtain ⟨t,ht⟩:=qbP (xs:=ts) (k:=k) (by rw [Hn.out];exact hlt)
   obtain ⟨b,off,rfl,r0,r1⟩:=hs.at ht (by omega)
   have hlt':(k:Int) < (n:Int):=by omega
   have Ht:Hid (ts[k]?=some t):=ht
   clear hs ht
   cases hq:(t.no==no)
   ·go_wp2
    exact ⟨⟨k+1,by omega,by go_num,hK,fun j s hj hs=>by
     by_cases e:j=k
     ·subst e;rw [Ht.out] at hs;cases hs;exact hq
     ·exact H.out j s (by omega) hs⟩,by simp only [intOf];omega⟩
   ·have Hr:Hid (qau ts no=k):=by
     show _=_
     have:ts.findIdx? (fun t=>t.no==no)=some k:=by
      rw [List.findIdx?_eq_some_iff_getElem]
      have hk':k < ts.length:=by rw [Hn.out];exact hlt
      have e1:ts[k]=t:=by have:=Ht.out;rw [List.getElem?_eq_getElem hk'] at this;simpa using this
      refine ⟨hk',by rw [e1];exact hq,fun j hj => ?_⟩
      have:=H.out j ts[j] (by omega) (List.getElem?_eq_getElem _)
      simp [this]
     simp [qau,this]
    go_wp2
    go_ret
    exact ⟨by rw [Hr.out];rfl,hK⟩
  ·have Hr:Hid (qau ts no = -1):=by
    show _=_
    have:ts.findIdx? (fun t=>t.no==no)=none:=by
     rw [List.findIdx?_eq_none_iff]
     intro t ht
     obtain ⟨j,hj,rfl⟩:=List.mem_iff_getElem.1 ht
     exact H.out j _ (by have:=Hn.out;omega) (List.getElem?_eq_getElem hj)
    simp [qau,this]
   go_wp2
   go_ret
   exact ⟨by rw [Hr.out];rfl,hK⟩
end Go.Proofs.YteagpjlgjfaclaaGreatDoor
