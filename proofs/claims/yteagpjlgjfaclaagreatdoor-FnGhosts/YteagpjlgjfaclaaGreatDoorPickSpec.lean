/-
  Picking: contracts of the model's functions.
-/
import Derived.Test.YteagpjlgjfaclaaGreatDoorPickPure
import Derived.Test.YteagpjlgjfaclaaGreatDoorSumSpec
import Derived.Test.YteagpjlgjfaclaaGreatDoorDueSpec
import Derived.Test.YteagpjlgjfaclaaGreatDoorFixSpec
import Derived.Test.YteagpjlgjfaclaaGreatDoorFairSpec
import Derived.Deep.RegionHeld3
namespace Go.Proofs.YteagpjlgjfaclaaGreatDoor
set_option maxRecDepth 100000
open Go.RowKit
attribute [local go_sem] aa.refl aa.alloc aa.drew aa.drewN
set_option maxHeartbeats 2000000 in
theorem lU (a b:ar) (w:World) :
  Calls Tryz.prog 183 #[tk a,tk b] w fun e w'=>e = .returned (.bool (dh a b)) /\ aa w w':=by
 go_enter Tryz.func183,Tryz.ntmps183
 go_wp2_with fail
 have kW:aa w ((w.alloc (.cells (tc a) 43)).alloc (.cells (tc b) 43)):=((aa.refl w).alloc _).alloc _
 have r1:∀ w',aa ((w.alloc (.cells (tc a) 43)).alloc (.cells (tc b) 43)) w'->∀ k,w'.cell? ⟨w.heap.size,k,none⟩=(tc a)[k]?:=fun w' h=>(((aq.new w (tc a) 43).alloc _).keeps h).cells
 have r2:∀ w',aa ((w.alloc (.cells (tc a) 43)).alloc (.cells (tc b) 43)) w'->∀ k,w'.cell? ⟨w.heap.size+1,k,none⟩=(tc b)[k]?:=fun w' h=>by
  have:=(aq.new (w.alloc (.cells (tc a) 43)) (tc b) 43).keeps h
  simp only [World.size_alloc] at this
  exact this.cells
 generalize (w.alloc (.cells (tc a) 43)).alloc (.cells (tc b) 43)=W at *
 refine (kH a _).mono ?_
 rintro e w1 ⟨rfl,k1⟩
 cases ha:bN a
 ·have Hr:Hid (dh a b=false):=by show _=_;simp [dh,ha]
  go_wp2
  go_ret
  exact ⟨by rw [Hr.out];rfl,kW.trans k1⟩
 ·go_wp2_with fail
  refine (kH b _).mono ?_
  rintro e w2 ⟨rfl,k2⟩
  have K2:=k1.trans k2
  cases hb:bN b
  ·have Hr:Hid (dh a b=false):=by show _=_;simp [dh,hb]
   go_wp2
   go_ret
   exact ⟨by rw [Hr.out];rfl,kW.trans K2⟩
  ·cases hc:(a.cls != b.cls)
   ·have Hr:Hid (dh a b=(iB a b||(iH a b||iG a b))):=by show _=_;unfold dh;rw [ha,hb,hc];rfl
    go_wp2_with fail
    refine (Dk a b _).mono ?_
    rintro e w3 ⟨rfl,k3⟩
    have K3:=K2.trans k3
    cases h1:iB a b
    ·go_wp2_with fail
     refine (Es a b _).mono ?_
     rintro e w4 ⟨rfl,k4⟩
     have K4:=K3.trans k4
     cases h2:iH a b
     ·go_wp2_with fail
      refine (Eo a b _).mono ?_
      rintro e w5 ⟨rfl,k5⟩
      have K5:=K4.trans k5
      have dE:Hid (dh a b=iG a b):=by show _=_;rw [Hr.out,h1,h2];rfl
      go_wp2
      go_ret
      exact ⟨by rw [dE.out];rfl,kW.trans K5⟩
     ·have dE:Hid (dh a b=true):=by show _=_;rw [Hr.out,h1,h2];rfl
      go_wp2
      go_ret
      exact ⟨by rw [dE.out];rfl,kW.trans K4⟩
    ·have dE:Hid (dh a b=true):=by show _=_;rw [Hr.out,h1];rfl
     go_wp2
     go_ret
     exact ⟨by rw [dE.out];rfl,kW.trans K3⟩
   ·have Hr:Hid (dh a b=decide (a.cls < b.cls)):=by show _=_;unfold dh;rw [ha,hb,hc];rfl
    go_wp2
    go_ret
    exact ⟨by rw [Hr.out];rfl,kW.trans K2⟩
structure fM (w:World) (a:Option Addr) (n cap:Nat) (ts:List ar):Prop where
 len:ts.length=n
 small:ts.length <= maxLen
 lies:Ts w a ts
section calls
variable {w w':World} {a:Option Addr} {n cap:Nat} {ts:List ar}
theorem fM.keeps (h:fM w a n cap ts) (k:aa w w'):fM w' a n cap ts:=⟨h.len,h.small,h.lies.keeps k⟩
theorem fM.aU (h:fM w a n cap ts) (x:Int) {z:Int} (hz:dc ts x=z) (k:aa w w'):Calls Tryz.prog 71 #[.slice a n cap,.int .i64 x] w' fun e w''=>e = .returned (.int .i64 z) /\ aa w' w'':=by
 have:=ID a cap ts x w' h.small (h.keeps k).lies
 rw [h.len,hz] at this
 exact this
theorem fM.fP (h:fM w a n cap ts) {z:Bool} (hz:dz ts=z) (k:aa w w'):Calls Tryz.prog 28 #[.slice a n cap] w' fun e w''=>e = .returned (.bool z) /\ aa w' w'':=by
 have:=nU a cap ts w' h.small (h.keeps k).lies
 rw [h.len,hz] at this
 exact this
theorem fM.all (h:fM w a n cap ts) (hn:0 < n):∃ b off,a=some ⟨b,off,none⟩ /\ ∀ (i:Nat) (t:ar),ts[i]?=some t->(∀ w',aa w w'->w'.cell? ⟨b,off+i*14,none⟩=some (.int .i64 t.no)) /\ ∀ w',aa w w'->∀ k,k < 14->w'.cell? ⟨b,off+i*14+k,none⟩=(tc t)[k]?:=by
 obtain ⟨t0,h0⟩:=iT (xs:=ts) (k:=0) (by rw [h.len];exact hn)
 obtain ⟨b,off,rfl,-,-⟩:=h.lies.at h0 (by omega)
 refine ⟨b,off,rfl,fun i t ht => ?_⟩
 obtain ⟨b',off',e,r0,r1⟩:=h.lies.at ht (by omega)
 simp only [Option.some.injEq,Addr.mk.injEq] at e
 obtain ⟨rfl,rfl,-⟩:=e
 exact ⟨r0,r1⟩
end calls
end Go.Proofs.YteagpjlgjfaclaaGreatDoor
