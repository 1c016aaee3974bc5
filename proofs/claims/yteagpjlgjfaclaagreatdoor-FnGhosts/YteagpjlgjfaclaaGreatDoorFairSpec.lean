/-
  Fair shares: contracts of the model's functions.
-/
import Derived.Test.YteagpjlgjfaclaaGreatDoorLockAsk
import Derived.Test.YteagpjlgjfaclaaGreatDoorPlain1
namespace Go.Proofs.YteagpjlgjfaclaaGreatDoor
set_option maxRecDepth 100000
open Go.RowKit
attribute [local go_sem] aa.refl aa.alloc aa.drew aa.drewN
theorem lB (a b:Int) (w:World) :
  Calls Tryz.prog 56 #[.int .i64 a,.int .i64 b] w fun e w'=>e = .returned (.int .i64 (max a b)) /\ w'=w:=by
 by_cases h:a > b
 ·have Hr:Hid (max a b=a):=by show _=_;omega
  go_enter Tryz.func56,Tryz.ntmps56
  go_wp2
  go_ret
  exact ⟨by rw [Hr.out];rfl,rfl⟩
 ·have Hr:Hid (max a b=b):=by show _=_;omega
  have hd:decide (a > b)=false:=by simpa using h
  go_enter Tryz.func56,Tryz.ntmps56
  go_wp2
  go_ret
  exact ⟨by rw [Hr.out];rfl,rfl⟩
theorem lA (t:ar) (w:World) :
  Calls Tryz.prog 184 #[tk t] w fun e w'=>e = .returned (.bool (gf t)) /\ aa w w':=by
 go_enter Tryz.func184,Tryz.ntmps184
 go_wp2_with fail
 refine (kH t _).mono ?_
 rintro e w1 ⟨rfl,k1⟩
 have B1:=(aq.new w (tc t) 43).keeps k1
 have K1:aa w w1:=((aa.refl w).alloc _).trans k1
 obtain ⟨_,b1,b2⟩:=B1
 clear k1
 cases hb:bN t
 ·have Hr:Hid (gf t=false):=by show _=_;simp [gf,hb]
  go_wp2
  go_ret
  exact ⟨by rw [Hr.out];rfl,K1⟩
 ·have Hr:Hid (gf t=(t.cls==3)):=by show _=_;simp [gf,hb]
  go_wp2
  go_ret
  exact ⟨by rw [Hr.out];rfl,K1⟩
set_option maxHeartbeats 2000000 in
theorem Eo (a b:ar) (w:World) :
  Calls Tryz.prog 209 #[tk a,tk b] w fun e w'=>e = .returned (.bool (iG a b)) /\ aa w w':=by
 go_enter Tryz.func209,Tryz.ntmps209
 go_wp2_with fail
 have kW:aa w ((w.alloc (.cells (tc a) 43)).alloc (.cells (tc b) 43)):=((aa.refl w).alloc _).alloc _
 have r1:∀ w',aa ((w.alloc (.cells (tc a) 43)).alloc (.cells (tc b) 43)) w'->∀ k,w'.cell? ⟨w.heap.size,k,none⟩=(tc a)[k]?:=fun w' h=>(((aq.new w (tc a) 43).alloc _).keeps h).cells
 have r2:∀ w',aa ((w.alloc (.cells (tc a) 43)).alloc (.cells (tc b) 43)) w'->∀ k,w'.cell? ⟨w.heap.size+1,k,none⟩=(tc b)[k]?:=fun w' h=>by
  have:=(aq.new (w.alloc (.cells (tc a) 43)) (tc b) 43).keeps h
  simp only [World.size_alloc] at this
  exact this.cells
 generalize (w.alloc (.cells (tc a) 43)).alloc (.cells (tc b) 43)=W at *
 refine (lA a _).mono ?_
 rintro e w1 ⟨rfl,k1⟩
 cases ha:gf a
 ·have Hr:Hid (iG a b=false):=by show _=_;simp [iG,ha]
  go_wp2
  go_ret
  exact ⟨by rw [Hr.out];rfl,kW.trans k1⟩
 ·go_wp2_with fail
  refine (lA b _).mono ?_
  rintro e w2 ⟨rfl,k2⟩
  have K2:=k1.trans k2
  cases hb:gf b
  ·have Hr:Hid (iG a b=false):=by show _=_;simp [iG,hb]
   go_wp2
   go_ret
   exact ⟨by rw [Hr.out];rfl,kW.trans K2⟩
  ·cases h1:decide (a.v < b.v)
   ·cases h2:(a.v==b.v)
    ·have Hr:Hid (iG a b=false):=by show _=_;simp only [iG,h1,h2,Bool.false_and,Bool.or_false,Bool.and_false]
     go_wp2
     go_ret
     exact ⟨by rw [Hr.out];rfl,kW.trans K2⟩
    ·have Hr:Hid (iG a b=decide (a.no < b.no)):=by show _=_;simp only [iG,ha,hb,h1,h2,Bool.true_and,Bool.false_or]
     go_wp2
     go_ret
     exact ⟨by rw [Hr.out];rfl,kW.trans K2⟩
   ·have Hr:Hid (iG a b=true):=by show _=_;simp only [iG,ha,hb,h1,Bool.true_or,Bool.and_true]
    go_wp2
    go_ret
    exact ⟨by rw [Hr.out];rfl,kW.trans K2⟩
set_option maxHeartbeats 2000000 in
theorem qZ (t:ar) (x:Int) (w:World) :
  Calls Tryz.prog 214 #[tk t,.int .i64 x] w fun e w'=>e = .returned (tk (j7 t x)) /\ aa w w':=by
 cases hb:aH x 0 100000000
 ·have Hn:Hid (j7 t x=t):=by show _=_;simp [j7,hb]
  go_enter Tryz.func214,Tryz.ntmps214
  go_wp2_with (go_at_call 27;refine (bq _ _ _ _).mono ?_;rintro e w' ⟨rfl,rfl⟩;rw [hb])
  exact bodyPost_ret (v:=tk t) (by simp [results,Tryz.results214,go_sem]) rfl ⟨by rw [Hn.out],by repeat (first | exact aa.refl _ | refine aa.alloc ?_ _ | refine aa.drewN ?_ _ | refine aa.setCell ?_ (by simp [go_sem]) _)⟩
 ·have Hn:Hid (j7 t x={ t with v:=x }):=by show _=_;simp [j7,hb]
  go_enter Tryz.func214,Tryz.ntmps214
  go_wp2_with (go_at_call 27;refine (bq _ _ _ _).mono ?_;rintro e w' ⟨rfl,rfl⟩;rw [hb])
  exact bodyPost_ret (v:=tk { t with v:=x }) (by simp [results,Tryz.results214,go_sem]) rfl ⟨by rw [Hn.out],by repeat (first | exact aa.refl _ | refine aa.alloc ?_ _ | refine aa.drewN ?_ _ | refine aa.setCell ?_ (by simp [go_sem]) _)⟩
end Go.Proofs.YteagpjlgjfaclaaGreatDoor
