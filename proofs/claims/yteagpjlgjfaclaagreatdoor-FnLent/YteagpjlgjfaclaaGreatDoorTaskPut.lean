/-
  A task is put among others: the contract of the model's Tas
-/
import Derived.Test.YteagpjlgjfaclaaGreatDoorImplHead
import Derived.Test.YteagpjlgjfaclaaGreatDoorCur
namespace Go.Proofs.YteagpjlgjfaclaaGreatDoor
set_option maxRecDepth 100000
open Go.RowKit
attribute [local go_sem] aa.refl aa.alloc aa.drew aa.drewN
def ins (t:ag):List ag->List ag
 | []=>[t]
 | x::r=>if decide (t.no <= x.no) then t::x::r else x::ins t r
theorem qY (t:ag) (ts:List ag):(ins t ts).length=ts.length+1:=by
 induction ts with
 | nil=>rfl
 | cons x r ih=>simp only [ins];split <;> simp [ih]
def cg (ts:List ag) (t:ag):List ag:=if di ts then (if di (ins t ts) then ins t ts else ts) else []
def dP (ts:List ag) (t:ag):Bool:=di ts&&di (ins t ts)
theorem xw {ts:List ag} (h:di ts=true):ts.length <= 12:=by
 simp only [di,Bool.and_eq_true,decide_eq_true_eq] at h;exact h.2
theorem dC (t:ag):(tc t).size=14:=rfl
theorem ja (t:ag):∀ u∈(tc t).toList,u.oneCell'=true:=by
 intro u hu
 simp at hu
 rcases hu with rfl | rfl | rfl | rfl | rfl | rfl | rfl | rfl | rfl | rfl | rfl | rfl | rfl | rfl <;> rfl
abbrev dH (w:World) (base:Nat) (v:Value) (ts:List ag):Prop:=Own 43 14 tc w base v ts
set_option maxHeartbeats 4000000 in
theorem zh (ba off cap:Nat) (ts:List ag) (t:ag) (w:World) (hl:ts.length <= maxLen) (hs:Ts w (some ⟨ba,off,none⟩) ts) :
  Calls Tryz.prog 99 #[.slice (some ⟨ba,off,none⟩) ts.length cap,tk t] w fun e w'=>∃ v,e = .returned (.tuple #[v,.bool (dP ts t)]) /\ dH w' w.heap.size v (cg ts t) /\ aa w w':=by
 generalize hn:ts.length=n at *
 have Hn:Hid (ts.length=n):=hn
 clear hn
 go_enter Tryz.func99,Tryz.ntmps99
 go_wp2_with fail
 have kW:aa w (w.alloc (.cells (tc t) 43)):=(aa.refl _).alloc _
 have B0:=ai.new w (tc t) 43
 have hs0:=hs.keeps kW
 refine ((Hn.out ▸ pr (some ⟨ba,off,none⟩) cap ts _ (by rw [Hn.out];exact hl) hs0:Calls _ _ _ _ _)).mono ?_
 rintro e w1 ⟨rfl,k1⟩
 have B1:=B0.keeps k1
 have hs1:=hs0.keeps k1
 have i9:=kW.trans k1
 clear kW B0 hs0 k1 hs
 cases hb:di ts
 ·have Hb:Hid (dP ts t=false):=by show _=_;simp [dP,hb]
  have Hp:Hid (cg ts t=[]):=by show _=_;simp [cg,hb]
  go_wp2
  go_ret2
  exact ⟨_,by rw [Hb.out];rfl,by rw [Hp.out];exact Own.new 43 14 tc w1 i9.size,i9.alloc _⟩
 ·have h12:n <= 12:=by rw [<- Hn.out];exact xw hb
  have mV:Hid (di ts=true):=hb
  clear hb
  go_wp2_with fail
  have kz:aa w1 (w1.alloc (.cells #[] 43)):=(aa.refl _).alloc _
  have dQ:dH (w1.alloc (.cells #[] 43)) w1.heap.size (.slice (some ⟨w1.heap.size,0,none⟩) 0 0) []:=Own.new 43 14 tc w1 (Nat.le_refl _)
  generalize w1.alloc (.cells #[] 43)=W at *
  have b0:∀ w',aa w1 w'->∀ k,w'.cell? ⟨w.heap.size,k,none⟩=(tc t)[k]?:=fun w' h=>(B1.keeps h).cells
  clear B1
  go_loopw [6,7,8] (fun v p i wr=>∃ (k:Nat) (put:Bool) (xs:List ag),k <= n /\ i = .int .i64 k /\ p = .bool put /\ dH wr w1.heap.size v xs /\ aa w1 wr /\ Hid (xs++(if put then ts.drop k else ins t (ts.drop k))=ins t ts)) (fun _ _ i _=>n - (intOf i).toNat)
  case atStart=>exact ⟨0,false,[],Nat.zero_le _,rfl,rfl,dQ,kz,by show _=_;simp⟩
  case round =>
   obtain ⟨k,put,xs,hk',rfl,rfl,hown,hk,HI⟩:=hrel
   clear dQ kz
   have hxl:xs.length <= 13:=by
    have:=congrArg List.length HI.out
    rw [List.length_append,qY,Hn.out] at this
    omega
   by_cases hlt:k < n
   ·obtain ⟨x,hx⟩:=iW (xs:=ts) (k:=k) (by rw [Hn.out];exact hlt)
    have Hd:Hid (ts.drop k=x::ts.drop (k+1)):=by
     show _=_
     rw [List.drop_eq_getElem_cons (by rw [Hn.out];exact hlt)]
     congr 1
     rw [List.getElem?_eq_getElem (by rw [Hn.out];exact hlt)] at hx
     simpa using hx
    obtain ⟨ba',off',e',r0,r1⟩:=hs1.at hx (by omega)
    simp only [Option.some.injEq,Addr.mk.injEq] at e'
    obtain ⟨rfl,rfl,-⟩:=e'
    have hlt':(k:Int) < (n:Int):=by omega
    have HS:Hid (cH 14 tc w1 (some ⟨ba,off,none⟩) ts):=hs1
    clear hx hs1
    cases put
    ·cases hd:decide (t.no <= x.no)
     ·go_wp2
      refine wp_region_held_drew (S:=(fun w'=>aa w1 w')) (by kernel_rfl) ?_ (fun hHeld => ?_)
      ·exact aa.drew (by assumption)
      refine ad.go [0,1,2,3,4,5,6,7,8,9,10,11] ?_
      iterate 12 (refine aJ (h := ?_);try simp only [ar])
      refine ad.nil ?_
      refine wpAnyH_done (by kernel_rfl) ?_ _
      go_wp2_with (at_builtin;(refine iE rfl _ _ 24 rfl w1 43 (tk ag.zero) 14 112 tc Tryz.underlying24 (by kernel_rfl) rfl (by decide) dC ja _ xs rfl wr hown hk (((aa.refl _).alloc _).drew) x _ 1 ((ai.new _ _ _).keeps (aa.refl _).drew) rfl ?c1 ?c2 ?_))
      case c1=>unfold maxLen;omega
      case c2=>omega
      intro v' w5 hown5 k5 _
      have HO:Hid (dH w5 w1.heap.size v' (xs++[x])):=hown5
      clear hown5 hown
      go_wp2
      refine ⟨⟨k+1,false,xs++[x],by omega,by go_num,rfl,HO.out,k5,?_⟩,by simp only [intOf];omega⟩
      show _=_
      rw [<- HI.out,Hd.out]
      simp [ins,hd]
     ·go_wp2
      refine wp_region_held_drew (S:=(fun w'=>aa w1 w')) (by kernel_rfl) ?_ (fun hHeld => ?_)
      ·exact aa.drew (by assumption)
      refine ad.go [0,1,2,3,4,5,6,7,8,9,10,11] ?_
      iterate 12 (refine aJ (h := ?_);try simp only [ar])
      refine ad.nil ?_
      refine wpAnyH_done (by kernel_rfl) ?_ _
      go_wp2_with (at_builtin;(refine iE rfl _ _ 24 rfl w1 43 (tk ag.zero) 14 112 tc Tryz.underlying24 (by kernel_rfl) rfl (by decide) dC ja _ xs rfl wr hown hk (((aa.refl _).alloc _).drew) t _ 1 ((ai.new _ _ _).keeps (aa.refl _).drew) rfl ?c1 ?c2 ?_))
      case c1=>unfold maxLen;omega
      case c2=>omega
      intro v' w5 hown5 k5 _
      have HO:Hid (dH w5 w1.heap.size v' (xs++[t])):=hown5
      clear hown
      go_wp2_with (at_builtin;(refine iE rfl _ _ 24 rfl w1 43 (tk ag.zero) 14 112 tc Tryz.underlying24 (by kernel_rfl) rfl (by decide) dC ja _ (xs++[t]) rfl w5 hown5 k5 ((aa.refl _).alloc _) x _ 1 (ai.new _ _ _) rfl ?c1 ?c2 ?_))
      case c1=>unfold maxLen;simp;omega
      case c2=>simp;omega
      intro v6 w6 hown6 k6 _
      have OO:Hid (dH w6 w1.heap.size v6 (xs++[t,x])):=hown6
      clear hown5 hown6
      go_wp2
      refine ⟨⟨k+1,true,xs++[t,x],by omega,by go_num,rfl,OO.out,k6,?_⟩,by simp only [intOf];omega⟩
      show _=_
      rw [<- HI.out,Hd.out]
      simp [ins,hd]
    ·go_wp2
     refine wp_region_held_drew (S:=(fun w'=>aa w1 w')) (by kernel_rfl) ?_ (fun hHeld => ?_)
     ·exact aa.drew (by assumption)
     refine ad.go [0,1,2] ?_
     iterate 3 (refine aJ (h := ?_);try simp only [ar])
     refine ad.nil ?_
     refine ad.go [3,4,5,6,7,8,9,10] ?_
     iterate 8 (refine dB (h := ?_);try simp only [ar])
     refine ad.nil ?_
     refine cU 11 (h := ?_)
     try simp only [ar]
     refine wpAnyH_done (by kernel_rfl) ?_ _
     go_wp2_with (at_builtin;(refine iE rfl _ _ 24 rfl w1 43 (tk ag.zero) 14 112 tc Tryz.underlying24 (by kernel_rfl) rfl (by decide) dC ja _ xs rfl wr hown hk (((aa.refl _).alloc _).drew) x _ 1 ((ai.new _ _ _).keeps (aa.refl _).drew) rfl ?c1 ?c2 ?_))
     case c1=>unfold maxLen;omega
     case c2=>omega
     intro v' w5 hown5 k5 _
     have HO:Hid (dH w5 w1.heap.size v' (xs++[x])):=hown5
     clear hown5 hown
     go_wp2
     refine ⟨⟨k+1,true,xs++[x],by omega,by go_num,rfl,HO.out,k5,?_⟩,by simp only [intOf];omega⟩
     show _=_
     rw [<- HI.out,Hd.out]
     simp
   ·have e:k=n:=by omega
    subst e
    have hdn:ts.drop k=[]:=List.drop_eq_nil_of_le (by rw [Hn.out];exact Nat.le_refl _)
    have hI:=HI.out
    rw [hdn] at hI
    clear hdn HI hk' hlt
    cases put
    ·have HI:Hid (xs++[t]=ins t ts):=by
      show _=_
      simpa [ins] using hI
     clear hI
     go_wp2_with (at_builtin;(refine iE rfl _ _ 24 rfl w1 43 (tk ag.zero) 14 112 tc Tryz.underlying24 (by kernel_rfl) rfl (by decide) dC ja _ xs rfl wr hown hk ((aa.refl _).alloc _) t _ 1 (ai.new _ _ _) rfl ?c1 ?c2 ?_))
     case c1=>unfold maxLen;omega
     case c2=>omega
     intro v2 w2 hown2 hk2 _
     clear hown hk
     have hown:=hown2
     have hk:=hk2
     obtain ⟨ys,HY⟩:∃ ys,Hid (ys=xs++[t]):=⟨_,rfl⟩
     rw [<- HY.out] at hown
     have HX0:Hid (ys=ins t ts):=HY.out.trans HI.out
     clear hown2 hk2 HI HY hxl xs
     revert HX0
     revert hown
     generalize ys=xs
     intro hown HX
     obtain ⟨av,cv,rfl,hlies,hcv,hmv⟩:=hown.slice dC
     have hxl:Hid (xs.length=ts.length+1):=by show _=_;rw [HX.out,qY]
     go_wp2_with fail
     refine (pr av cv xs _ (by rw [hxl.out,Hn.out];unfold maxLen;omega) hlies).mono ?_
     rintro e w3 ⟨rfl,k3⟩
     have hown3:=hown.keeps k3
     have jM:=hk.trans k3
     have hX:=HX.out
     subst hX
     cases hq:di (ins t ts)
     ·have Hb:Hid (dP ts t=false):=by show _=_;simp [dP,hq]
      have Hp:Hid (cg ts t=ts):=by show _=_;simp [cg,hq,mV.out]
      clear hown hown3 hlies
      have pq:=hs1.keeps jM
      go_wp2_with (at_builtin;(refine vi rfl _ _ 24 rfl w3 43 (tk ag.zero) 14 112 tc Tryz.underlying24 (by kernel_rfl) rfl (by decide) dC ja _ [] rfl (Own.new 43 14 tc w3 (Nat.le_refl _)) ((aa.refl _).alloc _) ba off cap ts (by rw [Hn.out];rfl) (pq.keeps ((aa.refl _).alloc _)) ?c1 ?c2 ?_))
      case c1=>rw [Hn.out];unfold maxLen;simp;omega
      case c2=>rw [Hn.out];simp;omega
      intro v' w5 hown5 k5 _
      have HO:Hid (dH w5 w3.heap.size v' ([]++ts)):=hown5
      clear hown5
      go_wp2
      go_ret2
      exact ⟨_,by rw [Hb.out];rfl,by rw [Hp.out];exact Own.base HO.out (i9.trans jM).size,(i9.trans jM).trans k5⟩
     ·have Hb:Hid (dP ts t=true):=by show _=_;simp [dP,hq,mV.out]
      have Hp:Hid (cg ts t=ins t ts):=by show _=_;simp [cg,hq,mV.out]
      go_wp2
      go_ret2
      exact ⟨_,by rw [Hb.out];rfl,by rw [Hp.out];exact Own.base hown3 i9.size,i9.trans jM⟩
    ·have HX:Hid (xs=ins t ts):=by
      show _=_
      simpa using hI
     clear hI hxl
     obtain ⟨av,cv,rfl,hlies,hcv,hmv⟩:=hown.slice dC
     have hxl:Hid (xs.length=ts.length+1):=by show _=_;rw [HX.out,qY]
     go_wp2_with fail
     refine (pr av cv xs _ (by rw [hxl.out,Hn.out];unfold maxLen;omega) hlies).mono ?_
     rintro e w3 ⟨rfl,k3⟩
     have hown3:=hown.keeps k3
     have jM:=hk.trans k3
     have hX:=HX.out
     subst hX
     cases hq:di (ins t ts)
     ·have Hb:Hid (dP ts t=false):=by show _=_;simp [dP,hq]
      have Hp:Hid (cg ts t=ts):=by show _=_;simp [cg,hq,mV.out]
      clear hown hown3 hlies
      have pq:=hs1.keeps jM
      go_wp2_with (at_builtin;(refine vi rfl _ _ 24 rfl w3 43 (tk ag.zero) 14 112 tc Tryz.underlying24 (by kernel_rfl) rfl (by decide) dC ja _ [] rfl (Own.new 43 14 tc w3 (Nat.le_refl _)) ((aa.refl _).alloc _) ba off cap ts (by rw [Hn.out];rfl) (pq.keeps ((aa.refl _).alloc _)) ?c1 ?c2 ?_))
      case c1=>rw [Hn.out];unfold maxLen;simp;omega
      case c2=>rw [Hn.out];simp;omega
      intro v' w5 hown5 k5 _
      have HO:Hid (dH w5 w3.heap.size v' ([]++ts)):=hown5
      clear hown5
      go_wp2
      go_ret2
      exact ⟨_,by rw [Hb.out];rfl,by rw [Hp.out];exact Own.base HO.out (i9.trans jM).size,(i9.trans jM).trans k5⟩
     ·have Hb:Hid (dP ts t=true):=by show _=_;simp [dP,hq,mV.out]
      have Hp:Hid (cg ts t=ins t ts):=by show _=_;simp [cg,hq,mV.out]
      go_wp2
      go_ret2
      exact ⟨_,by rw [Hb.out];rfl,by rw [Hp.out];exact Own.base hown3 i9.size,i9.trans jM⟩
end Go.Proofs.YteagpjlgjfaclaaGreatDoor
