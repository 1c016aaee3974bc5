/-
  A list of tasks: the contract of the model's TasksOk.
  A task is put among others: the contract of the model's Tas
-/
import Derived.Test.YteagpjlgjfaclaaGreatDoorTaskList
import Derived.Test.YteagpjlgjfaclaaGreatDoorCur
namespace Go.Proofs.YteagpjlgjfaclaaGreatDoor
set_option maxRecDepth 100000
open Go.RowKit
attribute [local go_sem] aa.refl aa.alloc aa.drew aa.drewN
def f9:List ar->Bool
 | a::b::r=>decide (a.no < b.no)&&f9 (b::r)
 | _=>true
theorem tA (ts:List ar):f9 ts=true↔∀ j a b,ts[j]?=some a->ts[j+1]?=some b->a.no < b.no:=by
 induction ts with
 | nil=>simp [f9]
 | cons x r ih =>
  cases r with
  | nil=>simp [f9]
  | cons y r =>
   simp only [f9,Bool.and_eq_true,decide_eq_true_eq,ih]
   constructor
   ·rintro ⟨h1,h2⟩ j a b ha hb
    cases j with
    | zero=>simp at ha hb;subst ha hb;exact h1
    | succ j=>exact h2 j a b (by simpa using ha) (by simpa using hb)
   ·intro h
    exact ⟨h 0 x y rfl rfl,fun j a b ha hb=>h (j+1) a b (by simpa using ha) (by simpa using hb)⟩
def dz (ts:List ar):Bool:=ts.all bN&&f9 ts&&decide (ts.length <= 12)
theorem yy {ts:List ar} {k:Nat} {t:ar} (h:ts[k]?=some t) (ht:bN t=false):dz ts=false:=by
 have:ts.all bN=false:=by
  rw [List.all_eq_false]
  exact ⟨t,List.mem_of_getElem? h,by simp [ht]⟩
 simp [dz,this]
theorem yz {ts:List ar} {k:Nat} {s t:ar} (hs:ts[k]?=some s) (ht:ts[k+1]?=some t) (h:t.no <= s.no):dz ts=false:=by
 have:f9 ts=false:=by
  rw [Bool.eq_false_iff]
  intro e
  have:=(tA ts).1 e k s t hs ht
  omega
 simp [dz,this]
theorem yP {ts:List ar} (h1:∀ (j:Nat) (t:ar),ts[j]?=some t->bN t=true) (h2:∀ (j:Nat) (a b:ar),ts[j]?=some a->ts[j+1]?=some b->a.no < b.no):dz ts=decide (ts.length <= 12):=by
 have e1:ts.all bN=true:=by
  rw [List.all_eq_true]
  intro t ht
  obtain ⟨j,hj,rfl⟩:=List.mem_iff_getElem.1 ht
  exact h1 j _ (List.getElem?_eq_getElem hj)
 simp [dz,e1,(tA ts).2 h2]
set_option maxHeartbeats 4000000 in
theorem nU (a:Option Addr) (cap:Nat) (ts:List ar) (w:World) (hl:ts.length <= maxLen) (hs:Ts w a ts) :
  Calls Tryz.prog 28 #[.slice a ts.length cap] w fun e w'=>e = .returned (.bool (dz ts)) /\ aa w w':=by
 unfold maxLen at hl
 generalize hn:ts.length=n at hl
 have Hn:Hid (ts.length=n):=hn
 clear hn
 go_enter Tryz.func28,Tryz.ntmps28
 go_wp2
 go_loopw [3] (fun i wr=>∃ k:Nat,k <= n /\ i = .int .i64 k /\ aa w wr /\ Hid (∀ j t,j < k->ts[j]?=some t->bN t=true) /\ Hid (∀ j s t,j+1 < k->ts[j]?=some s->ts[j+1]?=some t->s.no < t.no)) (fun i _=>n - (intOf i).toNat)
 case atStart=>exact ⟨0,Nat.zero_le _,rfl,aa.refl _,fun j t hj=>by omega,fun j s t hj=>by omega⟩
 case round =>
  obtain ⟨k,hk,rfl,hK,H1,H2⟩:=hrel
  by_cases hlt:k < n
  ·obtain ⟨t,ht⟩:=iT (xs:=ts) (k:=k) (by rw [Hn.out];exact hlt)
   have hlt':(k:Int) < (n:Int):=by omega
   have Ht:Hid (ts[k]?=some t):=ht
   cases hb:bN t
   ·obtain ⟨b,off,rfl,r0,r1⟩:=hs.at ht (by omega)
    have Hr:Hid (dz ts=false):=yy ht hb
    clear hs ht
    go_wp2
    refine wp_region_held_drew (S:=(fun w'=>aa w w')) (by kernel_rfl) ?_ (fun hHeld => ?_)
    ·exact aa.drew (by assumption)
    refine ad.go [0,1,2,3] ?_
    iterate 4 (refine aM (h := ?_);try simp only [au])
    refine ad.nil ?_
    refine aR 4 (h:=fun K hK => ?_)
    go_simp
    first
     | (go_at_call 69;refine (kH t _).mono ?_;rintro e w' ⟨rfl,hkk⟩;rw [hb])
    try go_wp2_with fail
    refine hK.out _ _ ?_ fun hHeld => ?_
    ·exact aa.trans (by assumption) (by assumption)
    clear hK K
    try simp only [au]
    refine ad.go [5,6] ?_
    iterate 2 (refine aM (h := ?_);try simp only [au])
    refine ad.nil ?_
    refine ad.go [7,8,9,10,11,12,13,14,15,16,17,18,19,20,21,22] ?_
    iterate 16 (refine dK (h := ?_);try simp only [au])
    refine ad.nil ?_
    refine di 23 (h := ?_)
    try simp only [au]
    refine wpAnyH_done (by kernel_rfl) ?_ _
    go_wp2
    go_ret
    exact ⟨by rw [Hr.out];rfl,by assumption⟩
   ·rcases Nat.eq_zero_or_pos k with h0 | h0
    ·obtain ⟨b,off,rfl,r0,r1⟩:=hs.at ht (by omega)
     have hz:decide (0 < k)=false:=by simp;omega
     have H0:Hid (k=0):=h0
     clear hs ht h0
     go_wp2
     refine wp_region_held_drew (S:=(fun w'=>aa w w')) (by kernel_rfl) ?_ (fun hHeld => ?_)
     ·exact aa.drew (by assumption)
     refine ad.go [0,1,2,3] ?_
     iterate 4 (refine aM (h := ?_);try simp only [au])
     refine ad.nil ?_
     refine aR 4 (h:=fun K hK => ?_)
     go_simp
     first
      | (go_at_call 69;refine (kH t _).mono ?_;rintro e w' ⟨rfl,hkk⟩;rw [hb])
     try go_wp2_with fail
     refine hK.out _ _ ?_ fun hHeld => ?_
     ·exact aa.trans (by assumption) (by assumption)
     clear hK K
     try simp only [au]
     refine ad.go [5,6,7,8,9] ?_
     iterate 5 (refine aM (h := ?_);try simp only [au])
     refine ad.nil ?_
     refine ad.go [10,11,12,13,14,15,16,17,18,19,20,21] ?_
     iterate 12 (refine dK (h := ?_);try simp only [au])
     refine ad.nil ?_
     refine ad.go [22,23] ?_
     iterate 2 (refine aM (h := ?_);try simp only [au])
     refine ad.nil ?_
     refine wpAnyH_done (by kernel_rfl) ?_ _
     go_wp2
     exact ⟨⟨k+1,by omega,by go_num,by assumption,fun j s hj hjs=>by
      obtain rfl:j=k:=by have:=H0.out;omega
      rw [Ht.out] at hjs;cases hjs;exact hb,fun j s u hj=>by have:=H0.out;omega⟩,by simp only [intOf];omega⟩
    ·obtain ⟨m,hm⟩:∃ m,k=m+1:=⟨k - 1,by omega⟩
     obtain ⟨s,hs1⟩:=iT (xs:=ts) (k:=m) (by rw [Hn.out];omega)
     obtain ⟨b,off,rfl,r0,r1⟩:=hs.at ht (by omega)
     obtain ⟨b',off',e',q0,q1⟩:=hs.at hs1 (by omega)
     simp only [Option.some.injEq,Addr.mk.injEq] at e'
     obtain ⟨rfl,rfl,-⟩:=e'
     have Hs:Hid (ts[m]?=some s):=hs1
     have hk1:(m:Int) < (n:Int):=by omega
     have hp:0 < k:=h0
     have hm1:(k:Int) - 1=(m:Int):=by omega
     have hw:IntKind.i64.wrap (m:Int)=(m:Int):=Go.IntWalk.i64_in _ (by omega)
     have Hm:Hid (k=m+1):=hm
     clear hs ht hs1 q1 hm h0
     cases hd:decide (t.no <= s.no)
     ·go_wp2
      refine wp_region_held_drew (S:=(fun w'=>aa w w')) (by kernel_rfl) ?_ (fun hHeld => ?_)
      ·exact aa.drew (by assumption)
      refine ad.go [0,1,2,3] ?_
      iterate 4 (refine aM (h := ?_);try simp only [au])
      refine ad.nil ?_
      refine aR 4 (h:=fun K hK => ?_)
      go_simp
      first
       | (go_at_call 69;refine (kH t _).mono ?_;rintro e w' ⟨rfl,hkk⟩;rw [hb])
      try go_wp2_with fail
      refine hK.out _ _ ?_ fun hHeld => ?_
      ·exact aa.trans (by assumption) (by assumption)
      clear hK K
      try simp only [au]
      refine ad.go [5,6,7,8,9,10,11,12,13,14,15,16,17,18,19,20,21,22,23] ?_
      iterate 19 (refine aM (h := ?_);try simp only [au])
      refine ad.nil ?_
      refine wpAnyH_done (by kernel_rfl) ?_ _
      go_wp2
      exact ⟨⟨k+1,by omega,by go_num,by assumption,fun j x hj nh=>by
       by_cases e:j=k
       ·subst e;rw [Ht.out] at nh;cases nh;exact hb
       ·exact H1.out j x (by omega) nh,fun j x y hj hx hy=>by
       have hk:=Hm.out
       by_cases e:j=m
       ·subst e;rw [<- hk] at hy;rw [Hs.out] at hx;rw [Ht.out] at hy;cases hx;cases hy
        have:=of_decide_eq_false hd;omega
       ·exact H2.out j x y (by omega) hx hy⟩,by simp only [intOf];omega⟩
     ·have Hr:Hid (dz ts=false):=yz Hs.out (by rw [<- Hm.out];exact Ht.out) (of_decide_eq_true hd)
      go_wp2
      refine wp_region_held_drew (S:=(fun w'=>aa w w')) (by kernel_rfl) ?_ (fun hHeld => ?_)
      ·exact aa.drew (by assumption)
      refine ad.go [0,1,2,3] ?_
      iterate 4 (refine aM (h := ?_);try simp only [au])
      refine ad.nil ?_
      refine aR 4 (h:=fun K hK => ?_)
      go_simp
      first
       | (go_at_call 69;refine (kH t _).mono ?_;rintro e w' ⟨rfl,hkk⟩;rw [hb])
      try go_wp2_with fail
      refine hK.out _ _ ?_ fun hHeld => ?_
      ·exact aa.trans (by assumption) (by assumption)
      clear hK K
      try simp only [au]
      refine ad.go [5,6,7,8,9,10,11,12,13,14,15,16,17,18,19,20,21,22,23] ?_
      iterate 19 (refine aM (h := ?_);try simp only [au])
      refine ad.nil ?_
      refine wpAnyH_done (by kernel_rfl) ?_ _
      go_wp2
      go_ret
      exact ⟨by rw [Hr.out];rfl,by assumption⟩
  ·have Hr:Hid (dz ts=decide (n <= 12)):=by
    show _=_
    rw [<- Hn.out]
    have hh:∀ (j:Nat) (t:ar),ts[j]?=some t->j < k:=fun j t h=>by
     rcases Nat.lt_or_ge j ts.length with h' | h'
     ·have:=Hn.out;omega
     ·simp [List.getElem?_eq_none h'] at h
    exact yP (fun j t h=>H1.out j t (hh j t h) h) (fun j s t h1 h2=>H2.out j s t (hh _ t h2) h1 h2)
   by_cases h12:n <= 12
   ·have hd:decide ((n:Int) <= 12)=true:=by simp;omega
    go_wp2
    go_ret
    exact ⟨by rw [Hr.out];simp [h12],hK⟩
   ·have hd:decide ((n:Int) <= 12)=false:=by simp;omega
    go_wp2
    go_ret
    exact ⟨by rw [Hr.out];simp [h12],hK⟩
def ins (t:ar):List ar->List ar
 | []=>[t]
 | x::r=>if decide (t.no <= x.no) then t::x::r else x::ins t r
theorem pW (t:ar) (ts:List ar):(ins t ts).length=ts.length+1:=by
 induction ts with
 | nil=>rfl
 | cons x r ih=>simp only [ins];split <;> simp [ih]
def bY (ts:List ar) (t:ar):List ar:=if dz ts then (if dz (ins t ts) then ins t ts else ts) else []
def dD (ts:List ar) (t:ar):Bool:=dz ts&&dz (ins t ts)
theorem tZ {ts:List ar} (h:dz ts=true):ts.length <= 12:=by
 simp only [dz,Bool.and_eq_true,decide_eq_true_eq] at h;exact h.2
theorem cF (t:ar):(tc t).size=14:=rfl
theorem gV (t:ar):∀ u∈(tc t).toList,u.oneCell'=true:=by
 intro u hu
 simp at hu
 rcases hu with rfl | rfl | rfl | rfl | rfl | rfl | rfl | rfl | rfl | rfl | rfl | rfl | rfl | rfl <;> rfl
abbrev dr (w:World) (base:Nat) (v:Value) (ts:List ar):Prop:=Own 43 14 tc w base v ts
set_option maxHeartbeats 4000000 in
theorem vO (ba off cap:Nat) (ts:List ar) (t:ar) (w:World) (hl:ts.length <= maxLen) (hs:Ts w (some ⟨ba,off,none⟩) ts) :
  Calls Tryz.prog 99 #[.slice (some ⟨ba,off,none⟩) ts.length cap,tk t] w fun e w'=>∃ v,e = .returned (.tuple #[v,.bool (dD ts t)]) /\ dr w' w.heap.size v (bY ts t) /\ aa w w':=by
 generalize hn:ts.length=n at *
 have Hn:Hid (ts.length=n):=hn
 clear hn
 go_enter Tryz.func99,Tryz.ntmps99
 go_wp2_with fail
 have kW:aa w (w.alloc (.cells (tc t) 43)):=(aa.refl _).alloc _
 have B0:=aq.new w (tc t) 43
 have hs0:=hs.keeps kW
 refine ((Hn.out ▸ nU (some ⟨ba,off,none⟩) cap ts _ (by rw [Hn.out];exact hl) hs0:Calls _ _ _ _ _)).mono ?_
 rintro e w1 ⟨rfl,k1⟩
 have B1:=B0.keeps k1
 have hs1:=hs0.keeps k1
 have iw:=kW.trans k1
 clear kW B0 hs0 k1 hs
 cases hb:dz ts
 ·have Hb:Hid (dD ts t=false):=by show _=_;simp [dD,hb]
  have Hp:Hid (bY ts t=[]):=by show _=_;simp [bY,hb]
  go_wp2
  go_ret2
  exact ⟨_,by rw [Hb.out];rfl,by rw [Hp.out];exact Own.new 43 14 tc w1 iw.size,iw.alloc _⟩
 ·have h12:n <= 12:=by rw [<- Hn.out];exact tZ hb
  have kP:Hid (dz ts=true):=hb
  clear hb
  go_wp2_with fail
  have kz:aa w1 (w1.alloc (.cells #[] 43)):=(aa.refl _).alloc _
  have dC:dr (w1.alloc (.cells #[] 43)) w1.heap.size (.slice (some ⟨w1.heap.size,0,none⟩) 0 0) []:=Own.new 43 14 tc w1 (Nat.le_refl _)
  generalize w1.alloc (.cells #[] 43)=W at *
  have b0:∀ w',aa w1 w'->∀ k,w'.cell? ⟨w.heap.size,k,none⟩=(tc t)[k]?:=fun w' h=>(B1.keeps h).cells
  clear B1
  go_loopw [6,7,8] (fun v p i wr=>∃ (k:Nat) (put:Bool) (xs:List ar),k <= n /\ i = .int .i64 k /\ p = .bool put /\ dr wr w1.heap.size v xs /\ aa w1 wr /\ Hid (xs++(if put then ts.drop k else ins t (ts.drop k))=ins t ts)) (fun _ _ i _=>n - (intOf i).toNat)
  case atStart=>exact ⟨0,false,[],Nat.zero_le _,rfl,rfl,dC,kz,by show _=_;simp⟩
  case round =>
   obtain ⟨k,put,xs,hk',rfl,rfl,hown,hk,HI⟩:=hrel
   clear dC kz
   have hxl:xs.length <= 13:=by
    have:=congrArg List.length HI.out
    rw [List.length_append,pW,Hn.out] at this
    omega
   by_cases hlt:k < n
   ·obtain ⟨x,hx⟩:=iT (xs:=ts) (k:=k) (by rw [Hn.out];exact hlt)
    have Hd:Hid (ts.drop k=x::ts.drop (k+1)):=by
     show _=_
     rw [List.drop_eq_getElem_cons (by rw [Hn.out];exact hlt)]
     congr 1
     rw [List.getElem?_eq_getElem (by rw [Hn.out];exact hlt)] at hx
     simpa using hx
    obtain ⟨ba',off',e',r0,r1⟩:=hs1.at hx (by omega)
    simp only [Option.some.injEq,Addr.mk.injEq] at e'
    obtain ⟨rfl,rfl,-⟩:=e'
    have hlt':(k:Int) < (n:Int):=by omega
    have HS:Hid (cm 14 tc w1 (some ⟨ba,off,none⟩) ts):=hs1
    clear hx hs1
    cases put
    ·cases hd:decide (t.no <= x.no)
     ·go_wp2
      refine wp_region_held_drew (S:=(fun w'=>aa w1 w')) (by kernel_rfl) ?_ (fun hHeld => ?_)
      ·exact aa.drew (by assumption)
      refine ad.go [0,1,2,3,4,5,6,7,8,9,10,11] ?_
      iterate 12 (refine aM (h := ?_);try simp only [au])
      refine ad.nil ?_
      refine wpAnyH_done (by kernel_rfl) ?_ _
      go_wp2_with (at_builtin;(refine ib rfl _ _ 24 rfl w1 43 (tk ar.zero) 14 112 tc Tryz.underlying24 (by kernel_rfl) rfl (by decide) cF gV _ xs rfl wr hown hk (((aa.refl _).alloc _).drew) x _ 1 ((aq.new _ _ _).keeps (aa.refl _).drew) rfl ?c1 ?c2 ?_))
      case c1=>unfold maxLen;omega
      case c2=>omega
      intro v' w5 hown5 k5 _
      have HO:Hid (dr w5 w1.heap.size v' (xs++[x])):=hown5
      clear hown5 hown
      go_wp2
      refine ⟨⟨k+1,false,xs++[x],by omega,by go_num,rfl,HO.out,k5,?_⟩,by simp only [intOf];omega⟩
      show _=_
      rw [<- HI.out,Hd.out]
      simp [ins,hd]
     ·go_wp2
      refine wp_region_held_drew (S:=(fun w'=>aa w1 w')) (by kernel_rfl) ?_ (fun hHeld => ?_)
      ·exact aa.drew (by assumption)
      refine ad.go [0,1,2,3,4,5,6,7,8,9,10,11] ?_
      iterate 12 (refine aM (h := ?_);try simp only [au])
      refine ad.nil ?_
      refine wpAnyH_done (by kernel_rfl) ?_ _
      go_wp2_with (at_builtin;(refine ib rfl _ _ 24 rfl w1 43 (tk ar.zero) 14 112 tc Tryz.underlying24 (by kernel_rfl) rfl (by decide) cF gV _ xs rfl wr hown hk (((aa.refl _).alloc _).drew) t _ 1 ((aq.new _ _ _).keeps (aa.refl _).drew) rfl ?c1 ?c2 ?_))
      case c1=>unfold maxLen;omega
      case c2=>omega
      intro v' w5 hown5 k5 _
      have HO:Hid (dr w5 w1.heap.size v' (xs++[t])):=hown5
      clear hown
      go_wp2_with (at_builtin;(refine ib rfl _ _ 24 rfl w1 43 (tk ar.zero) 14 112 tc Tryz.underlying24 (by kernel_rfl) rfl (by decide) cF gV _ (xs++[t]) rfl w5 hown5 k5 ((aa.refl _).alloc _) x _ 1 (aq.new _ _ _) rfl ?c1 ?c2 ?_))
      case c1=>unfold maxLen;simp;omega
      case c2=>simp;omega
      intro v6 w6 hown6 k6 _
      have JT:Hid (dr w6 w1.heap.size v6 (xs++[t,x])):=hown6
      clear hown5 hown6
      go_wp2
      refine ⟨⟨k+1,true,xs++[t,x],by omega,by go_num,rfl,JT.out,k6,?_⟩,by simp only [intOf];omega⟩
      show _=_
      rw [<- HI.out,Hd.out]
      simp [ins,hd]
    ·go_wp2
     refine wp_region_held_drew (S:=(fun w'=>aa w1 w')) (by kernel_rfl) ?_ (fun hHeld => ?_)
     ·exact aa.drew (by assumption)
     refine ad.go [0,1,2] ?_
     iterate 3 (refine aM (h := ?_);try simp only [au])
     refine ad.nil ?_
     refine ad.go [3,4,5,6,7,8,9,10] ?_
     iterate 8 (refine dK (h := ?_);try simp only [au])
     refine ad.nil ?_
     refine di 11 (h := ?_)
     try simp only [au]
     refine wpAnyH_done (by kernel_rfl) ?_ _
     go_wp2_with (at_builtin;(refine ib rfl _ _ 24 rfl w1 43 (tk ar.zero) 14 112 tc Tryz.underlying24 (by kernel_rfl) rfl (by decide) cF gV _ xs rfl wr hown hk (((aa.refl _).alloc _).drew) x _ 1 ((aq.new _ _ _).keeps (aa.refl _).drew) rfl ?c1 ?c2 ?_))
     case c1=>unfold maxLen;omega
     case c2=>omega
     intro v' w5 hown5 k5 _
     have HO:Hid (dr w5 w1.heap.size v' (xs++[x])):=hown5
     clear hown5 hown
     go_wp2
     refine ⟨⟨k+1,true,xs++[x],by omega,by go_num,rfl,HO.out,k5,?_⟩,by simp only [intOf];omega⟩
     show _=_
     rw [<- HI.out,Hd.out]
     simp
   ·have e:k=n:=by omega
    subst e
    have hdn:ts.drop k=[]:=List.drop_eq_nil_of_le (by rw [Hn.out];exact Nat.le_refl _)
    have hI:=HI.out
    rw [hdn] at hI
    clear hdn HI hk' hlt
    cases put
    ·have HI:Hid (xs++[t]=ins t ts):=by
      show _=_
      simpa [ins] using hI
     clear hI
     go_wp2_with (at_builtin;(refine ib rfl _ _ 24 rfl w1 43 (tk ar.zero) 14 112 tc Tryz.underlying24 (by kernel_rfl) rfl (by decide) cF gV _ xs rfl wr hown hk ((aa.refl _).alloc _) t _ 1 (aq.new _ _ _) rfl ?c1 ?c2 ?_))
     case c1=>unfold maxLen;omega
     case c2=>omega
     intro v2 w2 hown2 hk2 _
     clear hown hk
     have hown:=hown2
     have hk:=hk2
     obtain ⟨ys,HY⟩:∃ ys,Hid (ys=xs++[t]):=⟨_,rfl⟩
     rw [<- HY.out] at hown
     have HX0:Hid (ys=ins t ts):=HY.out.trans HI.out
     clear hown2 hk2 HI HY hxl xs
     revert HX0
     revert hown
     generalize ys=xs
     intro hown HX
     obtain ⟨av,cv,rfl,hlies,hcv,hmv⟩:=hown.slice cF
     have hxl:Hid (xs.length=ts.length+1):=by show _=_;rw [HX.out,pW]
     go_wp2_with fail
     refine (nU av cv xs _ (by rw [hxl.out,Hn.out];unfold maxLen;omega) hlies).mono ?_
     rintro e w3 ⟨rfl,k3⟩
     have hown3:=hown.keeps k3
     have jh:=hk.trans k3
     have hX:=HX.out
     subst hX
     cases hq:dz (ins t ts)
     ·have Hb:Hid (dD ts t=false):=by show _=_;simp [dD,hq]
      have Hp:Hid (bY ts t=ts):=by show _=_;simp [bY,hq,kP.out]
      clear hown hown3 hlies
      have nK:=hs1.keeps jh
      go_wp2_with (at_builtin;(refine s7 rfl _ _ 24 rfl w3 43 (tk ar.zero) 14 112 tc Tryz.underlying24 (by kernel_rfl) rfl (by decide) cF gV _ [] rfl (Own.new 43 14 tc w3 (Nat.le_refl _)) ((aa.refl _).alloc _) ba off cap ts (by rw [Hn.out];rfl) (nK.keeps ((aa.refl _).alloc _)) ?c1 ?c2 ?_))
      case c1=>rw [Hn.out];unfold maxLen;simp;omega
      case c2=>rw [Hn.out];simp;omega
      intro v' w5 hown5 k5 _
      have HO:Hid (dr w5 w3.heap.size v' ([]++ts)):=hown5
      clear hown5
      go_wp2
      go_ret2
      exact ⟨_,by rw [Hb.out];rfl,by rw [Hp.out];exact Own.base HO.out (iw.trans jh).size,(iw.trans jh).trans k5⟩
     ·have Hb:Hid (dD ts t=true):=by show _=_;simp [dD,hq,kP.out]
      have Hp:Hid (bY ts t=ins t ts):=by show _=_;simp [bY,hq,kP.out]
      go_wp2
      go_ret2
      exact ⟨_,by rw [Hb.out];rfl,by rw [Hp.out];exact Own.base hown3 iw.size,iw.trans jh⟩
    ·have HX:Hid (xs=ins t ts):=by
      show _=_
      simpa using hI
     clear hI hxl
     obtain ⟨av,cv,rfl,hlies,hcv,hmv⟩:=hown.slice cF
     have hxl:Hid (xs.length=ts.length+1):=by show _=_;rw [HX.out,pW]
     go_wp2_with fail
     refine (nU av cv xs _ (by rw [hxl.out,Hn.out];unfold maxLen;omega) hlies).mono ?_
     rintro e w3 ⟨rfl,k3⟩
     have hown3:=hown.keeps k3
     have jh:=hk.trans k3
     have hX:=HX.out
     subst hX
     cases hq:dz (ins t ts)
     ·have Hb:Hid (dD ts t=false):=by show _=_;simp [dD,hq]
      have Hp:Hid (bY ts t=ts):=by show _=_;simp [bY,hq,kP.out]
      clear hown hown3 hlies
      have nK:=hs1.keeps jh
      go_wp2_with (at_builtin;(refine s7 rfl _ _ 24 rfl w3 43 (tk ar.zero) 14 112 tc Tryz.underlying24 (by kernel_rfl) rfl (by decide) cF gV _ [] rfl (Own.new 43 14 tc w3 (Nat.le_refl _)) ((aa.refl _).alloc _) ba off cap ts (by rw [Hn.out];rfl) (nK.keeps ((aa.refl _).alloc _)) ?c1 ?c2 ?_))
      case c1=>rw [Hn.out];unfold maxLen;simp;omega
      case c2=>rw [Hn.out];simp;omega
      intro v' w5 hown5 k5 _
      have HO:Hid (dr w5 w3.heap.size v' ([]++ts)):=hown5
      clear hown5
      go_wp2
      go_ret2
      exact ⟨_,by rw [Hb.out];rfl,by rw [Hp.out];exact Own.base HO.out (iw.trans jh).size,(iw.trans jh).trans k5⟩
     ·have Hb:Hid (dD ts t=true):=by show _=_;simp [dD,hq,kP.out]
      have Hp:Hid (bY ts t=ins t ts):=by show _=_;simp [bY,hq,kP.out]
      go_wp2
      go_ret2
      exact ⟨_,by rw [Hb.out];rfl,by rw [Hp.out];exact Own.base hown3 iw.size,iw.trans jh⟩
end Go.Proofs.YteagpjlgjfaclaaGreatDoor
