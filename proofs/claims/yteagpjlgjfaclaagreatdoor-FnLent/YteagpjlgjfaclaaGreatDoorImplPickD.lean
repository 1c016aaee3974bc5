/-
  The program's picking: the best of those that are told.
-/
import Derived.Test.YteagpjlgjfaclaaGreatDoorImplPickA
import Derived.Test.YteagpjlgjfaclaaGreatDoorTaskSpec
namespace Go.Proofs.YteagpjlgjfaclaaGreatDoor
set_option maxRecDepth 100000
open Go.RowKit
attribute [local go_sem] aa.refl aa.alloc aa.drew aa.drewN
def bd (ts:List ag) (ys:List Int) (u:ag):Prop :=
 (u=ag.zero /\ ∀ x∈ys,bF ts x=false)∨((∃ j:Nat,ts[j]?=some u) /\ u.no∈ys /\ ∀ x∈ys,bF ts x=true->bh (de ts x) u=false)
theorem Kt {ts:List ag} (h:di ts=true) {j:Nat} {t:ag} (ht:ts[j]?=some t):bF ts t.no=true /\ de ts t.no=t :=
 ⟨jL.2 ⟨j,t,Bk h ht,ht,rfl⟩,kh (Bk h ht) ht⟩
theorem Ku {t:ag} (h:aY t=true):(t.no==0)=false:=by
 have:1 <= t.no:=by
  unfold aY at h
  simp only [Bool.and_eq_true] at h
  have:=h.1.1.1.1.1
  exact (dq.1 this).1
 simp;omega
theorem bd.start (ts:List ag):bd ts [] ag.zero := .inl ⟨rfl,fun x hx=>by simp at hx⟩
theorem bd.skip {ts:List ag} {ys:List Int} {u:ag} (h:bd ts ys u) {x:Int} (hx:bF ts x=false):bd ts (ys++[x]) u:=by
 rcases h with ⟨e,h⟩ | ⟨h1,h2,h3⟩
 ·refine .inl ⟨e,fun y hy => ?_⟩
  rcases List.mem_append.1 hy with hy | hy
  ·exact h y hy
  ·simp at hy;subst hy;exact hx
 ·refine .inr ⟨h1,List.mem_append.2 (.inl h2),fun y hy hty => ?_⟩
  rcases List.mem_append.1 hy with hy | hy
  ·exact h3 y hy hty
  ·simp at hy;subst hy;rw [hx] at hty;cases hty
theorem bd.new {ts:List ag} {ys:List Int} {u:ag} (hT:di ts=true) (h:bd ts ys u) {x:Int} (hx:bF ts x=true) (hb:(u.no==0)=true∨bh (de ts x) u=true):bd ts (ys++[x]) (de ts x):=by
 obtain ⟨k,t,e1,ht,hno⟩:=jL.1 hx
 have e2:=kh e1 ht
 rw [e2] at hb ⊢
 refine .inr ⟨⟨k,ht⟩,by rw [hno];simp,fun y hy hty => ?_⟩
 rcases List.mem_append.1 hy with hy | hy
 ·rcases h with ⟨e,h⟩ | ⟨⟨j,h1⟩,h2,h3⟩
  ·rw [h y hy] at hty;cases hty
  ·rcases hb with hb | hb
   ·rw [Ku (p4 hT h1)] at hb;cases hb
   ·rw [Bool.eq_false_iff]
    intro hc
    have:=h3 y hy hty
    rw [Bl hc hb] at this
    cases this
 ·simp at hy;subst hy;rw [e2];exact vV _
theorem bd.stay {ts:List ag} {ys:List Int} {u:ag} (h:bd ts ys u) {x:Int} (hn:(u.no==0)=false) (hb:bh (de ts x) u=false):bd ts (ys++[x]) u:=by
 rcases h with ⟨e,h⟩ | ⟨h1,h2,h3⟩
 ·subst e;simp [ag.zero] at hn
 ·refine .inr ⟨h1,List.mem_append.2 (.inl h2),fun y hy hty => ?_⟩
  rcases List.mem_append.1 hy with hy | hy
  ·exact h3 y hy hty
  ·simp at hy;subst hy;exact hb
theorem bd.done {ts:List ag} {xs:List Int} {u:ag} (hT:di ts=true) (h:bd ts xs u):eO ts xs=u.no:=by
 unfold eO
 rw [hT,if_pos rfl]
 rcases oI ts (lV xs) ts.length (Nat.le_refl _) with ⟨e,hs⟩ | ⟨j,t,e,hj,ht,hc,hs⟩
 ·rw [e]
  rcases h with ⟨e,h⟩ | ⟨⟨i,h1⟩,h2,h3⟩
  ·subst e;rfl
  ·have:=hs i u (da h1) h1
   unfold lV at this
   rw [il.2 h2] at this
   cases this
 ·have hc':t.no∈xs:=il.1 hc
  have th:=Kt hT ht
  have hn:gT ts (j:Int)=t.no:=by
   unfold gT
   rw [if_neg (by omega),Int.toNat_natCast,lU ht]
  rw [e,hn]
  rcases h with ⟨e,h⟩ | ⟨⟨i,h1⟩,h2,h3⟩
  ·rw [h _ hc'] at th;cases th.1
  ·have q1:=h3 _ hc' th.1
   rw [th.2] at q1
   have q2:=hs i u (da h1) h1 (il.2 h2)
   by_cases en:t.no=u.no
   ·exact en
   ·rcases Kv (p4 hT ht) (p4 hT h1) en with q | q
    ·rw [q1] at q;cases q
    ·rw [q2] at q;cases q
set_option maxHeartbeats 4000000 in
theorem Kw:F0:=by
 intro w a n cap ts b cap2 xs hcap hx2 hxl h hs
 have H:Hid (fk w a n cap ts):=h
 have HS:Hid (Ns w b xs):=hs
 clear h hs hcap hx2
 cases ht:di ts
 ·have Hr:Hid (eO ts xs=0):=by show _=_;unfold eO;rw [ht];rfl
  obtain ⟨q,Hq⟩:∃ q,Hid (xs.length=q):=⟨_,rfl⟩
  rw [Hq.out]
  go_enter Tryz.func13,Tryz.ntmps13
  go_wp2_with (go_at_call 33;refine (H.out.fA ht (aa.refl _)).mono ?_;rintro e w1 ⟨rfl,k1⟩)
  go_ret
  exact ⟨by rw [Hr.out];rfl,k1⟩
 have HT:Hid (di ts=true):=ht
 obtain ⟨q,Hq⟩:∃ q,Hid (xs.length=q):=⟨_,rfl⟩
 rw [Hq.out] at hxl ⊢
 unfold maxLen at hxl
 go_enter Tryz.func13,Tryz.ntmps13
 go_wp2_with fail
 refine (H.out.fA ht (aa.refl _)).mono ?_
 rintro e w1 ⟨rfl,k1⟩
 clear ht
 go_wp2
 have KW:Hid (aa w (w1.alloc (.cells #[.int .i64 0,.int .i64 0,.int .i64 0,.int .i64 0,.bool false,.int .i64 0,.int .i64 0,.int .i64 0,.int .i64 0,.int .i64 0,.int .i64 0,.int .i64 0,.int .i64 0,.int .i64 0] 43))):=k1.alloc _
 have BW:Hid (ai (w1.alloc (.cells #[.int .i64 0,.int .i64 0,.int .i64 0,.int .i64 0,.bool false,.int .i64 0,.int .i64 0,.int .i64 0,.int .i64 0,.int .i64 0,.int .i64 0,.int .i64 0,.int .i64 0,.int .i64 0] 43)) w1.heap.size (tc ag.zero)):=ai.new _ _ _
 have hB:Hid (w.heap.size <= w1.heap.size):=k1.size
 clear k1
 generalize w1.alloc (.cells #[.int .i64 0,.int .i64 0,.int .i64 0,.int .i64 0,.bool false,.int .i64 0,.int .i64 0,.int .i64 0,.int .i64 0,.int .i64 0,.int .i64 0,.int .i64 0,.int .i64 0,.int .i64 0] 43)=W at *
 generalize w1.heap.size=B at *
 go_loopw [14] (fun i wr=>∃ (k:Nat) (u:ag),k <= q /\ i = .int .i64 k /\ Hid (aa w wr) /\ Hid (ai wr B (tc u)) /\ Hid (bd ts (xs.take k) u)) (fun i _=>q - (intOf i).toNat)
 case atStart=>exact ⟨0,ag.zero,Nat.zero_le _,rfl,KW,BW,bd.start ts⟩
 case round =>
  obtain ⟨k,u,hk,rfl,hK,hU,HI⟩:=hrel
  clear KW BW
  by_cases hlt:k < q
  ·have hlt':(k:Int) < (q:Int):=by omega
   obtain ⟨x,hx⟩:=bW (xs:=xs) (k:=k) (by rw [Hq.out];exact hlt)
   obtain ⟨bx,ox,rfl,Bm⟩:=HS.out.at hx
   have r0:∀ w',aa wr w'->w'.cell? ⟨bx,ox+k,none⟩=some (.int .i64 x):=fun w' h=>Bm w' (hK.out.trans h)
   have lY:Hid (xs.take (k+1)=xs.take k++[x]):=by show _=_;rw [List.take_add_one,hx];rfl
   clear hx Bm
   cases hth:bF ts x
   ·obtain ⟨y,Hy⟩:∃ y,Hid (dA ts x=y):=⟨_,rfl⟩
    have hn:decide (0 <= y)=false:=by unfold bF at hth;rw [Hy.out] at hth;simp at hth ⊢;omega
    have Hn:Hid (bd ts (xs.take (k+1)) u):=by show bd _ _ _;rw [lY.out];exact HI.out.skip hth
    go_wp2_with (go_at_call 17;refine (H.out.eR x Hy.out hK.out).mono ?_;rintro e w3 ⟨rfl,k3⟩)
    have K3:=aa.refl w3
    refine wp_region_held_drew (S:=(fun w'=>aa w3 w')) (by kernel_rfl) ?_ (fun hHeld => ?_)
    ·exact K3.drew
    refine ad.go [0,1,2] ?_
    iterate 3 (refine aJ (h := ?_);try simp only [ar])
    refine ad.nil ?_
    refine ad.go [3,4,5,6,7,8,9,10,11,12,13] ?_
    iterate 11 (refine dB (h := ?_);try simp only [ar])
    refine ad.nil ?_
    refine cU 14 (h := ?_)
    try simp only [ar]
    refine wpAnyH_done (by kernel_rfl) ?_ _
    have K4:aa wr _:=k3.trans hHeld
    go_wp2
    exact ⟨⟨k+1,u,by omega,by go_num,hK.out.trans K4,hU.out.keeps K4,Hn⟩,by simp only [intOf];omega⟩
   ·obtain ⟨j,b1,o1,hj,e,Hj,-,-,r1',r1⟩:=H.out.there hth
    subst e
    have HJ:Hid (dA ts x=(j:Int)):=Hj
    have hj':(j:Int) < (n:Int):=by omega
    obtain ⟨t,Ht⟩:∃ t,Hid (de ts x=t):=⟨_,rfl⟩
    rw [Ht.out] at r1 r1'
    clear Hj
    cases hz:(u.no==0)
    ·cases hb:bh t u
     ·have Hn:Hid (bd ts (xs.take (k+1)) u):=by show bd _ _ _;rw [lY.out];exact HI.out.stay hz (by rw [Ht.out];exact hb)
      go_wp2_with (go_at_call 17;refine (H.out.eR x HJ.out hK.out).mono ?_;rintro e w3 ⟨rfl,k3⟩)
      have K3:=aa.refl w3
      have r2:∀ w',aa w3 w'->∀ i,i < 14->w'.cell? ⟨b1,o1+j*14+i,none⟩=(tc t)[i]?:=fun w' h=>r1 w' ((hK.out.trans k3).trans h)
      have r2':∀ w',aa w3 w'->w'.cell? ⟨b1,o1+j*14,none⟩=some (.int .i64 t.no):=fun w' h=>r1' w' ((hK.out.trans k3).trans h)
      have r3:∀ w',aa w3 w'->∀ i,w'.cell? ⟨B,i,none⟩=(tc u)[i]?:=fun w' h=>(hU.out.keeps (k3.trans h)).cells
      have BB:Hid (∀ w,Calls Tryz.prog 41 #[tk t,tk u] w fun e w'=>e = .returned (.bool false) /\ aa w w'):=fun w=>by have:=Bi t u w;rw [hb] at this;exact this
      clear r0 r1 r1'
      refine wp_region_held_drew (S:=(fun w'=>aa w3 w')) (by kernel_rfl) ?_ (fun hHeld => ?_)
      ·exact K3.drew
      refine ad.go [0,1,2,3,4,5,6,7,8,9,10,11] ?_
      iterate 12 (refine aJ (h := ?_);try simp only [ar])
      refine ad.nil ?_
      refine aO 12 (h:=fun K hK => ?_)
      go_simp
      first
       | (go_at_call 41;refine (BB.out _).mono ?_;rintro e w4 ⟨rfl,k4⟩)
      try go_wp2_with fail
      refine hK.out _ _ ?_ fun hHeld => ?_
      ·exact aa.trans (by assumption) (by assumption)
      clear hK K
      try simp only [ar]
      refine ad.go [13,14] ?_
      iterate 2 (refine aJ (h := ?_);try simp only [ar])
      refine ad.nil ?_
      refine wpAnyH_done (by kernel_rfl) ?_ _
      have K4:aa wr w4:=k3.trans (by assumption)
      go_wp2
      exact ⟨⟨k+1,u,by omega,by go_num,hK.out.trans K4,hU.out.keeps K4,Hn⟩,by simp only [intOf];omega⟩
     ·have Hn:Hid (bd ts (xs.take (k+1)) t):=by show bd _ _ _;rw [lY.out,<- Ht.out];exact bd.new HT.out HI.out hth (.inr (by rw [Ht.out];exact hb))
      go_wp2_with (go_at_call 17;refine (H.out.eR x HJ.out hK.out).mono ?_;rintro e w3 ⟨rfl,k3⟩)
      have K3:=aa.refl w3
      have r2:∀ w',aa w3 w'->∀ i,i < 14->w'.cell? ⟨b1,o1+j*14+i,none⟩=(tc t)[i]?:=fun w' h=>r1 w' ((hK.out.trans k3).trans h)
      have r2':∀ w',aa w3 w'->w'.cell? ⟨b1,o1+j*14,none⟩=some (.int .i64 t.no):=fun w' h=>r1' w' ((hK.out.trans k3).trans h)
      have r3:∀ w',aa w3 w'->∀ i,w'.cell? ⟨B,i,none⟩=(tc u)[i]?:=fun w' h=>(hU.out.keeps (k3.trans h)).cells
      have BB:Hid (∀ w,Calls Tryz.prog 41 #[tk t,tk u] w fun e w'=>e = .returned (.bool true) /\ aa w w'):=fun w=>by have:=Bi t u w;rw [hb] at this;exact this
      clear r0 r1 r1'
      refine wp_region_held_drew (S:=(fun w'=>aa w3 w')) (by kernel_rfl) ?_ (fun hHeld => ?_)
      ·exact K3.drew
      refine ad.go [0,1,2,3,4,5,6,7,8,9,10,11] ?_
      iterate 12 (refine aJ (h := ?_);try simp only [ar])
      refine ad.nil ?_
      refine aO 12 (h:=fun K hK => ?_)
      go_simp
      first
       | (go_at_call 41;refine (BB.out _).mono ?_;rintro e w4 ⟨rfl,k4⟩)
      try go_wp2_with fail
      refine hK.out _ _ ?_ fun hHeld => ?_
      ·exact aa.trans (by assumption) (by assumption)
      clear hK K
      try simp only [ar]
      refine ad.go [13,14] ?_
      iterate 2 (refine aJ (h := ?_);try simp only [ar])
      refine ad.nil ?_
      refine wpAnyH_done (by kernel_rfl) ?_ _
      have K4:aa wr w4:=k3.trans (by assumption)
      have r4:∀ w',aa w4 w'->∀ i,i < 14->w'.cell? ⟨b1,o1+j*14+i,none⟩=(tc t)[i]?:=fun w' h=>r2 w' (aa.trans (by assumption) h)
      have Kx:∀ w',aa w4 w'->w'.cell? ⟨b1,o1+j*14,none⟩=some (.int .i64 t.no):=fun w' h=>r2' w' (aa.trans (by assumption) h)
      have HU:Hid (ai w4 B (tc u)):=hU.out.keeps K4
      obtain ⟨_,q1,q2⟩:=HU.out
      have vW:Hid (aa w w4):=hK.out.trans K4
      clear r2 r2' r3 hHeld k3 k4 K3 K4
      go_wp2
      exact ⟨⟨k+1,t,by omega,by go_num,aa.putC hB.out (tc t).toList 0 vW.out,HU.out.putC (tc t).toList rfl,Hn⟩,by simp only [intOf];omega⟩
    ·have Hn:Hid (bd ts (xs.take (k+1)) t):=by show bd _ _ _;rw [lY.out,<- Ht.out];exact bd.new HT.out HI.out hth (.inl hz)
     go_wp2_with (go_at_call 17;refine (H.out.eR x HJ.out hK.out).mono ?_;rintro e w3 ⟨rfl,k3⟩)
     have K3:=aa.refl w3
     have r2:∀ w',aa w3 w'->∀ i,i < 14->w'.cell? ⟨b1,o1+j*14+i,none⟩=(tc t)[i]?:=fun w' h=>r1 w' ((hK.out.trans k3).trans h)
     have r2':∀ w',aa w3 w'->w'.cell? ⟨b1,o1+j*14,none⟩=some (.int .i64 t.no):=fun w' h=>r1' w' ((hK.out.trans k3).trans h)
     have r3:∀ w',aa w3 w'->∀ i,w'.cell? ⟨B,i,none⟩=(tc u)[i]?:=fun w' h=>(hU.out.keeps (k3.trans h)).cells
     clear r0 r1 r1'
     refine wp_region_held_drew (S:=(fun w'=>aa w3 w')) (by kernel_rfl) ?_ (fun hHeld => ?_)
     ·exact K3.drew
     refine ad.go [0,1,2,3,4,5,6] ?_
     iterate 7 (refine aJ (h := ?_);try simp only [ar])
     refine ad.nil ?_
     refine ad.go [7,8,9,10,11,12] ?_
     iterate 6 (refine dB (h := ?_);try simp only [ar])
     refine ad.nil ?_
     refine ad.go [13,14] ?_
     iterate 2 (refine aJ (h := ?_);try simp only [ar])
     refine ad.nil ?_
     refine wpAnyH_done (by kernel_rfl) ?_ _
     have K4:aa wr w3.drew:=k3.trans hHeld
     have r4:∀ w',aa w3.drew w'->∀ i,i < 14->w'.cell? ⟨b1,o1+j*14+i,none⟩=(tc t)[i]?:=fun w' h=>r2 w' (hHeld.trans h)
     have Kx:∀ w',aa w3.drew w'->w'.cell? ⟨b1,o1+j*14,none⟩=some (.int .i64 t.no):=fun w' h=>r2' w' (hHeld.trans h)
     have HU:Hid (ai w3.drew B (tc u)):=hU.out.keeps K4
     have vW:Hid (aa w w3.drew):=hK.out.trans K4
     clear r2 r2' r3 hHeld k3 K3 K4
     generalize w3.drew=w4 at *
     obtain ⟨_,q1,q2⟩:=HU.out
     go_wp2
     exact ⟨⟨k+1,t,by omega,by go_num,aa.putC hB.out (tc t).toList 0 vW.out,HU.out.putC (tc t).toList rfl,Hn⟩,by simp only [intOf];omega⟩
  ·have Hr:Hid (eO ts xs=u.no):=by
    show _=_
    obtain rfl:k=q:=by omega
    refine bd.done HT.out ?_
    have:=HI.out
    rw [<- Hq.out,List.take_length] at this
    exact this
   have r3:∀ i,wr.cell? ⟨B,i,none⟩=(tc u)[i]?:=hU.out.cells
   go_wp2
   go_ret
   exact ⟨by rw [Hr.out];rfl,hK.out⟩
end Go.Proofs.YteagpjlgjfaclaaGreatDoor
