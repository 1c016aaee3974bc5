/-
  The program's picking: the best of those that are told. The
-/
import Derived.Test.YthpdlbcdbncnhaaGreatDoorGIpick1
import Derived.Test.YthpdlbcdbncnhaaGreatDoorGBase1
import Derived.Test.YthpdlbcdbncnhaaGreatDoorGIlock1
namespace Go.Proofs.YthpdlbcdbncnhaaGreatDoor
set_option maxRecDepth 100000
open Go.RowKit
attribute [local go_sem] Keeps.refl Keeps.alloc Keeps.drew Keeps.drewN
def BestSo (ts:List Tsk) (ys:List Int) (u:Tsk):Prop :=
 (u=Tsk.zero /\ ∀ x∈ys,qag ts x=false)∨((∃ j:Nat,ts[j]?=some u) /\ u.no∈ys /\ ∀ x∈ys,qag ts x=true->befB (tAt ts x) u=false)
theorem qhy {ts:List Tsk} (h:qao ts=true) {j:Nat} {t:Tsk} (ht:ts[j]?=some t):qag ts t.no=true /\ tAt ts t.no=t :=
 ⟨qbV.2 ⟨j,t,qfn h ht,ht,rfl⟩,qcE (qfn h ht) ht⟩
theorem ql7 {t:Tsk} (h:qae t=true):(t.no==0)=false:=by
 have:1 <= t.no:=by
  unfold qae at h
  simp only [Bool.and_eq_true] at h
  have:=h.1.1.1.1.1
  exact (qap.1 this).1
 simp;omega
theorem BestSo.start (ts:List Tsk):BestSo ts [] Tsk.zero := .inl ⟨rfl,fun x hx=>by simp at hx⟩
theorem BestSo.skip {ts:List Tsk} {ys:List Int} {u:Tsk} (h:BestSo ts ys u) {x:Int} (hx:qag ts x=false):BestSo ts (ys++[x]) u:=by
 rcases h with ⟨e,h⟩ | ⟨h1,h2,h3⟩
 ·refine .inl ⟨e,fun y hy => ?_⟩
  rcases List.mem_append.1 hy with hy | hy
  ·exact h y hy
  ·simp at hy;subst hy;exact hx
 ·refine .inr ⟨h1,List.mem_append.2 (.inl h2),fun y hy hty => ?_⟩
  rcases List.mem_append.1 hy with hy | hy
  ·exact h3 y hy hty
  ·simp at hy;subst hy;rw [hx] at hty;cases hty
theorem BestSo.new {ts:List Tsk} {ys:List Int} {u:Tsk} (hT:qao ts=true) (h:BestSo ts ys u) {x:Int} (hx:qag ts x=true) (hb:(u.no==0)=true∨befB (tAt ts x) u=true):BestSo ts (ys++[x]) (tAt ts x):=by
 obtain ⟨k,t,e1,ht,hno⟩:=qbV.1 hx
 have e2:=qcE e1 ht
 rw [e2] at hb ⊢
 refine .inr ⟨⟨k,ht⟩,by rw [hno];simp,fun y hy hty => ?_⟩
 rcases List.mem_append.1 hy with hy | hy
 ·rcases h with ⟨e,h⟩ | ⟨⟨j,h1⟩,h2,h3⟩
  ·rw [h y hy] at hty;cases hty
  ·rcases hb with hb | hb
   ·rw [ql7 (qct hT h1)] at hb;cases hb
   ·rw [Bool.eq_false_iff]
    intro hc
    have:=h3 y hy hty
    rw [qit hc hb] at this
    cases this
 ·simp at hy;subst hy;rw [e2];exact qgh _
theorem BestSo.stay {ts:List Tsk} {ys:List Int} {u:Tsk} (h:BestSo ts ys u) {x:Int} (hn:(u.no==0)=false) (hb:befB (tAt ts x) u=false):BestSo ts (ys++[x]) u:=by
 rcases h with ⟨e,h⟩ | ⟨h1,h2,h3⟩
 ·subst e;simp [Tsk.zero] at hn
 ·refine .inr ⟨h1,List.mem_append.2 (.inl h2),fun y hy hty => ?_⟩
  rcases List.mem_append.1 hy with hy | hy
  ·exact h3 y hy hty
  ·simp at hy;subst hy;exact hb
theorem BestSo.done {ts:List Tsk} {xs:List Int} {u:Tsk} (hT:qao ts=true) (h:BestSo ts xs u):qaP ts xs=u.no:=by
 unfold qaP
 rw [hT,if_pos rfl]
 rcases qee ts (qdB xs) ts.length (Nat.le_refl _) with ⟨e,hs⟩ | ⟨j,t,e,hj,ht,hc,hs⟩
 ·rw [e]
  rcases h with ⟨e,h⟩ | ⟨⟨i,h1⟩,h2,h3⟩
  ·subst e;rfl
  ·have:=hs i u (qas h1) h1
   unfold qdB at this
   rw [qb9.2 h2] at this
   cases this
 ·have hc':t.no∈xs:=qb9.1 hc
  have th:=qhy hT ht
  have hn:noAt ts (j:Int)=t.no:=by
   unfold noAt
   rw [if_neg (by omega),Int.toNat_natCast,qce ht]
  rw [e,hn]
  rcases h with ⟨e,h⟩ | ⟨⟨i,h1⟩,h2,h3⟩
  ·rw [h _ hc'] at th;cases th.1
  ·have q1:=h3 _ hc' th.1
   rw [th.2] at q1
   have q2:=hs i u (qas h1) h1 (qb9.2 h2)
   by_cases en:t.no=u.no
   ·exact en
   ·rcases qnx (qct hT ht) (qct hT h1) en with q | q
    ·rw [q1] at q;cases q
    ·rw [q2] at q;cases q
set_option maxHeartbeats 4000000 in
theorem ql8:qno:=by
 intro w a n cap ts b cap2 xs hcap hx2 hxl h hs
 have H:Hid (OnT w a n cap ts):=h
 have HS:Hid (Ns w b xs):=hs
 clear h hs hcap hx2
 cases ht:qao ts
 ·have Hr:Hid (qaP ts xs=0):=by show _=_;unfold qaP;rw [ht];rfl
  obtain ⟨q,Hq⟩:∃ q,Hid (xs.length=q):=⟨_,rfl⟩
  rw [Hq.out]
  go_enter Tryz.func151,Tryz.ntmps151
  go_wp2_with (go_at_call 173;refine (H.out.pTasksOk ht (Keeps.refl _)).mono ?_;rintro e w1 ⟨rfl,k1⟩)
  go_ret
  exact ⟨by rw [Hr.out];rfl,k1⟩
 have HT:Hid (qao ts=true):=ht
 obtain ⟨q,Hq⟩:∃ q,Hid (xs.length=q):=⟨_,rfl⟩
 rw [Hq.out] at hxl ⊢
 unfold maxLen at hxl
 go_enter Tryz.func151,Tryz.ntmps151
 go_wp2_with fail
 refine (H.out.pTasksOk ht (Keeps.refl _)).mono ?_
 rintro e w1 ⟨rfl,k1⟩
 clear ht
 go_wp2
 have KW:Hid (Keeps w (w1.alloc (.cells #[.int .i64 0,.int .i64 0,.int .i64 0,.int .i64 0,.bool false,.int .i64 0,.int .i64 0,.int .i64 0,.int .i64 0,.int .i64 0,.int .i64 0,.int .i64 0,.int .i64 0,.int .i64 0] 47))):=k1.alloc _
 have BW:Hid (Blk (w1.alloc (.cells #[.int .i64 0,.int .i64 0,.int .i64 0,.int .i64 0,.bool false,.int .i64 0,.int .i64 0,.int .i64 0,.int .i64 0,.int .i64 0,.int .i64 0,.int .i64 0,.int .i64 0,.int .i64 0] 47)) w1.heap.size (tc Tsk.zero)):=Blk.new _ _ _
 have hB:Hid (w.heap.size <= w1.heap.size):=k1.size
 clear k1
 generalize w1.alloc (.cells #[.int .i64 0,.int .i64 0,.int .i64 0,.int .i64 0,.bool false,.int .i64 0,.int .i64 0,.int .i64 0,.int .i64 0,.int .i64 0,.int .i64 0,.int .i64 0,.int .i64 0,.int .i64 0] 47)=W at *
 generalize w1.heap.size=B at *
 go_loopw [14] (fun i wr=>∃ (k:Nat) (u:Tsk),k <= q /\ i = .int .i64 k /\ Hid (Keeps w wr) /\ Hid (Blk wr B (tc u)) /\ Hid (BestSo ts (xs.take k) u)) (fun i _=>q - (intOf i).toNat)
 case atStart=>exact ⟨0,Tsk.zero,Nat.zero_le _,rfl,KW,BW,BestSo.start ts⟩
 case round =>
  obtain ⟨k,u,hk,rfl,hK,hU,HI⟩:=hrel
  clear KW BW
  by_cases hlt:k < q
  ·have hlt':(k:Int) < (q:Int):=by omega
   obtain ⟨x,hx⟩:=qai (xs:=xs) (k:=k) (by rw [Hq.out];exact hlt)
   obtain ⟨bx,ox,rfl,r0'⟩:=HS.out.at hx
   have r0:∀ w',Keeps wr w'->w'.cell? ⟨bx,ox+k,none⟩=some (.int .i64 x):=fun w' h=>r0' w' (hK.out.trans h)
   have Htk:Hid (xs.take (k+1)=xs.take k++[x]):=by show _=_;rw [List.take_add_one,hx];rfl
   clear hx r0'
   cases hth:qag ts x
   ·obtain ⟨y,Hy⟩:∃ y,Hid (qar ts x=y):=⟨_,rfl⟩
    have hn:decide (0 <= y)=false:=by unfold qag at hth;rw [Hy.out] at hth;simp at hth ⊢;omega
    have Hn:Hid (BestSo ts (xs.take (k+1)) u):=by show BestSo _ _ _;rw [Htk.out];exact HI.out.skip hth
    go_wp2_with (go_at_call 17;refine (H.out.pTaskAt x Hy.out hK.out).mono ?_;rintro e w3 ⟨rfl,k3⟩)
    have K3:=Keeps.refl w3
    refine wp_region_held_drew (S:=(fun w'=>Keeps w3 w')) (by kernel_rfl) ?_ (fun hHeld => ?_)
    ·exact K3.drew
    refine Plan.go [0,1,2] ?_
    iterate 3 (refine qac (by simp only [qab];rfl) (by kernel_rfl) (by exact fun _ _ _ h=>h) (by rfl) (by assumption) (fun w _=>by go_simp;try (with_reducible rfl)) ?_;try simp only [qaa])
    refine Plan.nil ?_
    refine Plan.go [3,4,5,6,7,8,9,10,11,12,13] ?_
    iterate 11 (refine qaq (by simp only [qab];rfl) (by kernel_rfl) (by exact fun _ _ _ h=>h) (by rfl) (by assumption) ?_;try simp only [qaa])
    refine Plan.nil ?_
    refine qan 14 (v := ?_) (by simp only [qab];rfl) (by kernel_rfl) (by exact fun _ _ _ h=>h) (by rfl) (by assumption) ?_ ?_
    rotate_left
    ·(intro w _;go_simp;try (with_reducible rfl))
    try simp only [qaa]
    refine wpAnyH_done (by kernel_rfl) ?_ _
    have K4:Keeps wr _:=k3.trans hHeld
    go_wp2
    exact ⟨⟨k+1,u,by omega,by go_num,hK.out.trans K4,hU.out.keeps K4,Hn⟩,by simp only [intOf];omega⟩
   ·obtain ⟨j,b1,o1,hj,e,Hj,-,-,r1',r1⟩:=H.out.there hth
    subst e
    have HJ:Hid (qar ts x=(j:Int)):=Hj
    have hj':(j:Int) < (n:Int):=by omega
    obtain ⟨t,Ht⟩:∃ t,Hid (tAt ts x=t):=⟨_,rfl⟩
    rw [Ht.out] at r1 r1'
    clear Hj
    cases hz:(u.no==0)
    ·cases hb:befB t u
     ·have Hn:Hid (BestSo ts (xs.take (k+1)) u):=by show BestSo _ _ _;rw [Htk.out];exact HI.out.stay hz (by rw [Ht.out];exact hb)
      go_wp2_with (go_at_call 17;refine (H.out.pTaskAt x HJ.out hK.out).mono ?_;rintro e w3 ⟨rfl,k3⟩)
      have K3:=Keeps.refl w3
      have r2:∀ w',Keeps w3 w'->∀ i,i < 14->w'.cell? ⟨b1,o1+j*14+i,none⟩=(tc t)[i]?:=fun w' h=>r1 w' ((hK.out.trans k3).trans h)
      have r2':∀ w',Keeps w3 w'->w'.cell? ⟨b1,o1+j*14,none⟩=some (.int .i64 t.no):=fun w' h=>r1' w' ((hK.out.trans k3).trans h)
      have r3:∀ w',Keeps w3 w'->∀ i,w'.cell? ⟨B,i,none⟩=(tc u)[i]?:=fun w' h=>(hU.out.keeps (k3.trans h)).cells
      have BB:Hid (∀ w,Calls Tryz.prog 149 #[tk t,tk u] w fun e w'=>e = .returned (.bool false) /\ Keeps w w'):=fun w=>by have:=qfR t u w;rw [hb] at this;exact this
      clear r0 r1 r1'
      refine wp_region_held_drew (S:=(fun w'=>Keeps w3 w')) (by kernel_rfl) ?_ (fun hHeld => ?_)
      ·exact K3.drew
      refine Plan.go [0,1,2,3,4,5,6,7,8,9,10,11] ?_
      iterate 12 (refine qac (by simp only [qab];rfl) (by kernel_rfl) (by exact fun _ _ _ h=>h) (by rfl) (by assumption) (fun w _=>by go_simp;try (with_reducible rfl)) ?_;try simp only [qaa])
      refine Plan.nil ?_
      refine qad 12 (by kernel_rfl) (by simp only [qab];rfl) (fun K hK => ?_)
      go_simp
      first
       | (go_at_call 149;refine (BB.out _).mono ?_;rintro e w4 ⟨rfl,k4⟩)
      try go_wp2_with fail
      refine hK.out _ _ ?_ (fun hHeld => ?_)
      ·exact Keeps.trans (by assumption) (by assumption)
      clear hK K
      try simp only [qaa]
      refine Plan.go [13,14] ?_
      iterate 2 (refine qac (by simp only [qab];rfl) (by kernel_rfl) (by exact fun _ _ _ h=>h) (by rfl) (by assumption) (fun w _=>by go_simp;try (with_reducible rfl)) ?_;try simp only [qaa])
      refine Plan.nil ?_
      refine wpAnyH_done (by kernel_rfl) ?_ _
      have K4:Keeps wr w4:=k3.trans (by assumption)
      go_wp2
      exact ⟨⟨k+1,u,by omega,by go_num,hK.out.trans K4,hU.out.keeps K4,Hn⟩,by simp only [intOf];omega⟩
     ·have Hn:Hid (BestSo ts (xs.take (k+1)) t):=by show BestSo _ _ _;rw [Htk.out,<- Ht.out];exact BestSo.new HT.out HI.out hth (.inr (by rw [Ht.out];exact hb))
      go_wp2_with (go_at_call 17;refine (H.out.pTaskAt x HJ.out hK.out).mono ?_;rintro e w3 ⟨rfl,k3⟩)
      have K3:=Keeps.refl w3
      have r2:∀ w',Keeps w3 w'->∀ i,i < 14->w'.cell? ⟨b1,o1+j*14+i,none⟩=(tc t)[i]?:=fun w' h=>r1 w' ((hK.out.trans k3).trans h)
      have r2':∀ w',Keeps w3 w'->w'.cell? ⟨b1,o1+j*14,none⟩=some (.int .i64 t.no):=fun w' h=>r1' w' ((hK.out.trans k3).trans h)
      have r3:∀ w',Keeps w3 w'->∀ i,w'.cell? ⟨B,i,none⟩=(tc u)[i]?:=fun w' h=>(hU.out.keeps (k3.trans h)).cells
      have BB:Hid (∀ w,Calls Tryz.prog 149 #[tk t,tk u] w fun e w'=>e = .returned (.bool true) /\ Keeps w w'):=fun w=>by have:=qfR t u w;rw [hb] at this;exact this
      clear r0 r1 r1'
      refine wp_region_held_drew (S:=(fun w'=>Keeps w3 w')) (by kernel_rfl) ?_ (fun hHeld => ?_)
      ·exact K3.drew
      refine Plan.go [0,1,2,3,4,5,6,7,8,9,10,11] ?_
      iterate 12 (refine qac (by simp only [qab];rfl) (by kernel_rfl) (by exact fun _ _ _ h=>h) (by rfl) (by assumption) (fun w _=>by go_simp;try (with_reducible rfl)) ?_;try simp only [qaa])
      refine Plan.nil ?_
      refine qad 12 (by kernel_rfl) (by simp only [qab];rfl) (fun K hK => ?_)
      go_simp
      first
       | (go_at_call 149;refine (BB.out _).mono ?_;rintro e w4 ⟨rfl,k4⟩)
      try go_wp2_with fail
      refine hK.out _ _ ?_ (fun hHeld => ?_)
      ·exact Keeps.trans (by assumption) (by assumption)
      clear hK K
      try simp only [qaa]
      refine Plan.go [13,14] ?_
      iterate 2 (refine qac (by simp only [qab];rfl) (by kernel_rfl) (by exact fun _ _ _ h=>h) (by rfl) (by assumption) (fun w _=>by go_simp;try (with_reducible rfl)) ?_;try simp only [qaa])
      refine Plan.nil ?_
      refine wpAnyH_done (by kernel_rfl) ?_ _
      have K4:Keeps wr w4:=k3.trans (by assumption)
      have r4:∀ w',Keeps w4 w'->∀ i,i < 14->w'.cell? ⟨b1,o1+j*14+i,none⟩=(tc t)[i]?:=fun w' h=>r2 w' (Keeps.trans (by assumption) h)
      have r4':∀ w',Keeps w4 w'->w'.cell? ⟨b1,o1+j*14,none⟩=some (.int .i64 t.no):=fun w' h=>r2' w' (Keeps.trans (by assumption) h)
      have HU:Hid (Blk w4 B (tc u)):=hU.out.keeps K4
      obtain ⟨_,q1,q2⟩:=HU.out
      have HK4:Hid (Keeps w w4):=hK.out.trans K4
      clear r2 r2' r3 hHeld k3 k4 K3 K4
      go_wp2
      exact ⟨⟨k+1,t,by omega,by go_num,Keeps.putC hB.out (tc t).toList 0 HK4.out,HU.out.putC (tc t).toList rfl,Hn⟩,by simp only [intOf];omega⟩
    ·have Hn:Hid (BestSo ts (xs.take (k+1)) t):=by show BestSo _ _ _;rw [Htk.out,<- Ht.out];exact BestSo.new HT.out HI.out hth (.inl hz)
     go_wp2_with (go_at_call 17;refine (H.out.pTaskAt x HJ.out hK.out).mono ?_;rintro e w3 ⟨rfl,k3⟩)
     have K3:=Keeps.refl w3
     have r2:∀ w',Keeps w3 w'->∀ i,i < 14->w'.cell? ⟨b1,o1+j*14+i,none⟩=(tc t)[i]?:=fun w' h=>r1 w' ((hK.out.trans k3).trans h)
     have r2':∀ w',Keeps w3 w'->w'.cell? ⟨b1,o1+j*14,none⟩=some (.int .i64 t.no):=fun w' h=>r1' w' ((hK.out.trans k3).trans h)
     have r3:∀ w',Keeps w3 w'->∀ i,w'.cell? ⟨B,i,none⟩=(tc u)[i]?:=fun w' h=>(hU.out.keeps (k3.trans h)).cells
     clear r0 r1 r1'
     refine wp_region_held_drew (S:=(fun w'=>Keeps w3 w')) (by kernel_rfl) ?_ (fun hHeld => ?_)
     ·exact K3.drew
     refine Plan.go [0,1,2,3,4,5,6] ?_
     iterate 7 (refine qac (by simp only [qab];rfl) (by kernel_rfl) (by exact fun _ _ _ h=>h) (by rfl) (by assumption) (fun w _=>by go_simp;try (with_reducible rfl)) ?_;try simp only [qaa])
     refine Plan.nil ?_
     refine Plan.go [7,8,9,10,11,12] ?_
     iterate 6 (refine qaq (by simp only [qab];rfl) (by kernel_rfl) (by exact fun _ _ _ h=>h) (by rfl) (by assumption) ?_;try simp only [qaa])
     refine Plan.nil ?_
     refine Plan.go [13,14] ?_
     iterate 2 (refine qac (by simp only [qab];rfl) (by kernel_rfl) (by exact fun _ _ _ h=>h) (by rfl) (by assumption) (fun w _=>by go_simp;try (with_reducible rfl)) ?_;try simp only [qaa])
     refine Plan.nil ?_
     refine wpAnyH_done (by kernel_rfl) ?_ _
     have K4:Keeps wr w3.drew:=k3.trans hHeld
     have r4:∀ w',Keeps w3.drew w'->∀ i,i < 14->w'.cell? ⟨b1,o1+j*14+i,none⟩=(tc t)[i]?:=fun w' h=>r2 w' (hHeld.trans h)
     have r4':∀ w',Keeps w3.drew w'->w'.cell? ⟨b1,o1+j*14,none⟩=some (.int .i64 t.no):=fun w' h=>r2' w' (hHeld.trans h)
     have HU:Hid (Blk w3.drew B (tc u)):=hU.out.keeps K4
     have HK4:Hid (Keeps w w3.drew):=hK.out.trans K4
     clear r2 r2' r3 hHeld k3 K3 K4
     generalize w3.drew=w4 at *
     obtain ⟨_,q1,q2⟩:=HU.out
     go_wp2
     exact ⟨⟨k+1,t,by omega,by go_num,Keeps.putC hB.out (tc t).toList 0 HK4.out,HU.out.putC (tc t).toList rfl,Hn⟩,by simp only [intOf];omega⟩
  ·have Hr:Hid (qaP ts xs=u.no):=by
    show _=_
    obtain rfl:k=q:=by omega
    refine BestSo.done HT.out ?_
    have:=HI.out
    rw [<- Hq.out,List.take_length] at this
    exact this
   have r3:∀ i,wr.cell? ⟨B,i,none⟩=(tc u)[i]?:=hU.out.cells
   go_wp2
   go_ret
   exact ⟨by rw [Hr.out];rfl,hK.out⟩
def qbw (ts:List Tsk) (f:Tsk->Bool) (k:Nat):List Int:=((ts.take k).filter f).map (·.no)
theorem ql9 {ts:List Tsk} {f:Tsk->Bool} {k:Nat} {t:Tsk} (h:ts[k]?=some t):qbw ts f (k+1)=qbw ts f k++(if f t then [t.no] else []):=by
 unfold qbw
 rw [List.take_add_one,h,List.filter_append,List.map_append]
 congr 1
 cases hx:f t <;> simp [hx]
def qbj (ts:List Tsk) (ls:List Lk) (cpu:Int) (t:Tsk):Bool:=t.cpu==cpu&&canP ts ls t.no
theorem qhz {ts:List Tsk} {c d:Tsk->Bool} (h:∀ (i:Nat) (t:Tsk),ts[i]?=some t->c t=d t):∀ k,k <= ts.length->topN ts c k=topN ts d k
 | 0,_=>rfl
 | k+1,hk=>by
  have hu:ts[k]?=some ts[k]:=List.getElem?_eq_getElem (by omega)
  simp only [topN,topS]
  rw [qhz h k (by omega),qce hu,h k _ hu]
theorem qhA (ts:List Tsk) (ls:List Lk):qa1 ts ls 0=0:=by
 unfold qa1
 split
 ·rename_i hb
  have ht:qao ts=true:=by unfold qaV at hb;simp at hb;exact hb.1
  unfold qa6
  rw [if_neg]
  rw [List.all_eq_true]
  intro h
  have:=h 0 (List.mem_of_getElem? (qiu ls 0))
  unfold qag at this
  rw [qod ht] at this
  simp at this
 ·rfl
theorem qma (ts:List Tsk) (ls:List Lk) (cpu:Int):qa7 ts ls cpu=qaP ts (qbw ts (qbj ts ls cpu) ts.length) /\ qaA ts ls cpu=qa1 ts ls (qaP ts (qbw ts (qbj ts ls cpu) ts.length)):=by
 cases hb:qaV ts ls
 ·have e0:qbw ts (qbj ts ls cpu) ts.length=[]:=by
   unfold qbw
   rw [List.map_eq_nil_iff,List.filter_eq_nil_iff]
   intro t _
   unfold qbj canP
   rw [hb]
   simp
  have e1:qaP ts []=0:=by
   unfold qaP
   split
   ·rcases qee ts (qdB []) ts.length (Nat.le_refl _) with ⟨e,_⟩ | ⟨j,t,_,_,_,hc,_⟩
    ·rw [e];rfl
    ·unfold qdB at hc;simp [hasB] at hc
   ·rfl
  rw [e0,e1,qhA]
  unfold qa7 qaA
  rw [hb]
  exact ⟨rfl,rfl⟩
 ·have ht:qao ts=true:=by unfold qaV at hb;simp at hb;exact hb.1
  have hc:∀ (i:Nat) (t:Tsk),ts[i]?=some t->qdB (qbw ts (qbj ts ls cpu) ts.length) t=qbU ts ls cpu t:=fun i t hi=>by
   unfold qdB qbw qbU
   rw [Bool.eq_iff_iff,qb9,List.mem_map]
   rw [List.take_length]
   constructor
   ·rintro ⟨s,hs,e⟩
    rw [List.mem_filter] at hs
    obtain ⟨j,hj⟩:=List.mem_iff_getElem?.1 hs.1
    have q1:=qfn ht hj
    have q2:=qfn ht hi
    rw [e,q2] at q1
    have q3:i=j:=by omega
    subst q3
    rw [hi] at hj
    cases hj
    have:=hs.2
    unfold qbj canP at this
    rw [hb] at this
    exact this
   ·intro h
    refine ⟨t,List.mem_filter.2 ⟨List.mem_of_getElem? hi,?_⟩,rfl⟩
    unfold qbj canP
    rw [hb]
    exact h
  have e1:qaP ts (qbw ts (qbj ts ls cpu) ts.length)=noAt ts (qaz ts ls cpu):=by
   unfold qaP qaz
   rw [ht,if_pos rfl,qhz hc _ (Nat.le_refl _)]
  rw [e1]
  unfold qa7 qaA
  rw [hb]
  refine ⟨rfl,?_⟩
  by_cases hp:qaz ts ls cpu < 0
  ·have e2:noAt ts (qaz ts ls cpu)=0:=by unfold noAt;rw [if_pos hp]
   rw [e2,qhA]
   simp [hp]
  ·simp only [Bool.true_and]
   rw [if_pos (by simpa using hp)]
   unfold qa1
   rw [hb]
   rfl
set_option maxHeartbeats 4000000 in
theorem qhB:qnn:=by
 intro w a n cap ts b m cap2 ls cpu hcap h2
 have H:Hid (Two w a n cap ts b m cap2 ls):=h2
 have HN:Hid (n <= cap):=hcap
 have Hn:Hid (ts.length=n):=h2.t.len
 have hl:n <= maxLen:=by rw [<- h2.t.len];exact h2.t.small
 unfold maxLen at hl
 clear h2 hcap
 obtain ⟨P1,P2⟩:=qma ts ls cpu
 have HP1:Hid (qa7 ts ls cpu=qaP ts (qbw ts (qbj ts ls cpu) ts.length)):=P1
 have HP2:Hid (qaA ts ls cpu=qa1 ts ls (qaP ts (qbw ts (qbj ts ls cpu) ts.length))):=P2
 clear P1 P2
 go_enter Tryz.func106,Tryz.ntmps106
 go_wp2
 go_loopw [8,14] (fun v i wr=>∃ (k:Nat) (ys:List Int),k <= n /\ i = .int .i64 k /\ ys.length <= k /\ Hid (OwnN wr w.heap.size v ys) /\ Keeps w wr /\ Hid (qbw ts (qbj ts ls cpu) k=ys)) (fun _ i _=>n - (intOf i).toNat)
 case atStart=>exact ⟨0,[],Nat.zero_le _,rfl,by simp,World.ownsRow_nil _ _ _ _,Keeps.refl _,rfl⟩
 case round =>
  obtain ⟨k,ys,hk,rfl,hy,own,hK,HI⟩:=hrel
  by_cases hlt:k < n
  ·have hlt':(k:Int) < (n:Int):=by omega
   obtain ⟨t,ht⟩:=qbB (xs:=ts) (k:=k) (by rw [Hn.out];exact hlt)
   obtain ⟨b1,o1,rfl,r0,r1⟩:=H.out.t.lies.at ht (by omega)
   have Hs:Hid (qbw ts (qbj ts ls cpu) (k+1)=ys++(if qbj ts ls cpu t then [t.no] else [])):=by show _=_;rw [ql9 ht,HI.out]
   clear ht
   cases hc:(t.cpu==cpu)
   ·have Hs2:Hid (qbw ts (qbj ts ls cpu) (k+1)=ys):=by show _=_;rw [Hs.out];unfold qbj;rw [hc];simp
    go_wp2
    exact ⟨⟨k+1,ys,by omega,by go_num,by omega,own.out.keeps ((Keeps.refl _).alloc _),hK.alloc _,Hs2⟩,by simp only [intOf];omega⟩
   ·cases hq:canP ts ls t.no
    ·have Hs2:Hid (qbw ts (qbj ts ls cpu) (k+1)=ys):=by show _=_;rw [Hs.out];unfold qbj;rw [hc,hq];simp
     have Hq:Hid (canP ts ls t.no=false):=hq
     clear hq
     go_wp2_with (go_at_call 150;refine (H.out.pCan HN.out _ Hq.out (hK.alloc _)).mono ?_;rintro e w3 ⟨rfl,k3⟩)
     exact ⟨⟨k+1,ys,by omega,by go_num,by omega,own.out.keeps (((Keeps.refl _).alloc _).trans k3),(hK.alloc _).trans k3,Hs2⟩,by simp only [intOf];omega⟩
    ·have Hs2:Hid (qbw ts (qbj ts ls cpu) (k+1)=ys++[t.no]):=by show _=_;rw [Hs.out];unfold qbj;rw [hc,hq];rfl
     have Hq:Hid (canP ts ls t.no=true):=hq
     have h12:n <= 12:=by
      unfold canP qaV at hq
      simp only [Bool.and_eq_true] at hq
      have:=qfm hq.1.1
      rw [Hn.out] at this
      exact this
     clear hq
     have KB:Keeps w (wr.alloc (.cells (tc t) 47)):=hK.alloc _
     have q1:=blkR wr (tc t) 47
     have kX:=blkK wr (.cells (tc t) 47)
     go_wp2_with (first
      | (go_at_call 150;refine (H.out.pCan HN.out _ Hq.out KB).mono ?_;rintro e w3 ⟨rfl,k3⟩;have K3:=kX.trans k3)
      | (at_builtin;(refine qbi rfl _ _ 25 rfl w 3 (.int .i64 0) 1 8 ic Tryz.underlying25 (by kernel_rfl) rfl (by decide) qaZ qci _ ys rfl wr own.out hK (K3.alloc _) t.no _ 1 (Blk.new _ _ _) rfl ?c1 ?c2 ?_)))
     case c1=>unfold maxLen;omega
     case c2=>omega
     intro v' w5 own5 k5 _
     have HO:Hid (OwnN w5 w.heap.size v' (ys++[t.no])):=own5
     clear own5 own
     go_wp2
     exact ⟨⟨k+1,ys++[t.no],by omega,by go_num,by simp;omega,HO,k5,Hs2⟩,by simp only [intOf];omega⟩
  ·have e:k=n:=by omega
   subst e
   have HR:Hid (qbw ts (qbj ts ls cpu) ts.length=ys):=by show _=_;rw [Hn.out];exact HI.out
   obtain ⟨av,cv,rfl,nv,l1,l2⟩:=OwnN.ns own.out
   have NV:Hid (Ns wr av ys):=nv
   have BO:Hid (Calls Tryz.prog 151 #[.slice a k cap,.slice av ys.length cv] wr fun e w'=>e = .returned (.int .i64 (qaP ts ys)) /\ Keeps wr w'):=ql8 wr a k cap ts av cv ys HN.out l1 (by omega) (H.out.t.keeps hK) NV.out
   have F1:Hid (qa7 ts ls cpu=qaP ts ys):=by show _=_;rw [HP1.out,HR.out]
   have F2:Hid (qaA ts ls cpu=qa1 ts ls (qaP ts ys)):=by show _=_;rw [HP2.out,HR.out]
   obtain ⟨y,Hy⟩:∃ y,Hid (qaP ts ys=y):=⟨_,rfl⟩
   obtain ⟨z,Hz⟩:∃ z,Hid (qa1 ts ls y=z):=⟨_,rfl⟩
   rw [Hy.out] at BO F1 F2
   rw [Hz.out] at F2
   obtain ⟨q,Hq⟩:∃ q,Hid (ys.length=q):=⟨_,rfl⟩
   rw [Hq.out] at BO ⊢
   clear nv own l1 l2
   go_wp2_with (first
    | (go_at_call 151;refine BO.out.mono ?_;rintro e w3 ⟨rfl,k3⟩;have K3:=hK.trans k3)
    | (go_at_call 152;refine (H.out.pExec HN.out y Hz.out K3).mono ?_;rintro e w4 ⟨rfl,k4⟩))
   go_ret2
   exact ⟨by rw [F1.out,F2.out];rfl,K3.trans k4⟩
end Go.Proofs.YthpdlbcdbncnhaaGreatDoor
