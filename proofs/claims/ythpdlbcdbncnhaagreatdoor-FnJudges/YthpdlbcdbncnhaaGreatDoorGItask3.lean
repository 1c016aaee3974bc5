/-
  A list of tasks: the program's TasksOk. A task is put among
-/
import Derived.Test.YthpdlbcdbncnhaaGreatDoorGItask2
import Derived.Test.YthpdlbcdbncnhaaGreatDoorGTask3
namespace Go.Proofs.YthpdlbcdbncnhaaGreatDoor
set_option maxRecDepth 100000
open Go.RowKit
attribute [local go_sem] Keeps.refl Keeps.alloc Keeps.drew Keeps.drewN
theorem qmh {ts:List Tsk} (h:12 < ts.length):qao ts=false:=by
 have:decide (ts.length <= 12)=false:=by simp;omega
 simp [qao,this]
set_option maxHeartbeats 4000000 in
theorem qhH:qoh:=by
 intro a cap ts w hl hs
 unfold maxLen at hl
 generalize hn:ts.length=n at hl
 have Hn:Hid (ts.length=n):=hn
 clear hn
 by_cases h12:n <= 12
 case neg =>
  have hd:decide (12 < (n:Int))=true:=by simp;omega
  have Hr:Hid (qao ts=false):=qmh (by rw [Hn.out];omega)
  go_enter Tryz.func173,Tryz.ntmps173
  go_wp2
  go_ret
  exact ⟨by rw [Hr.out];rfl,Keeps.refl _⟩
 have hd:decide (12 < (n:Int))=false:=by simp;omega
 go_enter Tryz.func173,Tryz.ntmps173
 go_wp2
 go_loopw [10] (fun i wr=>∃ k:Nat,k <= n /\ i = .int .i64 k /\ Keeps w wr /\ Hid (∀ j t,j < k->ts[j]?=some t->qae t=true) /\ Hid (∀ j s t,j+1 < k->ts[j]?=some s->ts[j+1]?=some t->s.no < t.no)) (fun i _=>n - (intOf i).toNat)
 case atStart=>exact ⟨0,Nat.zero_le _,rfl,Keeps.refl _,fun j t hj=>by omega,fun j s t hj=>by omega⟩
 case round =>
  obtain ⟨k,hk,rfl,hK,H1,H2⟩:=hrel
  by_cases hlt:k < n
  ·obtain ⟨t,ht⟩:=qbB (xs:=ts) (k:=k) (by rw [Hn.out];exact hlt)
   have hlt':(k:Int) < (n:Int):=by omega
   have Ht:Hid (ts[k]?=some t):=ht
   have kW:Keeps w (wr.alloc (.cells (tc t) 47)):=hK.alloc _
   have q1:=blkR wr (tc t) 47
   have K0:=Keeps.refl (wr.alloc (.cells (tc t) 47))
   cases hb:qae t
   ·obtain ⟨b,off,rfl,r0,r1⟩:=hs.at ht (by omega)
    have Hr:Hid (qao ts=false):=qiU ht hb
    clear hs ht
    go_wp2_with fail
    clear r0 r1 hK
    generalize wr.alloc (.cells (tc t) 47)=W at *
    generalize wr.heap.size=s at *
    refine wp_region_held_drew (S:=(fun w'=>Keeps W w')) (by kernel_rfl) ?_ (fun hHeld => ?_)
    ·exact K0.drew
    refine qan 0 (v := ?_) (by simp only [qab];rfl) (by kernel_rfl) (by exact fun _ _ _ h=>h) (by rfl) (by assumption) ?_ ?_
    rotate_left
    ·(intro w _;go_simp;try (with_reducible rfl))
    try simp only [qaa]
    refine qad 1 (by kernel_rfl) (by simp only [qab];rfl) (fun K hK => ?_)
    go_simp
    first
     | (go_at_call 83;refine (qc7 t _).mono ?_;rintro e w' ⟨rfl,hkk⟩;rw [hb])
    try go_wp2_with fail
    refine hK.out _ _ ?_ (fun hHeld => ?_)
    ·exact Keeps.trans (by assumption) (by assumption)
    clear hK K
    try simp only [qaa]
    refine Plan.go [2,3] ?_
    iterate 2 (refine qac (by simp only [qab];rfl) (by kernel_rfl) (by exact fun _ _ _ h=>h) (by rfl) (by assumption) (fun w _=>by go_simp;try (with_reducible rfl)) ?_;try simp only [qaa])
    refine Plan.nil ?_
    refine Plan.go [4,5,6,7,8,9,10,11,12,13,14,15,16] ?_
    iterate 13 (refine qaq (by simp only [qab];rfl) (by kernel_rfl) (by exact fun _ _ _ h=>h) (by rfl) (by assumption) ?_;try simp only [qaa])
    refine Plan.nil ?_
    refine qan 17 (v := ?_) (by simp only [qab];rfl) (by kernel_rfl) (by exact fun _ _ _ h=>h) (by rfl) (by assumption) ?_ ?_
    rotate_left
    ·(intro w _;go_simp;try (with_reducible rfl))
    try simp only [qaa]
    refine wpAnyH_done (by kernel_rfl) ?_ _
    go_wp2
    go_ret
    exact ⟨by rw [Hr.out];rfl,kW.trans (by assumption)⟩
   ·rcases Nat.eq_zero_or_pos k with h0 | h0
    ·obtain ⟨b,off,rfl,r0,r1⟩:=hs.at ht (by omega)
     have hz:decide (0 < k)=false:=by simp;omega
     have H0:Hid (k=0):=h0
     clear hs ht h0
     go_wp2_with fail
     clear r0 r1 hK
     generalize wr.alloc (.cells (tc t) 47)=W at *
     generalize wr.heap.size=s at *
     refine wp_region_held_drew (S:=(fun w'=>Keeps W w')) (by kernel_rfl) ?_ (fun hHeld => ?_)
     ·exact K0.drew
     refine qan 0 (v := ?_) (by simp only [qab];rfl) (by kernel_rfl) (by exact fun _ _ _ h=>h) (by rfl) (by assumption) ?_ ?_
     rotate_left
     ·(intro w _;go_simp;try (with_reducible rfl))
     try simp only [qaa]
     refine qad 1 (by kernel_rfl) (by simp only [qab];rfl) (fun K hK => ?_)
     go_simp
     first
      | (go_at_call 83;refine (qc7 t _).mono ?_;rintro e w' ⟨rfl,hkk⟩;rw [hb])
     try go_wp2_with fail
     refine hK.out _ _ ?_ (fun hHeld => ?_)
     ·exact Keeps.trans (by assumption) (by assumption)
     clear hK K
     try simp only [qaa]
     refine Plan.go [2,3,4,5,6] ?_
     iterate 5 (refine qac (by simp only [qab];rfl) (by kernel_rfl) (by exact fun _ _ _ h=>h) (by rfl) (by assumption) (fun w _=>by go_simp;try (with_reducible rfl)) ?_;try simp only [qaa])
     refine Plan.nil ?_
     refine Plan.go [7,8,9,10,11,12,13,14,15] ?_
     iterate 9 (refine qaq (by simp only [qab];rfl) (by kernel_rfl) (by exact fun _ _ _ h=>h) (by rfl) (by assumption) ?_;try simp only [qaa])
     refine Plan.nil ?_
     refine Plan.go [16,17] ?_
     iterate 2 (refine qac (by simp only [qab];rfl) (by kernel_rfl) (by exact fun _ _ _ h=>h) (by rfl) (by assumption) (fun w _=>by go_simp;try (with_reducible rfl)) ?_;try simp only [qaa])
     refine Plan.nil ?_
     refine wpAnyH_done (by kernel_rfl) ?_ _
     go_wp2
     exact ⟨⟨k+1,by omega,by go_num,kW.trans (by assumption),fun j s hj hjs=>by
      obtain rfl:j=k:=by have:=H0.out;omega
      rw [Ht.out] at hjs;cases hjs;exact hb,fun j s u hj=>by have:=H0.out;omega⟩,by simp only [intOf];omega⟩
    ·obtain ⟨m,hm⟩:∃ m,k=m+1:=⟨k - 1,by omega⟩
     obtain ⟨s,hs1⟩:=qbB (xs:=ts) (k:=m) (by rw [Hn.out];omega)
     obtain ⟨b,off,rfl,r0,r1⟩:=hs.at ht (by omega)
     obtain ⟨b',off',e',p0,p1⟩:=hs.at hs1 (by omega)
     simp only [Option.some.injEq,Addr.mk.injEq] at e'
     obtain ⟨rfl,rfl,-⟩:=e'
     have Hs:Hid (ts[m]?=some s):=hs1
     have hk1:(m:Int) < (n:Int):=by omega
     have hp:0 < k:=h0
     have hm1:(k:Int) - 1=(m:Int):=by omega
     have hw:IntKind.i64.wrap (m:Int)=(m:Int):=Go.IntWalk.i64_in _ (by omega)
     have Hm:Hid (k=m+1):=hm
     have p2:∀ w',Keeps (wr.alloc (.cells (tc t) 47)) w'->w'.cell? ⟨b,off+m*14,none⟩=(tc s)[0]?:=fun w' h=>p0 w' (kW.trans h)
     clear hs ht hs1 p0 p1 hm h0
     cases hd:decide (t.no <= s.no)
     ·go_wp2_with fail
      clear r0 r1 hK
      generalize wr.alloc (.cells (tc t) 47)=W at *
      generalize wr.heap.size=g at *
      refine wp_region_held_drew (S:=(fun w'=>Keeps W w')) (by kernel_rfl) ?_ (fun hHeld => ?_)
      ·exact K0.drew
      refine qan 0 (v := ?_) (by simp only [qab];rfl) (by kernel_rfl) (by exact fun _ _ _ h=>h) (by rfl) (by assumption) ?_ ?_
      rotate_left
      ·(intro w _;go_simp;try (with_reducible rfl))
      try simp only [qaa]
      refine qad 1 (by kernel_rfl) (by simp only [qab];rfl) (fun K hK => ?_)
      go_simp
      first
       | (go_at_call 83;refine (qc7 t _).mono ?_;rintro e w' ⟨rfl,hkk⟩;rw [hb])
      try go_wp2_with fail
      refine hK.out _ _ ?_ (fun hHeld => ?_)
      ·exact Keeps.trans (by assumption) (by assumption)
      clear hK K
      try simp only [qaa]
      refine Plan.go [2,3,4,5,6,7,8,9,10,11,12,13,14,15,16,17] ?_
      iterate 16 (refine qac (by simp only [qab];rfl) (by kernel_rfl) (by exact fun _ _ _ h=>h) (by rfl) (by assumption) (fun w _=>by go_simp;try (with_reducible rfl)) ?_;try simp only [qaa])
      refine Plan.nil ?_
      refine wpAnyH_done (by kernel_rfl) ?_ _
      go_wp2
      exact ⟨⟨k+1,by omega,by go_num,kW.trans (by assumption),fun j x hj hjx=>by
       by_cases e:j=k
       ·subst e;rw [Ht.out] at hjx;cases hjx;exact hb
       ·exact H1.out j x (by omega) hjx,fun j x y hj hx hy=>by
       have hk:=Hm.out
       by_cases e:j=m
       ·subst e;rw [<- hk] at hy;rw [Hs.out] at hx;rw [Ht.out] at hy;cases hx;cases hy
        have:=of_decide_eq_false hd;omega
       ·exact H2.out j x y (by omega) hx hy⟩,by simp only [intOf];omega⟩
     ·have Hr:Hid (qao ts=false):=qiV Hs.out (by rw [<- Hm.out];exact Ht.out) (of_decide_eq_true hd)
      go_wp2_with fail
      clear r0 r1 hK
      generalize wr.alloc (.cells (tc t) 47)=W at *
      generalize wr.heap.size=g at *
      refine wp_region_held_drew (S:=(fun w'=>Keeps W w')) (by kernel_rfl) ?_ (fun hHeld => ?_)
      ·exact K0.drew
      refine qan 0 (v := ?_) (by simp only [qab];rfl) (by kernel_rfl) (by exact fun _ _ _ h=>h) (by rfl) (by assumption) ?_ ?_
      rotate_left
      ·(intro w _;go_simp;try (with_reducible rfl))
      try simp only [qaa]
      refine qad 1 (by kernel_rfl) (by simp only [qab];rfl) (fun K hK => ?_)
      go_simp
      first
       | (go_at_call 83;refine (qc7 t _).mono ?_;rintro e w' ⟨rfl,hkk⟩;rw [hb])
      try go_wp2_with fail
      refine hK.out _ _ ?_ (fun hHeld => ?_)
      ·exact Keeps.trans (by assumption) (by assumption)
      clear hK K
      try simp only [qaa]
      refine Plan.go [2,3,4,5,6,7,8,9,10,11,12,13,14,15,16,17] ?_
      iterate 16 (refine qac (by simp only [qab];rfl) (by kernel_rfl) (by exact fun _ _ _ h=>h) (by rfl) (by assumption) (fun w _=>by go_simp;try (with_reducible rfl)) ?_;try simp only [qaa])
      refine Plan.nil ?_
      refine wpAnyH_done (by kernel_rfl) ?_ _
      go_wp2
      go_ret
      exact ⟨by rw [Hr.out];rfl,kW.trans (by assumption)⟩
  ·have Hr:Hid (qao ts=true):=by
    show _=_
    have hh:∀ (j:Nat) (t:Tsk),ts[j]?=some t->j < k:=fun j t h=>by
     rcases Nat.lt_or_ge j ts.length with h' | h'
     ·have:=Hn.out;omega
     ·simp [List.getElem?_eq_none h'] at h
    rw [qiW (fun j t h=>H1.out j t (hh j t h) h) (fun j s t h1 h2=>H2.out j s t (hh _ t h2) h1 h2),Hn.out]
    simp [h12]
   go_wp2
   go_ret
   exact ⟨by rw [Hr.out];rfl,hK⟩
end Go.Proofs.YthpdlbcdbncnhaaGreatDoor
