/-
  Locks: the model's copy of them.
-/
import Derived.Test.YteagpjlgjfaclaaGreatDoorLockSpec2
namespace Go.Proofs.YteagpjlgjfaclaaGreatDoor
set_option maxRecDepth 100000
open Go.RowKit
attribute [local go_sem] aa.refl aa.alloc aa.drew aa.drewN
theorem qE {α:Type} {sz:Nat} {c:α->Array Value} {w:World} {b:Nat} {y:α} (hb:ai w b (c y)):cH sz c w (some ⟨b,0,none⟩) [y]:=by
 refine .inr ⟨_,_,rfl,hb.lt,fun i x hx k hk => ?_⟩
 cases i with
 | zero=>simp at hx;subst hx;simpa using hb.cells k
 | succ i=>simp at hx
set_option maxHeartbeats 4000000 in
theorem wv (a:Option Addr) (cap:Nat) (ls:List Lk) (w:World) (hl:bT ls <= 2097152) (hs:dU true w a ls) :
  Calls Tryz.prog 90 #[.slice a ls.length cap] w fun e w'=>∃ v vs,e = .returned v /\ Mine w' w.heap.size w'.heap.size v vs ls /\ aa w w':=by
 have HL:Hid (bT ls <= 2097152):=hl
 have hl0:ls.length <= 2097152:=by unfold bT at hl;omega
 clear hl
 have HS:Hid (dU true w a ls):=hs
 clear hs
 generalize hn:ls.length=n at hl0
 have Hn:Hid (ls.length=n):=hn
 clear hn
 go_enter Tryz.func90,Tryz.ntmps90
 go_wp2
 have kz:Hid (aa w (w.alloc (.cells #[] 37))):=(aa.refl _).alloc _
 have dQ:Hid (Mine (w.alloc (.cells #[] 37)) w.heap.size (w.alloc (.cells #[] 37)).heap.size (.slice (some ⟨w.heap.size,0,none⟩) 0 0) [] []):=Mine.none _ _ _ _ (Own.new 37 2 gk w (Nat.le_refl _)) (fun b e=>by simp [Value.ownBlock] at e;simp;omega)
 generalize w.alloc (.cells #[] 37)=W at *
 go_loopw [3,4] (fun v i wr=>∃ (k:Nat) (vs:List Lv),k <= n /\ i = .int .i64 k /\ Hid (Mine wr w.heap.size wr.heap.size v vs (ls.take k)) /\ aa w wr) (fun _ i _=>n - (intOf i).toNat)
 case atStart=>exact ⟨0,[],Nat.zero_le _,rfl,by show Mine _ _ _ _ _ _;rw [List.take_zero];exact dQ.out,kz.out⟩
 case round =>
  obtain ⟨k,vs,hk,rfl,M,hK⟩:=hrel
  clear dQ kz
  by_cases hlt:k < n
  ·obtain ⟨l,hl1⟩:=bW (xs:=ls) (k:=k) (by rw [Hn.out];exact hlt)
   obtain ⟨b,off,a',cap',rfl,r0,r1,hle,hns,hpl⟩:=HS.out.tK hl1
   have hlt':(k:Int) < (n:Int):=by omega
   have Hl:Hid (ls[k]?=some l):=hl1
   have N1:Hid (Ns w a' l.waits):=hns
   have hw1:Hid (l.waits.length <= 2097152):=by show _ <= _;have:=lM hl1;have:=HL.out;unfold bT at this;omega
   have hvl:Hid (vs.length <= 2097152):=by show _ <= _;rw [M.out.len];simp;omega
   obtain ⟨av,cv,ev,-,-⟩:=M.out.gP
   obtain ⟨nv,Mx⟩:∃ nv,Hid ((ls.take k).length=nv):=⟨_,rfl⟩
   rw [Mx.out] at ev
   subst ev
   clear hl1 hle hns
   have pl:=hpl rfl
   clear hpl
   obtain ⟨m,Hm⟩:∃ m:Nat,Hid (l.waits.length=m):=⟨_,rfl⟩
   rw [Hm.out] at r1 pl
   rcases pl with ⟨rfl,rfl,rfl⟩ | ⟨b2,jN,rfl,hb2⟩
   ·have My:Hid (l.waits=[]):=List.eq_nil_of_length_eq_zero Hm.out
    go_wp2_with fail
    go_region_law (first
     | (refine Mz rfl (.tmp 18) (.tmp 23) 27 rfl wr.heap.size 3 (.int .i64 0) 1 8 ic Tryz.underlying27 (by kernel_rfl) (.slice (some ⟨wr.heap.size,0,none⟩) 0 0) [] (by simp [Act.eval]) ((Own.new 3 1 ic wr (Nat.le_refl _)).keeps (aa.refl _).drew) (by simp [Act.eval]) ?_)
     | (refine pA rfl (.tmp 12) (.tmp 26) 25 rfl w.heap.size 37 (.agg #[.int .i64 0,.slice none 0 0]) 2 32 gk Tryz.underlying25 (by kernel_rfl) rfl (by decide) gJ Cc (.slice av nv cv) vs (by simp [Act.eval]) (M.out.own.keeps (((aa.refl wr).alloc _).alloc _).drew) (by have:=hK.size;simp;omega) [⟨l.owner,some ⟨wr.heap.size,0,none⟩,0,0⟩] _ 0 1 (qE ((ai.new _ _ _).keeps (aa.refl _).drew)) (by simp [Act.eval]) (by have:=hvl.out;simp [maxLen];omega) (by have:=hvl.out;simp;omega) ?_;intro v2 w2 o2 g2 f2))
    all_goals
     have O2:Hid (Own 37 2 gk w2 w.heap.size v2 (vs++[⟨l.owner,some ⟨wr.heap.size,0,none⟩,0,0⟩])):=o2
     have G2:Hid (((wr.alloc (.cells #[] 3)).alloc (.cells #[.int .i64 l.owner,.slice (some ⟨wr.heap.size,0,none⟩) 0 0] 37)).drew.grownBy w2 (Value.slice av nv cv).ownBlock):=g2
     clear o2 g2
     go_wp2
     refine ⟨⟨k+1,vs++[⟨l.owner,some ⟨wr.heap.size,0,none⟩,0,0⟩],by omega,by go_num,?_,?_⟩,by simp only [intOf];omega⟩
     ·show Mine _ _ _ _ _ _
      rw [List.take_add_one,Hl.out]
      have sz:=G2.out.size
      simp only [World.size_drew,World.size_alloc] at sz
      refine (M.out.keeps (((aa.refl wr).alloc _).alloc _).drew).push O2.out G2.out rfl (by rw [My.out];exact ((Own.new 3 1 ic wr hK.size).alloc _).keeps (aa.refl _).drew) (fun q hq => ?_) (fun q hq => ?_) (by omega)
      ·simp [Value.ownBlock] at hq
       simp only [World.size_drew,World.size_alloc]
       omega
      ·have h1:=O2.out.cD q hq
       rcases f2 q hq with h3 | h3
       ·exact .inl h3
       ·exact .inr ⟨by omega,h1.2⟩
     ·refine aa.grown (((hK.alloc _).alloc _).drew) G2.out fun q hq => ?_
      exact (M.out.own.cD q hq).1
   ·go_wp2_with fail
    go_region_law (first
     | (refine pA rfl (.tmp 18) (.tmp 23) 27 rfl wr.heap.size 3 (.int .i64 0) 1 8 ic Tryz.underlying27 (by kernel_rfl) rfl (by decide) fW lN (.slice (some ⟨wr.heap.size,0,none⟩) 0 0) [] (by simp [Act.eval]) ((Own.new 3 1 ic wr (Nat.le_refl _)).keeps (aa.refl _).drew) (by simp) l.waits b2 jN cap' (N1.out.keeps ((hK.alloc _).drew)).lies (by rw [Hm.out];simp [Act.eval]) (by have:=hw1.out;unfold maxLen;simp;omega) (by have:=hw1.out;simp;omega) ?_;intro v1 w1 o1 g1 f1;obtain ⟨a1,c1,e1,-,-,-⟩:=aS.ns (xs:=[]++l.waits) o1;rw [List.nil_append,Hm.out] at e1;subst e1;have KV:Hid (aa wr w1):=((aa.refl wr).alloc _).drew.grown g1 (by intro q hq;simp [Value.ownBlock] at hq;omega);have OV:Hid (Own 37 2 gk w1 w.heap.size (.slice av nv cv) vs):=M.out.own.keeps KV.out;have kk:aa w w1:=hK.trans KV.out)
     | (refine pA rfl (.tmp 12) (.tmp 26) 25 rfl w.heap.size 37 (.agg #[.int .i64 0,.slice none 0 0]) 2 32 gk Tryz.underlying25 (by kernel_rfl) rfl (by decide) gJ Cc (.slice av nv cv) vs (by simp [Act.eval]) (OV.out.alloc _) (by have:=kk.size;simp;omega) [⟨l.owner,a1,m,c1⟩] _ 0 1 (qE (ai.new _ _ _)) (by simp [Act.eval]) (by have:=hvl.out;simp [maxLen];omega) (by have:=hvl.out;simp;omega) ?_;intro v2 w2 o2 g2 f2))
    all_goals
     have O1:Hid (aS w1 wr.heap.size (.slice a1 m c1) l.waits):=o1
     have O2:Hid (Own 37 2 gk w2 w.heap.size v2 (vs++[⟨l.owner,a1,m,c1⟩])):=o2
     have G2:Hid ((w1.alloc (.cells #[.int .i64 l.owner,.slice a1 m c1] 37)).grownBy w2 (Value.slice av nv cv).ownBlock):=g2
     clear o1 o2 g1 g2
     go_wp2
     refine ⟨⟨k+1,vs++[⟨l.owner,a1,m,c1⟩],by omega,by go_num,?_,?_⟩,by simp only [intOf];omega⟩
     ·show Mine _ _ _ _ _ _
      rw [List.take_add_one,Hl.out]
      refine ((M.out.keeps KV.out).keeps ((aa.refl w1).alloc _)).push O2.out G2.out rfl (Own.alloc (Own.base O1.out hK.size) _) (fun q hq => ?_) (fun q hq => ?_) (Nat.le_trans KV.out.size (Nat.le_trans (by simp) G2.out.size))
      ·have h1:=O1.out.cD q hq
       have h2:=G2.out.size
       simp only [World.size_alloc] at h2 ⊢
       omega
      ·have h1:=O2.out.cD q hq
       rcases f2 q hq with h3 | h3
       ·exact .inl h3
       ·exact .inr ⟨by omega,h1.2⟩
     ·refine aa.grown ((hK.trans KV.out).alloc _) G2.out fun q hq => ?_
      exact (M.out.own.cD q hq).1
  ·have e:k=n:=by omega
   subst e
   go_wp2
   go_ret
   refine ⟨_,vs,rfl,?_,hK⟩
   have:=M.out
   rw [<- Hn.out,List.take_length] at this
   exact this
end Go.Proofs.YteagpjlgjfaclaaGreatDoor
