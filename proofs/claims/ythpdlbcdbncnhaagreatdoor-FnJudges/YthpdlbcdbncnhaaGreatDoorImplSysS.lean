/-
  The program's system: what is counted on a processor.
-/
import Derived.Test.YthpdlbcdbncnhaaGreatDoorImplSys
namespace Go.Proofs.YthpdlbcdbncnhaaGreatDoor
set_option maxRecDepth 100000
open Go.RowKit
attribute [local go_sem] Keeps.refl Keeps.alloc Keeps.drew Keeps.drewN
theorem qoL (t:Tsk) (w:World):(Instr.field 69 (.agg (dtc t)) 1).run Tryz.prog w = .ok (.agg #[.int .i64 t.q,.int .i64 t.p,.int .i64 t.left,.int .i64 t.due]) w:=by kernel_rfl
theorem qoM (q p l d:Int) (w:World):(Instr.field 67 (.agg #[.int .i64 q,.int .i64 p,.int .i64 l,.int .i64 d]) 0).run Tryz.prog w = .ok (.agg #[.int .i64 q,.int .i64 p]) w:=by kernel_rfl
attribute [local go_sem] qoL qoM
set_option maxHeartbeats 4000000 in
theorem qoN:qn5:=by
 intro w v s cpu h
 obtain ⟨⟨ta,tn,tcap⟩,vl,⟨ga,gn,gcap⟩,vf,vr⟩:=v
 have hm1:tn <= 2000000:=by have h1:=h.size;have h2:s.tasks.length=tn:=h.lay.tl;unfold qaj at h1;omega
 have hm2:gn <= 2000000:=by have h1:=h.size;have h2:s.ghosts.length=gn:=h.lay.gl;unfold qaj at h1;omega
 have Hn:Hid (s.tasks.length=tn):=h.lay.tl
 have Hg:Hid (s.ghosts.length=gn):=h.lay.gl
 have kW:=blkK w (.cells (syc s ⟨⟨ta,tn,tcap⟩,vl,⟨ga,gn,gcap⟩,vf,vr⟩) 37)
 have hb:=blkR w (syc s ⟨⟨ta,tn,tcap⟩,vl,⟨ga,gn,gcap⟩,vf,vr⟩) 37
 have hs1:Hid (Ts (w.alloc (.cells (syc s ⟨⟨ta,tn,tcap⟩,vl,⟨ga,gn,gcap⟩,vf,vr⟩) 37)) ta s.tasks):=h.lay.t.keeps kW
 have hs2:Hid (Gs (w.alloc (.cells (syc s ⟨⟨ta,tn,tcap⟩,vl,⟨ga,gn,gcap⟩,vf,vr⟩) 37)) ga s.ghosts):=h.lay.g.keeps kW
 clear h
 have HE:Hid (qaL s cpu=(s.tasks.filter (qa2 cpu)).map qbd++(s.ghosts.filter (ghOn cpu)).map qbH):=rfl
 go_enter Tryz.func178,Tryz.ntmps178
 go_wp2
 have HW:Hid (w.heap.size <= (w.alloc (.cells (syc s ⟨⟨ta,tn,tcap⟩,vl,⟨ga,gn,gcap⟩,vf,vr⟩) 37)).heap.size):=kW.size
 generalize w.alloc (.cells (syc s ⟨⟨ta,tn,tcap⟩,vl,⟨ga,gn,gcap⟩,vf,vr⟩) 37)=W at *
 go_loopw [5,13] (fun o i wr=>∃ (k:Nat) (xs:List (Int × Int)),k <= tn /\ i = .int .i64 k /\ xs.length <= k /\ Hid (xs=((s.tasks.take k).filter (qa2 cpu)).map qbd) /\ Hid (OwnP wr W.heap.size o xs) /\ Keeps W wr) (fun _ i _=>tn - (intOf i).toNat)
 case atStart=>exact ⟨0,[],Nat.zero_le _,rfl,by simp,by show _=_;simp,World.ownsRow_nil _ _ _ _,Keeps.refl _⟩
 case round =>
  obtain ⟨k,xs,hk,rfl,hxl,HX,O,hK⟩:=hrel
  by_cases hlt:k < tn
  ·obtain ⟨t,ht⟩:=qai (xs:=s.tasks) (k:=k) (by rw [Hn.out];exact hlt)
   obtain ⟨b,off,rfl,r0,r1⟩:=hs1.out.at ht (by omega)
   have hlt':(k:Int) < (tn:Int):=by omega
   have Hstep:=qfl (qa2 cpu) qbd ht
   rw [<- HX.out] at Hstep
   have HS:Hid (((s.tasks.take (k+1)).filter (qa2 cpu)).map qbd=xs++(if qa2 cpu t then [qbd t] else [])):=Hstep
   clear ht Hstep
   cases c1:(t.cls==1)
   ·have Hx:Hid (xs=((s.tasks.take (k+1)).filter (qa2 cpu)).map qbd):=by show _=_;rw [HS.out];simp [qa2,c1]
    go_wp2
    exact ⟨⟨k+1,xs,by omega,by go_num,by omega,Hx,O.out.keeps ((Keeps.refl _).alloc _),hK.alloc _⟩,by simp only [intOf];omega⟩
   cases c2:(t.cpu==cpu)
   ·have Hx:Hid (xs=((s.tasks.take (k+1)).filter (qa2 cpu)).map qbd):=by show _=_;rw [HS.out];simp [qa2,c1,c2]
    go_wp2
    exact ⟨⟨k+1,xs,by omega,by go_num,by omega,Hx,O.out.keeps ((Keeps.refl _).alloc _),hK.alloc _⟩,by simp only [intOf];omega⟩
   have Hx:Hid (xs++[(t.q,t.p)]=((s.tasks.take (k+1)).filter (qa2 cpu)).map qbd):=by show _=_;rw [HS.out];simp [qa2,c1,c2,qbd]
   go_wp2_with (first
    | (go_at_call 44;refine (qd0 t _).mono ?_;rintro e w4 ⟨rfl,k4⟩;have K4:Keeps wr w4:=((Keeps.refl wr).alloc _).trans k4;clear k4)
    | (at_builtin;(refine qbi rfl _ _ 95 rfl W 65 (.agg (pc (0,0))) 2 16 pc Tryz.underlying95 (by kernel_rfl) rfl (by decide) qcs qei _ xs rfl wr O.out hK (K4.alloc _) (t.q,t.p) _ 1 (Blk.new _ _ _) rfl ?c1 ?c2 ?_)))
   case c1=>unfold maxLen;omega
   case c2=>omega
   intro v' w5 own5 k5 _
   have HO:Hid (OwnP w5 W.heap.size v' (xs++[(t.q,t.p)])):=own5
   clear own5 O
   go_wp2
   exact ⟨⟨k+1,xs++[(t.q,t.p)],by omega,by go_num,by simp;omega,Hx,HO,k5⟩,by simp only [intOf];omega⟩
  ·have hlt':decide ((k:Int) < (tn:Int))=false:=by simp;omega
   have HP:Hid ((s.tasks.filter (qa2 cpu)).map qbd=xs):=by
    have h1:=HX.out
    rw [List.take_of_length_le (by have:=Hn.out;omega)] at h1
    exact h1.symm
   clear HX
   go_wp2
   generalize wr=V at *
   go_loopw [5,37] (fun o i wr=>∃ (j:Nat) (ys:List (Int × Int)),j <= gn /\ i = .int .i64 j /\ ys.length <= tn+j /\ Hid (ys=xs++((s.ghosts.take j).filter (ghOn cpu)).map qbH) /\ Hid (OwnP wr W.heap.size o ys) /\ Keeps W wr) (fun _ i _=>gn - (intOf i).toNat)
   case atStart=>exact ⟨0,xs,Nat.zero_le _,rfl,by omega,by show _=_;simp,O,hK⟩
   case round =>
    obtain ⟨j,ys,hj,rfl,hyl,HY,O2,hK2⟩:=hrel
    clear O hK
    by_cases hjt:j < gn
    ·obtain ⟨g,hg⟩:=qai (xs:=s.ghosts) (k:=j) (by rw [Hg.out];exact hjt)
     obtain ⟨b,off,rfl,r0,r1⟩:=hs2.out.at hg (by omega)
     have hjt':(j:Int) < (gn:Int):=by omega
     have HS:Hid (xs++((s.ghosts.take (j+1)).filter (ghOn cpu)).map qbH=ys++(if ghOn cpu g then [qbH g] else [])):=by
      show _=_
      rw [qfl (ghOn cpu) qbH hg,HY.out,List.append_assoc]
     clear hg
     cases c1:(g.cpu==cpu)
     ·have Hx:Hid (ys=xs++((s.ghosts.take (j+1)).filter (ghOn cpu)).map qbH):=by show _=_;rw [HS.out];simp [ghOn,c1]
      go_wp2
      exact ⟨⟨j+1,ys,by omega,by go_num,by omega,Hx,O2.out.keeps ((Keeps.refl _).alloc _),hK2.alloc _⟩,by simp only [intOf];omega⟩
     have Hx:Hid (ys++[(g.q,g.p)]=xs++((s.ghosts.take (j+1)).filter (ghOn cpu)).map qbH):=by show _=_;rw [HS.out];simp [ghOn,c1,qbH]
     go_wp2_with (at_builtin;(refine qbi rfl _ _ 95 rfl W 65 (.agg (pc (0,0))) 2 16 pc Tryz.underlying95 (by kernel_rfl) rfl (by decide) qcs qei _ ys rfl wr O2.out hK2 (((Keeps.refl _).alloc _).alloc _) (g.q,g.p) (wr.heap.size+1) 1 (by have:=Blk.new (wr.alloc (.cells (ghc g) 107)) (pc (g.q,g.p)) 65;simpa using this) rfl ?c1 ?c2 ?_))
     case c1=>unfold maxLen;omega
     case c2=>omega
     intro v' w5 own5 k5 _
     have HO:Hid (OwnP w5 W.heap.size v' (ys++[(g.q,g.p)])):=own5
     clear own5 O2
     go_wp2
     exact ⟨⟨j+1,ys++[(g.q,g.p)],by omega,by go_num,by simp;omega,Hx,HO,k5⟩,by simp only [intOf];omega⟩
    ·have hjt':decide ((j:Int) < (gn:Int))=false:=by simp;omega
     have HQ:Hid (qaL s cpu=ys):=by
      have h1:=HY.out
      rw [List.take_of_length_le (by have:=Hg.out;omega)] at h1
      show _=_
      rw [HE.out,h1,HP.out]
     go_wp2
     go_ret
     exact ⟨_,rfl,by rw [HQ.out];exact O2.out.base HW.out,kW.trans hK2⟩
end Go.Proofs.YthpdlbcdbncnhaaGreatDoor
