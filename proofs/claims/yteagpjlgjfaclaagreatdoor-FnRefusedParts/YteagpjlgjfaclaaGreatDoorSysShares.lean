/-
  The system: contracts of the model's functions that only re
  The system: the parts of time that are counted on a process
-/
import Derived.Test.YteagpjlgjfaclaaGreatDoorStepCopy
import Derived.Test.YteagpjlgjfaclaaGreatDoorSum
namespace Go.Proofs.YteagpjlgjfaclaaGreatDoor
set_option maxRecDepth 100000
open Go.RowKit
attribute [local go_sem] Keeps.refl Keeps.alloc Keeps.drew Keeps.drewN
theorem qb6 {α:Type} {xs:List α} {k:Nat} {x:α} (h:xs[k]?=some x):xs.take (k+1)=xs.take k++[x]:=by
 have hk:=qaw h
 rw [List.getElem?_eq_getElem hk] at h
 simp only [Option.some.injEq] at h
 rw [List.take_succ_eq_append_getElem hk,h]
theorem qcS {α:Type} {xs:List α} {k:Nat} {x d:α} (h:xs[k]?=some x):xs.getD k d=x:=by simp [List.getD,h]
set_option maxHeartbeats 1000000 in
theorem qmi {w:World} {v:Sv} {s:Sy} (h:SysOn w v s) (cpu:Int) :
  Calls Tryz.prog 143 #[.agg (syc s v),.int .i64 cpu] w fun e w'=>e = .returned (.int .i64 (qdf s cpu)) /\ Keeps w w':=by
 have hm:v.f.n <= 2000000:=by have:=h.size;have:=h.lay.fl;unfold qai at *;omega
 have e1:IntKind.i64.wrap ((v.f.n:Int) - 1)=(v.f.n:Int) - 1:=Go.IntWalk.i64_in _ (by omega)
 have HF:Hid (qdf s cpu=if inB cpu 0 ((v.f.n:Int) - 1) then s.floors.getD cpu.toNat 0 else 0):=by show _=_;unfold qdf;rw [h.lay.fl]
 cases hc:inB cpu 0 ((v.f.n:Int) - 1)
 ·have Hr:Hid (qdf s cpu=0):=by show _=_;rw [HF.out,hc];rfl
  go_enter Tryz.func143,Tryz.ntmps143
  go_wp2_with (go_at_call 27;refine (qag _ _ _ _).mono ?_;rintro e w' ⟨rfl,hw'⟩;have hw2:=hw'.symm;subst hw2;rw [hc])
  go_ret
  exact ⟨by rw [Hr.out];rfl,(Keeps.refl _).alloc _⟩
 ·obtain ⟨c0,c1⟩:=qas.1 hc
  obtain ⟨k,rfl⟩:∃ k:Nat,cpu=(k:Int):=⟨cpu.toNat,by omega⟩
  obtain ⟨x,hx⟩:=qal (xs:=s.floors) (k:=k) (by rw [h.lay.fl];omega)
  obtain ⟨b,off,ha,r0⟩:=h.lay.f.at hx
  have Hr:Hid (qdf s k=x):=by show _=_;rw [HF.out,hc,if_pos rfl,Int.toNat_natCast,qcS hx]
  have hlt:(k:Int) < (v.f.n:Int):=by omega
  have r1:∀ w',Keeps w w'->w'.cell? ⟨b,off+k,none⟩=some (.int .i64 x):=r0
  clear HF hx r0 h
  go_enter Tryz.func143,Tryz.ntmps143
  go_wp2_with (go_at_call 27;refine (qag _ _ _ _).mono ?_;rintro e w' ⟨rfl,hw'⟩;have hw2:=hw'.symm;subst hw2;rw [hc])
  go_ret
  exact ⟨by rw [Hr.out];rfl,(Keeps.refl _).alloc _⟩
set_option maxHeartbeats 2000000 in
theorem qmj {w:World} {v:Sv} {s:Sy} (h:SysOn w v s) (hc:1 <= s.cpus /\ s.cpus <= 4) :
  Calls Tryz.prog 30 #[.agg (syc s v)] w fun e w'=>e = .returned (.bool (qbX s)) /\ Keeps w w':=by
 obtain ⟨hc1,hc2⟩:=hc
 have hm:v.g.n <= 2000000:=by have:=h.size;have:=h.lay.gl;unfold qai at *;omega
 have Hn:Hid (s.ghosts.length=v.g.n):=h.lay.gl
 have hs:Gs w v.g.a s.ghosts:=h.lay.g
 have e1:IntKind.i64.wrap (s.cpus - 1)=s.cpus - 1:=Go.IntWalk.i64_in _ (by omega)
 clear h
 have kW:=blkK w (.cells (syc s v) 30)
 have hb:=blkR w (syc s v) 30
 have hs1:=hs.keeps kW
 clear hs
 go_enter Tryz.func30,Tryz.ntmps30
 go_wp2
 generalize w.alloc (.cells (syc s v) 30)=W at *
 go_loopw [3] (fun i wr=>∃ k:Nat,k <= v.g.n /\ i = .int .i64 k /\ Hid ((s.ghosts.take k).all (ghB s.cpus)=true) /\ Keeps W wr) (fun i _=>v.g.n - (intOf i).toNat)
 case atStart=>exact ⟨0,Nat.zero_le _,rfl,by show _=_;simp,Keeps.refl _⟩
 case round =>
  obtain ⟨k,hk,rfl,HA,hK⟩:=hrel
  by_cases hlt:k < v.g.n
  ·obtain ⟨g,hg⟩:=qal (xs:=s.ghosts) (k:=k) (by rw [Hn.out];exact hlt)
   obtain ⟨b,off,ha,r0,r1⟩:=hs1.at hg (by omega)
   have hlt':(k:Int) < (v.g.n:Int):=by omega
   have Hg:Hid (s.ghosts[k]?=some g):=hg
   have Hstep:Hid ((s.ghosts.take (k+1)).all (ghB s.cpus)=ghB s.cpus g):=by
    show _=_
    rw [qb6 hg,List.all_append,HA.out]
    simp
   have Hno:Hid (ghB s.cpus g=false->qbX s=false):=fun e=>by
    unfold qbX
    rw [List.all_eq_false.2 ⟨g,List.mem_of_getElem? hg,by rw [e];simp⟩]
    rfl
   clear hg hs1 Hg
   go_wp2_with fail
   have K0:Keeps W (wr.alloc (.cells (ghc g) 87)):=hK.alloc _
   have hX:=blkR wr (ghc g) 87
   change Calls _ _ _ (wr.alloc (.cells (ghc g) 87)) _
   generalize wr.alloc (.cells (ghc g) 87)=X at *
   refine (qag _ _ _ _).mono ?_
   rintro e w' ⟨rfl,hw'⟩
   have hw2:=hw'.symm
   subst hw2
   cases c1:inB g.cpu 0 (s.cpus - 1)
   ·have Hr:Hid (qbX s=false):=Hno.out (by unfold ghB;rw [c1];rfl)
    go_wp2
    go_ret
    exact ⟨by rw [Hr.out];rfl,kW.trans K0⟩
   go_wp2_with fail
   refine (qfy g.q g.p _).mono ?_
   rintro e w1 ⟨rfl,k1⟩
   have K1:Keeps W w1:=K0.trans k1
   cases c2:okB g.q g.p
   ·have Hr:Hid (qbX s=false):=Hno.out (by unfold ghB;rw [c1,c2];rfl)
    go_wp2
    go_ret
    exact ⟨by rw [Hr.out];rfl,kW.trans K1⟩
   go_wp2_with fail
   refine (qag _ _ _ _).mono ?_
   rintro e w' ⟨rfl,hw'⟩
   have hw2:=hw'.symm
   subst hw2
   cases c3:inB g.til 0 100040
   ·have Hr:Hid (qbX s=false):=Hno.out (by unfold ghB;rw [c1,c2,c3];rfl)
    go_wp2
    go_ret
    exact ⟨by rw [Hr.out];rfl,kW.trans K1⟩
   have HG:Hid ((s.ghosts.take (k+1)).all (ghB s.cpus)=true):=by show _=_;rw [Hstep.out];unfold ghB;rw [c1,c2,c3];rfl
   go_wp2
   exact ⟨⟨k+1,by omega,by go_num,HG,K1⟩,by simp only [intOf];omega⟩
  ·have hlt':decide ((k:Int) < (v.g.n:Int))=false:=by simp;omega
   have Hr:Hid (qbX s=decide ((v.g.n:Int) <= 12)):=by
    have h1:=HA.out
    rw [List.take_of_length_le (by have:=Hn.out;omega)] at h1
    show _=_
    unfold qbX
    rw [h1,Hn.out,Bool.true_and]
    congr 1
    exact propext (by omega)
   go_wp2
   go_ret
   exact ⟨by rw [Hr.out];rfl,kW.trans hK⟩
end Go.Proofs.YteagpjlgjfaclaaGreatDoor
namespace Go.Proofs.YteagpjlgjfaclaaGreatDoor
set_option maxRecDepth 100000
open Go.RowKit
attribute [local go_sem] Keeps.refl Keeps.alloc Keeps.drew Keeps.drewN
abbrev pc (x:Int × Int):Array Value:=#[.int .i64 x.1,.int .i64 x.2]
theorem qaq (x:Int × Int):(pc x).size=2:=rfl
theorem qba (x:Int × Int):∀ u∈(pc x).toList,u.oneCell'=true:=by
 intro u hu
 simp at hu
 rcases hu with rfl | rfl <;> rfl
abbrev OwnP (w:World) (base:Nat) (v:Value) (xs:List (Int × Int)):Prop:=Own 51 2 pc w base v xs
theorem qhF {w:World} {a:Option Addr} {xs:List (Int × Int)} (h:Lies 2 pc w a xs):Sh w a xs:=by
 rcases h with h | ⟨b,off,rfl,hb,h⟩
 ·exact .inl h
 ·refine .inr ⟨b,off,rfl,fun i hi => ?_⟩
  obtain ⟨x,hx⟩:=qal hi
  have e:xs.getD i (0,0)=x:=qcS hx
  rw [e]
  exact ⟨by simpa using h i x hx 0 (by omega),by simpa using h i x hx 1 (by omega)⟩
theorem qeP {α β:Type} (p:α->Bool) (f:α->β) {xs:List α} {k:Nat} {x:α} (h:xs[k]?=some x):((xs.take (k+1)).filter p).map f=((xs.take k).filter p).map f++(if p x then [f x] else []):=by
 rw [qb6 h,List.filter_append,List.map_append]
 congr 1
 cases e:p x <;> simp [e]
set_option maxHeartbeats 4000000 in
theorem qfF {w:World} {v:Sv} {s:Sy} (h:SysOn w v s) (cpu:Int) :
  Calls Tryz.prog 32 #[.agg (syc s v),.int .i64 cpu] w fun e w'=>∃ u,e = .returned u /\ OwnP w' w.heap.size u (qan s cpu) /\ Keeps w w':=by
 have hm:v.t.n <= 2000000 /\ v.g.n <= 2000000:=by have:=h.size;have:=h.lay.gl;have:=h.lay.tl;unfold qai at *;omega
 obtain ⟨hm1,hm2⟩:=hm
 have Hn:Hid (s.tasks.length=v.t.n):=h.lay.tl
 have Hg:Hid (s.ghosts.length=v.g.n):=h.lay.gl
 have kW:=blkK w (.cells (syc s v) 30)
 have hb:=blkR w (syc s v) 30
 have hs1:Hid (Ts (w.alloc (.cells (syc s v) 30)) v.t.a s.tasks):=h.lay.t.keeps kW
 have hs2:Hid (Gs (w.alloc (.cells (syc s v) 30)) v.g.a s.ghosts):=h.lay.g.keeps kW
 clear h
 have HE:Hid (qan s cpu=(s.tasks.filter (qaI cpu)).map qbd++(s.ghosts.filter (ghOn cpu)).map qbw):=rfl
 go_enter Tryz.func32,Tryz.ntmps32
 go_wp2
 have O0:Hid (OwnP ((w.alloc (.cells (syc s v) 30)).alloc (.cells #[] 51)) (w.alloc (.cells (syc s v) 30)).heap.size (.slice (some ⟨(w.alloc (.cells (syc s v) 30)).heap.size,0,none⟩) 0 0) []):=Own.new 51 2 pc _ (Nat.le_refl _)
 have hz:(w.alloc (.cells (syc s v) 30)).heap.size=w.heap.size+1:=by simp
 rw [hz] at O0
 have HW:Hid (w.heap.size <= (w.alloc (.cells (syc s v) 30)).heap.size):=by show _ <= _;omega
 have Hz:Hid ((w.alloc (.cells (syc s v) 30)).heap.size=w.heap.size+1):=hz
 clear hz
 generalize w.alloc (.cells (syc s v) 30)=W at *
 go_loopw [5,6] (fun o i wr=>∃ (k:Nat) (xs:List (Int × Int)),k <= v.t.n /\ i = .int .i64 k /\ xs.length <= k /\ Hid (xs=((s.tasks.take k).filter (qaI cpu)).map qbd) /\ Hid (OwnP wr W.heap.size o xs) /\ Keeps W wr) (fun _ i _=>v.t.n - (intOf i).toNat)
 case atStart=>exact ⟨0,[],Nat.zero_le _,rfl,by simp,by show _=_;simp,by show OwnP _ _ _ _;rw [Hz.out];exact O0.out,(Keeps.refl _).alloc _⟩
 case round =>
  obtain ⟨k,xs,hk,rfl,hxl,HX,O,hK⟩:=hrel
  clear O0
  by_cases hlt:k < v.t.n
  ·obtain ⟨t,ht⟩:=qal (xs:=s.tasks) (k:=k) (by rw [Hn.out];exact hlt)
   obtain ⟨b,off,ha,r0,r1⟩:=hs1.out.at ht (by omega)
   have hlt':(k:Int) < (v.t.n:Int):=by omega
   have Hstep:=qeP (qaI cpu) qbd ht
   rw [<- HX.out] at Hstep
   have HS:Hid (((s.tasks.take (k+1)).filter (qaI cpu)).map qbd=xs++(if qaI cpu t then [qbd t] else [])):=Hstep
   clear ht Hstep
   cases c1:(t.cpu==cpu)
   ·have Hx:Hid (xs=((s.tasks.take (k+1)).filter (qaI cpu)).map qbd):=by show _=_;rw [HS.out];simp [qaI,c1]
    go_wp2
    exact ⟨⟨k+1,xs,by omega,by go_num,by omega,Hx,O.out.keeps ((Keeps.refl _).alloc _),hK.alloc _⟩,by simp only [intOf];omega⟩
   cases c2:(t.cls==1)
   ·have Hx:Hid (xs=((s.tasks.take (k+1)).filter (qaI cpu)).map qbd):=by show _=_;rw [HS.out];simp [qaI,c1,c2]
    go_wp2
    exact ⟨⟨k+1,xs,by omega,by go_num,by omega,Hx,O.out.keeps ((Keeps.refl _).alloc _),hK.alloc _⟩,by simp only [intOf];omega⟩
   have Hx:Hid (xs++[(t.q,t.p)]=((s.tasks.take (k+1)).filter (qaI cpu)).map qbd):=by show _=_;rw [HS.out];simp [qaI,c1,c2,qbd]
   go_wp2_with (at_builtin;(refine qbA rfl _ _ 46 rfl W 51 (.agg (pc (0,0))) 2 16 pc Tryz.underlying46 (by kernel_rfl) rfl (by decide) qaq qba _ xs rfl wr O.out hK (((Keeps.refl _).alloc _).alloc _) (t.q,t.p) (wr.heap.size+1) 1 (by have:=Blk.new (wr.alloc (.cells (tc t) 43)) (pc (t.q,t.p)) 51;simpa using this) rfl ?c1 ?c2 ?_))
   case c1=>unfold maxLen;omega
   case c2=>omega
   intro v' w5 own5 k5 _
   have HO:Hid (OwnP w5 W.heap.size v' (xs++[(t.q,t.p)])):=own5
   clear own5 O
   go_wp2
   exact ⟨⟨k+1,xs++[(t.q,t.p)],by omega,by go_num,by simp;omega,Hx,HO,k5⟩,by simp only [intOf];omega⟩
  ·have hlt':decide ((k:Int) < (v.t.n:Int))=false:=by simp;omega
   have HP:Hid ((s.tasks.filter (qaI cpu)).map qbd=xs):=by
    have h1:=HX.out
    rw [List.take_of_length_le (by have:=Hn.out;omega)] at h1
    exact h1.symm
   clear HX
   go_wp2
   generalize wr=V at *
   go_loopw [5,8] (fun o i wr=>∃ (j:Nat) (ys:List (Int × Int)),j <= v.g.n /\ i = .int .i64 j /\ ys.length <= v.t.n+j /\ Hid (ys=xs++((s.ghosts.take j).filter (ghOn cpu)).map qbw) /\ Hid (OwnP wr W.heap.size o ys) /\ Keeps W wr) (fun _ i _=>v.g.n - (intOf i).toNat)
   case atStart=>exact ⟨0,xs,Nat.zero_le _,rfl,by omega,by show _=_;simp,O,hK⟩
   case round =>
    obtain ⟨j,ys,hj,rfl,hyl,HY,O2,hK2⟩:=hrel
    clear O hK
    by_cases hjt:j < v.g.n
    ·obtain ⟨g,hg⟩:=qal (xs:=s.ghosts) (k:=j) (by rw [Hg.out];exact hjt)
     obtain ⟨b,off,ha,r0,r1⟩:=hs2.out.at hg (by omega)
     have hjt':(j:Int) < (v.g.n:Int):=by omega
     have r2:∀ w',Keeps W w'->w'.cell? ⟨b,off+j*4+1+1,none⟩=some (.int .i64 g.p):=fun w' h=>r1 w' h 2 (by omega)
     have HS:Hid (xs++((s.ghosts.take (j+1)).filter (ghOn cpu)).map qbw=ys++(if ghOn cpu g then [qbw g] else [])):=by
      show _=_
      rw [qeP (ghOn cpu) qbw hg,HY.out,List.append_assoc]
     clear hg
     cases c1:(g.cpu==cpu)
     ·have Hx:Hid (ys=xs++((s.ghosts.take (j+1)).filter (ghOn cpu)).map qbw):=by show _=_;rw [HS.out];simp [ghOn,c1]
      go_wp2
      exact ⟨⟨j+1,ys,by omega,by go_num,by omega,Hx,O2,hK2⟩,by simp only [intOf];omega⟩
     have Hx:Hid (ys++[(g.q,g.p)]=xs++((s.ghosts.take (j+1)).filter (ghOn cpu)).map qbw):=by show _=_;rw [HS.out];simp [ghOn,c1,qbw]
     go_wp2_with (at_builtin;(refine qbA rfl _ _ 46 rfl W 51 (.agg (pc (0,0))) 2 16 pc Tryz.underlying46 (by kernel_rfl) rfl (by decide) qaq qba _ ys rfl wr O2.out hK2 ((Keeps.refl _).alloc _) (g.q,g.p) _ 1 (Blk.new _ _ _) rfl ?c1 ?c2 ?_))
     case c1=>unfold maxLen;omega
     case c2=>omega
     intro v' w5 own5 k5 _
     have HO:Hid (OwnP w5 W.heap.size v' (ys++[(g.q,g.p)])):=own5
     clear own5 O2
     go_wp2
     exact ⟨⟨j+1,ys++[(g.q,g.p)],by omega,by go_num,by simp;omega,Hx,HO,k5⟩,by simp only [intOf];omega⟩
    ·have hjt':decide ((j:Int) < (v.g.n:Int))=false:=by simp;omega
     have HQ:Hid (qan s cpu=ys):=by
      have h1:=HY.out
      rw [List.take_of_length_le (by have:=Hg.out;omega)] at h1
      show _=_
      rw [HE.out,h1,HP.out]
     go_wp2
     go_ret
     exact ⟨_,rfl,by rw [HQ.out];exact O2.out.base HW.out,kW.trans hK2⟩
end Go.Proofs.YteagpjlgjfaclaaGreatDoor
