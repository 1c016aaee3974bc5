/-
  The system: contracts of the model's functions that only re
  The system: the parts of time that are counted on a process
-/
import Derived.Test.YteagpjlgjfaclaaGreatDoorSysSet
import Derived.Test.YteagpjlgjfaclaaGreatDoorSumSpec
namespace Go.Proofs.YteagpjlgjfaclaaGreatDoor
set_option maxRecDepth 100000
open Go.RowKit
attribute [local go_sem] aa.refl aa.alloc aa.drew aa.drewN
theorem jd {α:Type} {xs:List α} {k:Nat} {x:α} (h:xs[k]?=some x):xs.take (k+1)=xs.take k++[x]:=by
 have hk:=cZ h
 rw [List.getElem?_eq_getElem hk] at h
 simp only [Option.some.injEq] at h
 rw [List.take_succ_eq_append_getElem hk,h]
theorem lE {α:Type} {xs:List α} {k:Nat} {x d:α} (h:xs[k]?=some x):xs.getD k d=x:=by simp [List.getD,h]
set_option maxHeartbeats 1000000 in
theorem Cu {w:World} {v:Sv} {s:Sy} (h:aA w v s) (cpu:Int) :
  Calls Tryz.prog 143 #[.agg (ae s v),.int .i64 cpu] w fun e w'=>e = .returned (.int .i64 (lT s cpu)) /\ aa w w':=by
 have hm:v.f.n <= 2000000:=by have:=h.size;have:=h.lay.fl;unfold bE at *;omega
 have e1:IntKind.i64.wrap ((v.f.n:Int) - 1)=(v.f.n:Int) - 1:=Go.IntWalk.i64_in _ (by omega)
 have HF:Hid (lT s cpu=if aH cpu 0 ((v.f.n:Int) - 1) then s.ax.getD cpu.toNat 0 else 0):=by show _=_;unfold lT;rw [h.lay.fl]
 cases hc:aH cpu 0 ((v.f.n:Int) - 1)
 ·have Hr:Hid (lT s cpu=0):=by show _=_;rw [HF.out,hc];rfl
  go_enter Tryz.func143,Tryz.ntmps143
  go_wp2_with (go_at_call 27;refine (bq _ _ _ _).mono ?_;rintro e w' ⟨rfl,hw'⟩;have hw2:=hw'.symm;subst hw2;rw [hc])
  go_ret
  exact ⟨by rw [Hr.out];rfl,(aa.refl _).alloc _⟩
 ·obtain ⟨c0,c1⟩:=dq.1 hc
  obtain ⟨k,rfl⟩:∃ k:Nat,cpu=(k:Int):=⟨cpu.toNat,by omega⟩
  obtain ⟨x,hx⟩:=cd (xs:=s.ax) (k:=k) (by rw [h.lay.fl];omega)
  obtain ⟨b,off,ha,r0⟩:=h.lay.f.at hx
  have Hr:Hid (lT s k=x):=by show _=_;rw [HF.out,hc,if_pos rfl,Int.toNat_natCast,lE hx]
  have hlt:(k:Int) < (v.f.n:Int):=by omega
  have r1:∀ w',aa w w'->w'.cell? ⟨b,off+k,none⟩=some (.int .i64 x):=r0
  clear HF hx r0 h
  go_enter Tryz.func143,Tryz.ntmps143
  go_wp2_with (go_at_call 27;refine (bq _ _ _ _).mono ?_;rintro e w' ⟨rfl,hw'⟩;have hw2:=hw'.symm;subst hw2;rw [hc])
  go_ret
  exact ⟨by rw [Hr.out];rfl,(aa.refl _).alloc _⟩
set_option maxHeartbeats 2000000 in
theorem Ja {w:World} {v:Sv} {s:Sy} (h:aA w v s) (hc:1 <= s.az /\ s.az <= 4) :
  Calls Tryz.prog 30 #[.agg (ae s v)] w fun e w'=>e = .returned (.bool (iX s)) /\ aa w w':=by
 obtain ⟨hc1,hc2⟩:=hc
 have hm:v.g.n <= 2000000:=by have:=h.size;have:=h.lay.gl;unfold bE at *;omega
 have Hn:Hid (s.af.length=v.g.n):=h.lay.gl
 have hs:Gs w v.g.a s.af:=h.lay.g
 have e1:IntKind.i64.wrap (s.az - 1)=s.az - 1:=Go.IntWalk.i64_in _ (by omega)
 clear h
 have kW:=dw w (.cells (ae s v) 30)
 have hb:=dA w (ae s v) 30
 have hs1:=hs.keeps kW
 clear hs
 go_enter Tryz.func30,Tryz.ntmps30
 go_wp2
 generalize w.alloc (.cells (ae s v) 30)=W at *
 go_loopw [3] (fun i wr=>∃ k:Nat,k <= v.g.n /\ i = .int .i64 k /\ Hid ((s.af.take k).all (jD s.az)=true) /\ aa W wr) (fun i _=>v.g.n - (intOf i).toNat)
 case atStart=>exact ⟨0,Nat.zero_le _,rfl,by show _=_;simp,aa.refl _⟩
 case round =>
  obtain ⟨k,hk,rfl,HA,hK⟩:=hrel
  by_cases hlt:k < v.g.n
  ·obtain ⟨g,hg⟩:=cd (xs:=s.af) (k:=k) (by rw [Hn.out];exact hlt)
   obtain ⟨b,off,ha,r0,r1⟩:=hs1.at hg (by omega)
   have hlt':(k:Int) < (v.g.n:Int):=by omega
   have Hg:Hid (s.af[k]?=some g):=hg
   have cw:Hid ((s.af.take (k+1)).all (jD s.az)=jD s.az g):=by
    show _=_
    rw [jd hg,List.all_append,HA.out]
    simp
   have Hno:Hid (jD s.az g=false->iX s=false):=fun e=>by
    unfold iX
    rw [List.all_eq_false.2 ⟨g,List.mem_of_getElem? hg,by rw [e];simp⟩]
    rfl
   clear hg hs1 Hg
   go_wp2_with fail
   have K0:aa W (wr.alloc (.cells (cP g) 87)):=hK.alloc _
   have hX:=dA wr (cP g) 87
   change Calls _ _ _ (wr.alloc (.cells (cP g) 87)) _
   generalize wr.alloc (.cells (cP g) 87)=X at *
   refine (bq _ _ _ _).mono ?_
   rintro e w' ⟨rfl,hw'⟩
   have hw2:=hw'.symm
   subst hw2
   cases c1:aH g.cpu 0 (s.az - 1)
   ·have Hr:Hid (iX s=false):=Hno.out (by unfold jD;rw [c1];rfl)
    go_wp2
    go_ret
    exact ⟨by rw [Hr.out];rfl,kW.trans K0⟩
   go_wp2_with fail
   refine (uC g.q g.p _).mono ?_
   rintro e w1 ⟨rfl,k1⟩
   have K1:aa W w1:=K0.trans k1
   cases c2:okB g.q g.p
   ·have Hr:Hid (iX s=false):=Hno.out (by unfold jD;rw [c1,c2];rfl)
    go_wp2
    go_ret
    exact ⟨by rw [Hr.out];rfl,kW.trans K1⟩
   go_wp2_with fail
   refine (bq _ _ _ _).mono ?_
   rintro e w' ⟨rfl,hw'⟩
   have hw2:=hw'.symm
   subst hw2
   cases c3:aH g.eX 0 100040
   ·have Hr:Hid (iX s=false):=Hno.out (by unfold jD;rw [c1,c2,c3];rfl)
    go_wp2
    go_ret
    exact ⟨by rw [Hr.out];rfl,kW.trans K1⟩
   have HG:Hid ((s.af.take (k+1)).all (jD s.az)=true):=by show _=_;rw [cw.out];unfold jD;rw [c1,c2,c3];rfl
   go_wp2
   exact ⟨⟨k+1,by omega,by go_num,HG,K1⟩,by simp only [intOf];omega⟩
  ·have hlt':decide ((k:Int) < (v.g.n:Int))=false:=by simp;omega
   have Hr:Hid (iX s=decide ((v.g.n:Int) <= 12)):=by
    have h1:=HA.out
    rw [List.take_of_length_le (by have:=Hn.out;omega)] at h1
    show _=_
    unfold iX
    rw [h1,Hn.out,Bool.true_and]
    congr 1
    exact propext (by omega)
   go_wp2
   go_ret
   exact ⟨by rw [Hr.out];rfl,kW.trans hK⟩
abbrev pc (x:Int × Int):Array Value:=#[.int .i64 x.1,.int .i64 x.2]
theorem iR (x:Int × Int):(pc x).size=2:=rfl
theorem nV (x:Int × Int):∀ u∈(pc x).toList,u.oneCell'=true:=by
 intro u hu
 simp at hu
 rcases hu with rfl | rfl <;> rfl
abbrev dQ (w:World) (base:Nat) (v:Value) (xs:List (Int × Int)):Prop:=Own 51 2 pc w base v xs
theorem yt {w:World} {a:Option Addr} {xs:List (Int × Int)} (h:cm 2 pc w a xs):Sh w a xs:=by
 rcases h with h | ⟨b,off,rfl,hb,h⟩
 ·exact .inl h
 ·refine .inr ⟨b,off,rfl,fun i hi => ?_⟩
  obtain ⟨x,hx⟩:=cd hi
  have e:xs.getD i (0,0)=x:=lE hx
  rw [e]
  exact ⟨by simpa using h i x hx 0 (by omega),by simpa using h i x hx 1 (by omega)⟩
theorem rJ {α β:Type} (p:α->Bool) (f:α->β) {xs:List α} {k:Nat} {x:α} (h:xs[k]?=some x):((xs.take (k+1)).filter p).map f=((xs.take k).filter p).map f++(if p x then [f x] else []):=by
 rw [jd h,List.filter_append,List.map_append]
 congr 1
 cases e:p x <;> simp [e]
set_option maxHeartbeats 4000000 in
theorem sQ {w:World} {v:Sv} {s:Sy} (h:aA w v s) (cpu:Int) :
  Calls Tryz.prog 32 #[.agg (ae s v),.int .i64 cpu] w fun e w'=>∃ u,e = .returned u /\ dQ w' w.heap.size u (dH s cpu) /\ aa w w':=by
 have hm:v.t.n <= 2000000 /\ v.g.n <= 2000000:=by have:=h.size;have:=h.lay.gl;have:=h.lay.tl;unfold bE at *;omega
 obtain ⟨hm1,hm2⟩:=hm
 have Hn:Hid (s.tasks.length=v.t.n):=h.lay.tl
 have Hg:Hid (s.af.length=v.g.n):=h.lay.gl
 have kW:=dw w (.cells (ae s v) 30)
 have hb:=dA w (ae s v) 30
 have hs1:Hid (Ts (w.alloc (.cells (ae s v) 30)) v.t.a s.tasks):=h.lay.t.keeps kW
 have hs2:Hid (Gs (w.alloc (.cells (ae s v) 30)) v.g.a s.af):=h.lay.g.keeps kW
 clear h
 have HE:Hid (dH s cpu=(s.tasks.filter (eE cpu)).map gg++(s.af.filter (df cpu)).map gZ):=rfl
 go_enter Tryz.func32,Tryz.ntmps32
 go_wp2
 have O0:Hid (dQ ((w.alloc (.cells (ae s v) 30)).alloc (.cells #[] 51)) (w.alloc (.cells (ae s v) 30)).heap.size (.slice (some ⟨(w.alloc (.cells (ae s v) 30)).heap.size,0,none⟩) 0 0) []):=Own.new 51 2 pc _ (Nat.le_refl _)
 have hz:(w.alloc (.cells (ae s v) 30)).heap.size=w.heap.size+1:=by simp
 rw [hz] at O0
 have HW:Hid (w.heap.size <= (w.alloc (.cells (ae s v) 30)).heap.size):=by show _ <= _;omega
 have Hz:Hid ((w.alloc (.cells (ae s v) 30)).heap.size=w.heap.size+1):=hz
 clear hz
 generalize w.alloc (.cells (ae s v) 30)=W at *
 go_loopw [5,6] (fun o i wr=>∃ (k:Nat) (xs:List (Int × Int)),k <= v.t.n /\ i = .int .i64 k /\ xs.length <= k /\ Hid (xs=((s.tasks.take k).filter (eE cpu)).map gg) /\ Hid (dQ wr W.heap.size o xs) /\ aa W wr) (fun _ i _=>v.t.n - (intOf i).toNat)
 case atStart=>exact ⟨0,[],Nat.zero_le _,rfl,by simp,by show _=_;simp,by show dQ _ _ _ _;rw [Hz.out];exact O0.out,(aa.refl _).alloc _⟩
 case round =>
  obtain ⟨k,xs,hk,rfl,hxl,HX,O,hK⟩:=hrel
  clear O0
  by_cases hlt:k < v.t.n
  ·obtain ⟨t,ht⟩:=cd (xs:=s.tasks) (k:=k) (by rw [Hn.out];exact hlt)
   obtain ⟨b,off,ha,r0,r1⟩:=hs1.out.at ht (by omega)
   have hlt':(k:Int) < (v.t.n:Int):=by omega
   have cw:=rJ (eE cpu) gg ht
   rw [<- HX.out] at cw
   have HS:Hid (((s.tasks.take (k+1)).filter (eE cpu)).map gg=xs++(if eE cpu t then [gg t] else [])):=cw
   clear ht cw
   cases c1:(t.cpu==cpu)
   ·have Hx:Hid (xs=((s.tasks.take (k+1)).filter (eE cpu)).map gg):=by show _=_;rw [HS.out];simp [eE,c1]
    go_wp2
    exact ⟨⟨k+1,xs,by omega,by go_num,by omega,Hx,O.out.keeps ((aa.refl _).alloc _),hK.alloc _⟩,by simp only [intOf];omega⟩
   cases c2:(t.cls==1)
   ·have Hx:Hid (xs=((s.tasks.take (k+1)).filter (eE cpu)).map gg):=by show _=_;rw [HS.out];simp [eE,c1,c2]
    go_wp2
    exact ⟨⟨k+1,xs,by omega,by go_num,by omega,Hx,O.out.keeps ((aa.refl _).alloc _),hK.alloc _⟩,by simp only [intOf];omega⟩
   have Hx:Hid (xs++[(t.q,t.p)]=((s.tasks.take (k+1)).filter (eE cpu)).map gg):=by show _=_;rw [HS.out];simp [eE,c1,c2,gg]
   go_wp2_with (at_builtin;(refine ib rfl _ _ 46 rfl W 51 (.agg (pc (0,0))) 2 16 pc Tryz.underlying46 (by kernel_rfl) rfl (by decide) iR nV _ xs rfl wr O.out hK (((aa.refl _).alloc _).alloc _) (t.q,t.p) (wr.heap.size+1) 1 (by have:=aq.new (wr.alloc (.cells (tc t) 43)) (pc (t.q,t.p)) 51;simpa using this) rfl ?c1 ?c2 ?_))
   case c1=>unfold maxLen;omega
   case c2=>omega
   intro v' w5 cz k5 _
   have HO:Hid (dQ w5 W.heap.size v' (xs++[(t.q,t.p)])):=cz
   clear cz O
   go_wp2
   exact ⟨⟨k+1,xs++[(t.q,t.p)],by omega,by go_num,by simp;omega,Hx,HO,k5⟩,by simp only [intOf];omega⟩
  ·have hlt':decide ((k:Int) < (v.t.n:Int))=false:=by simp;omega
   have HP:Hid ((s.tasks.filter (eE cpu)).map gg=xs):=by
    have h1:=HX.out
    rw [List.take_of_length_le (by have:=Hn.out;omega)] at h1
    exact h1.symm
   clear HX
   go_wp2
   generalize wr=V at *
   go_loopw [5,8] (fun o i wr=>∃ (j:Nat) (ys:List (Int × Int)),j <= v.g.n /\ i = .int .i64 j /\ ys.length <= v.t.n+j /\ Hid (ys=xs++((s.af.take j).filter (df cpu)).map gZ) /\ Hid (dQ wr W.heap.size o ys) /\ aa W wr) (fun _ i _=>v.g.n - (intOf i).toNat)
   case atStart=>exact ⟨0,xs,Nat.zero_le _,rfl,by omega,by show _=_;simp,O,hK⟩
   case round =>
    obtain ⟨j,ys,hj,rfl,hyl,HY,O2,hK2⟩:=hrel
    clear O hK
    by_cases hjt:j < v.g.n
    ·obtain ⟨g,hg⟩:=cd (xs:=s.af) (k:=j) (by rw [Hg.out];exact hjt)
     obtain ⟨b,off,ha,r0,r1⟩:=hs2.out.at hg (by omega)
     have jo:(j:Int) < (v.g.n:Int):=by omega
     have r2:∀ w',aa W w'->w'.cell? ⟨b,off+j*4+1+1,none⟩=some (.int .i64 g.p):=fun w' h=>r1 w' h 2 (by omega)
     have HS:Hid (xs++((s.af.take (j+1)).filter (df cpu)).map gZ=ys++(if df cpu g then [gZ g] else [])):=by
      show _=_
      rw [rJ (df cpu) gZ hg,HY.out,List.append_assoc]
     clear hg
     cases c1:(g.cpu==cpu)
     ·have Hx:Hid (ys=xs++((s.af.take (j+1)).filter (df cpu)).map gZ):=by show _=_;rw [HS.out];simp [df,c1]
      go_wp2
      exact ⟨⟨j+1,ys,by omega,by go_num,by omega,Hx,O2,hK2⟩,by simp only [intOf];omega⟩
     have Hx:Hid (ys++[(g.q,g.p)]=xs++((s.af.take (j+1)).filter (df cpu)).map gZ):=by show _=_;rw [HS.out];simp [df,c1,gZ]
     go_wp2_with (at_builtin;(refine ib rfl _ _ 46 rfl W 51 (.agg (pc (0,0))) 2 16 pc Tryz.underlying46 (by kernel_rfl) rfl (by decide) iR nV _ ys rfl wr O2.out hK2 ((aa.refl _).alloc _) (g.q,g.p) _ 1 (aq.new _ _ _) rfl ?c1 ?c2 ?_))
     case c1=>unfold maxLen;omega
     case c2=>omega
     intro v' w5 cz k5 _
     have HO:Hid (dQ w5 W.heap.size v' (ys++[(g.q,g.p)])):=cz
     clear cz O2
     go_wp2
     exact ⟨⟨j+1,ys++[(g.q,g.p)],by omega,by go_num,by simp;omega,Hx,HO,k5⟩,by simp only [intOf];omega⟩
    ·have jo:decide ((j:Int) < (v.g.n:Int))=false:=by simp;omega
     have HQ:Hid (dH s cpu=ys):=by
      have h1:=HY.out
      rw [List.take_of_length_le (by have:=Hg.out;omega)] at h1
      show _=_
      rw [HE.out,h1,HP.out]
     go_wp2
     go_ret
     exact ⟨_,rfl,by rw [HQ.out];exact O2.out.base HW.out,kW.trans hK2⟩
end Go.Proofs.YteagpjlgjfaclaaGreatDoor
