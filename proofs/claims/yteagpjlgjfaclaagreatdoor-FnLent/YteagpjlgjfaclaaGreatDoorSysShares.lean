/-
  Sums of parts of time: contracts of the model's SumOf and F
  The system: contracts of the model's functions that only re
  The system: the parts of time that are counted on a process
  The system: of the same processor.
-/
import Derived.Test.YteagpjlgjfaclaaGreatDoorSum
import Derived.Test.YteagpjlgjfaclaaGreatDoorSysBase
import Derived.Deep.RegionHeld3
namespace Go.Proofs.YteagpjlgjfaclaaGreatDoor
set_option maxRecDepth 100000
attribute [local go_sem] aa.refl aa.alloc aa.drew aa.drewN
section
open Go.RowKit Plain
set_option maxHeartbeats 1600000 in
theorem DQ (a:Option Addr) (cap:Nat) (xs:List (Int × Int)) (w:World) (hl:xs.length <= maxLen) (hs:Sh w a xs) :
  Calls Tryz.prog 73 #[.slice a xs.length cap] w fun e w'=>e = .returned (.tuple #[.int .i64 (kE xs).1,.int .i64 (kE xs).2.1,.bool (kE xs).2.2]) /\ aa w w':=by
 unfold maxLen at hl
 generalize hn:xs.length=n at hl
 have Hn:Hid (xs.length=n):=hn
 by_cases h7:7 < n
 ·have Hr:Hid (kE xs=(0,0,false)):=wT (by simp [iT,hn];omega)
  clear hn
  go_enter Tryz.func73,Tryz.ntmps73
  go_wp2
  go_ret3
  exact ⟨by rw [Hr.out];rfl,aa.refl _⟩
 ·clear hn
  have Of:n <= 7:=by omega
  go_enter Tryz.func73,Tryz.ntmps73
  go_wp2
  go_loopw [5,6,7] (fun s t i wr=>∃ k:Nat,k <= n /\ i = .int .i64 k /\ ∃ nn dd:Int,s = .int .i64 nn /\ t = .int .i64 dd /\ Hid (dc (xs.take k)=(nn,dd)) /\ Inv k (nn,dd) /\ Hid (gZ (xs.take k)=true) /\ aa w wr) (fun _ _ i _=>n - (intOf i).toNat)
  case atStart=>exact ⟨0,Nat.zero_le _,rfl,0,1,rfl,rfl,rfl,Cv,by simp [Hid,gZ],aa.refl _⟩
  case round =>
   obtain ⟨k,hk,rfl,nn,dd,rfl,rfl,hsum,hI,hok,hK⟩:=hrel
   by_cases hlt:k < n
   ·obtain ⟨b,off,q,p,rfl,e,c0,c1⟩:=hs.at (by rw [Hn.out];exact hlt)
    have E:Hid (xs.getD k (0,0)=(q,p)):=e
    clear e
    have r0:=aa.has c0
    have r1:=aa.has c1
    have hlt':(k:Int) < (n:Int):=by omega
    clear c0 c1 hs
    cases ho:okB q p
    ·have Hf:Hid (kE xs=(0,0,false)):=by
      refine wT ?_
      have:=Di (k:=k) (by rw [Hn.out];exact hlt) (by rw [E.out];exact ho)
      simp [iT,this]
     go_wp2_with (go_at_call 72;refine (wm _ _ _).mono ?_;rintro e w1 ⟨rfl,hb⟩;have kk:aa w w1:=hK.trans hb)
     go_ret3
     exact ⟨by rw [Hf.out];rfl,kk⟩
    ·have Hf:Hid (gZ (xs.take (k+1))=true):=by
      show _=_
      rw [Dh xs k (by rw [Hn.out];exact hlt),hok.out,E.out];exact ho
     obtain ⟨⟨hp1,hp2⟩,hq1,hq2⟩:=lA.1 ho
     obtain ⟨b1,b2,b3,b4,b5,b6,b7,b8⟩:=Cx hI (by omega) hp1 hp2 hq1 hq2
     have hI':=Cy hI hp1 hp2 hq1 hq2
     have Hs:Hid (dc (xs.take (k+1))=j9 (nn,dd) (q,p)):=by
      show _=_
      rw [Cu xs k (by rw [Hn.out];exact hlt),hsum.out,E.out]
     clear hI
     go_wp2_with (go_at_call 72;refine (wm _ _ _).mono ?_;rintro e w1 ⟨rfl,hb⟩;have kk:aa w w1:=hK.trans hb)
     go_quiet (fail)
     go_wp2_with (go_at_call 112;refine (NG _ _ _ ?_ ?_ ?_ ?_).mono ?_;omega;omega;omega;omega;rintro e w1 ⟨rfl,m,rfl⟩)
     refine ⟨⟨k+1,by omega,by go_num,_,_,rfl,rfl,Hs,hI',Hf,kk.drewN _⟩,by simp only [intOf];omega⟩
   ·have Hf:Hid (kE xs=(nn,dd,true)):=by
     have h1:=hsum.out
     have h2:=hok.out
     rw [List.take_of_length_le (by rw [Hn.out];omega)] at h1 h2
     show _=_
     rw [Dk (Dl.2 ⟨by rw [Hn.out];exact Of,h2⟩),h1]
    go_wp2
    go_ret3
    exact ⟨by rw [Hf.out];rfl,hK⟩
set_option maxHeartbeats 1000000 in
theorem NW (a:Option Addr) (cap:Nat) (xs:List (Int × Int)) (w:World) (hl:xs.length <= maxLen) (hs:Sh w a xs) :
  Calls Tryz.prog 31 #[.slice a xs.length cap] w fun e w'=>e = .returned (.bool (iT xs&&decide ((dc xs).1 <= (dc xs).2))) /\ aa w w':=by
 cases hc:iT xs
 ·have Hr:Hid (kE xs=(0,0,false)):=wT hc
  go_enter Tryz.func31,Tryz.ntmps31
  go_wp2_with (go_at_call 73;refine (DQ _ _ _ _ hl hs).mono ?_;rintro e w1 ⟨rfl,hb⟩;rw [Hr.out])
  go_ret
  exact ⟨rfl,hb⟩
 ·have Hr:Hid (kE xs=((dc xs).1,(dc xs).2,true)):=Dk hc
  generalize (dc xs).1=s1 at *
  generalize (dc xs).2=s2 at *
  go_enter Tryz.func31,Tryz.ntmps31
  go_wp2_with (go_at_call 73;refine (DQ _ _ _ _ hl hs).mono ?_;rintro e w1 ⟨rfl,hb⟩;rw [Hr.out])
  go_ret
  exact ⟨rfl,hb⟩
end
section
open Go.RowKit
theorem jT {α:Type} {xs:List α} {k:Nat} {x:α} (h:xs[k]?=some x):xs.take (k+1)=xs.take k++[x]:=by
 have hk:=da h
 rw [List.getElem?_eq_getElem hk] at h
 simp only [Option.some.injEq] at h
 rw [List.take_succ_eq_append_getElem hk,h]
theorem mN {α:Type} {xs:List α} {k:Nat} {x d:α} (h:xs[k]?=some x):xs.getD k d=x:=by simp [List.getD,h]
set_option maxHeartbeats 1000000 in
theorem F4 {w:World} {v:Sv} {s:Sy} (h:aA w v s) (cpu:Int) :
  Calls Tryz.prog 143 #[.agg (ae s v),.int .i64 cpu] w fun e w'=>e = .returned (.int .i64 (ni s cpu)) /\ aa w w':=by
 have hm:v.f.n <= 2000000:=by have:=h.size;have:=h.lay.fl;unfold bV at *;omega
 have e1:IntKind.i64.wrap ((v.f.n:Int) - 1)=(v.f.n:Int) - 1:=Go.IntWalk.i64_in _ (by omega)
 have HF:Hid (ni s cpu=if aF cpu 0 ((v.f.n:Int) - 1) then s.ax.getD cpu.toNat 0 else 0):=by show _=_;unfold ni;rw [h.lay.fl]
 cases hc:aF cpu 0 ((v.f.n:Int) - 1)
 ·have Hr:Hid (ni s cpu=0):=by show _=_;rw [HF.out,hc];rfl
  go_enter Tryz.func143,Tryz.ntmps143
  go_wp2_with (go_at_call 27;refine (bn _ _ _ _).mono ?_;rintro e w' ⟨rfl,hw'⟩;have hw2:=hw'.symm;subst hw2;rw [hc])
  go_ret
  exact ⟨by rw [Hr.out];rfl,(aa.refl _).alloc _⟩
 ·obtain ⟨c0,c1⟩:=dq.1 hc
  obtain ⟨k,rfl⟩:∃ k:Nat,cpu=(k:Int):=⟨cpu.toNat,by omega⟩
  obtain ⟨x,hx⟩:=bW (xs:=s.ax) (k:=k) (by rw [h.lay.fl];omega)
  obtain ⟨b,off,ha,r0⟩:=h.lay.f.at hx
  have Hr:Hid (ni s k=x):=by show _=_;rw [HF.out,hc,if_pos rfl,Int.toNat_natCast,mN hx]
  have hlt:(k:Int) < (v.f.n:Int):=by omega
  have r1:∀ w',aa w w'->w'.cell? ⟨b,off+k,none⟩=some (.int .i64 x):=r0
  clear HF hx r0 h
  go_enter Tryz.func143,Tryz.ntmps143
  go_wp2_with (go_at_call 27;refine (bn _ _ _ _).mono ?_;rintro e w' ⟨rfl,hw'⟩;have hw2:=hw'.symm;subst hw2;rw [hc])
  go_ret
  exact ⟨by rw [Hr.out];rfl,(aa.refl _).alloc _⟩
set_option maxHeartbeats 2000000 in
theorem NX {w:World} {v:Sv} {s:Sy} (h:aA w v s) (hc:1 <= s.az /\ s.az <= 4) :
  Calls Tryz.prog 30 #[.agg (ae s v)] w fun e w'=>e = .returned (.bool (jI s)) /\ aa w w':=by
 obtain ⟨hc1,hc2⟩:=hc
 have hm:v.g.n <= 2000000:=by have:=h.size;have:=h.lay.gl;unfold bV at *;omega
 have Hn:Hid (s.ah.length=v.g.n):=h.lay.gl
 have hs:Gs w v.g.a s.ah:=h.lay.g
 have e1:IntKind.i64.wrap (s.az - 1)=s.az - 1:=Go.IntWalk.i64_in _ (by omega)
 clear h
 have kW:=cZ w (.cells (ae s v) 30)
 have hb:=dE w (ae s v) 30
 have hs1:=hs.keeps kW
 clear hs
 go_enter Tryz.func30,Tryz.ntmps30
 go_wp2
 generalize w.alloc (.cells (ae s v) 30)=W at *
 go_loopw [3] (fun i wr=>∃ k:Nat,k <= v.g.n /\ i = .int .i64 k /\ Hid ((s.ah.take k).all (ku s.az)=true) /\ aa W wr) (fun i _=>v.g.n - (intOf i).toNat)
 case atStart=>exact ⟨0,Nat.zero_le _,rfl,by show _=_;simp,aa.refl _⟩
 case round =>
  obtain ⟨k,hk,rfl,HA,hK⟩:=hrel
  by_cases hlt:k < v.g.n
  ·obtain ⟨g,hg⟩:=bW (xs:=s.ah) (k:=k) (by rw [Hn.out];exact hlt)
   obtain ⟨b,off,ha,r0,r1⟩:=hs1.at hg (by omega)
   have hlt':(k:Int) < (v.g.n:Int):=by omega
   have Hg:Hid (s.ah[k]?=some g):=hg
   have cW:Hid ((s.ah.take (k+1)).all (ku s.az)=ku s.az g):=by
    show _=_
    rw [jT hg,List.all_append,HA.out]
    simp
   have Hno:Hid (ku s.az g=false->jI s=false):=fun e=>by
    unfold jI
    rw [List.all_eq_false.2 ⟨g,List.mem_of_getElem? hg,by rw [e];simp⟩]
    rfl
   clear hg hs1 Hg
   go_wp2_with fail
   have K0:aa W (wr.alloc (.cells (dM g) 87)):=hK.alloc _
   have hX:=dE wr (dM g) 87
   change Calls _ _ _ (wr.alloc (.cells (dM g) 87)) _
   generalize wr.alloc (.cells (dM g) 87)=X at *
   refine (bn _ _ _ _).mono ?_
   rintro e w' ⟨rfl,hw'⟩
   have hw2:=hw'.symm
   subst hw2
   cases c1:aF g.cpu 0 (s.az - 1)
   ·have Hr:Hid (jI s=false):=Hno.out (by unfold ku;rw [c1];rfl)
    go_wp2
    go_ret
    exact ⟨by rw [Hr.out];rfl,kW.trans K0⟩
   go_wp2_with fail
   refine (wm g.q g.p _).mono ?_
   rintro e w1 ⟨rfl,k1⟩
   have K1:aa W w1:=K0.trans k1
   cases c2:okB g.q g.p
   ·have Hr:Hid (jI s=false):=Hno.out (by unfold ku;rw [c1,c2];rfl)
    go_wp2
    go_ret
    exact ⟨by rw [Hr.out];rfl,kW.trans K1⟩
   go_wp2_with fail
   refine (bn _ _ _ _).mono ?_
   rintro e w' ⟨rfl,hw'⟩
   have hw2:=hw'.symm
   subst hw2
   cases c3:aF g.fU 0 100040
   ·have Hr:Hid (jI s=false):=Hno.out (by unfold ku;rw [c1,c2,c3];rfl)
    go_wp2
    go_ret
    exact ⟨by rw [Hr.out];rfl,kW.trans K1⟩
   have HG:Hid ((s.ah.take (k+1)).all (ku s.az)=true):=by show _=_;rw [cW.out];unfold ku;rw [c1,c2,c3];rfl
   go_wp2
   exact ⟨⟨k+1,by omega,by go_num,HG,K1⟩,by simp only [intOf];omega⟩
  ·have hlt':decide ((k:Int) < (v.g.n:Int))=false:=by simp;omega
   have Hr:Hid (jI s=decide ((v.g.n:Int) <= 12)):=by
    have h1:=HA.out
    rw [List.take_of_length_le (by have:=Hn.out;omega)] at h1
    show _=_
    unfold jI
    rw [h1,Hn.out,Bool.true_and]
    congr 1
    exact propext (by omega)
   go_wp2
   go_ret
   exact ⟨by rw [Hr.out];rfl,kW.trans hK⟩
abbrev pc (x:Int × Int):Array Value:=#[.int .i64 x.1,.int .i64 x.2]
theorem kl (x:Int × Int):(pc x).size=2:=rfl
theorem pH (x:Int × Int):∀ u∈(pc x).toList,u.oneCell'=true:=by
 intro u hu
 simp at hu
 rcases hu with rfl | rfl <;> rfl
abbrev eb (w:World) (base:Nat) (v:Value) (xs:List (Int × Int)):Prop:=Own 51 2 pc w base v xs
theorem Bq {w:World} {a:Option Addr} {xs:List (Int × Int)} (h:cH 2 pc w a xs):Sh w a xs:=by
 rcases h with h | ⟨b,off,rfl,hb,h⟩
 ·exact .inl h
 ·refine .inr ⟨b,off,rfl,fun i hi => ?_⟩
  obtain ⟨x,hx⟩:=bW hi
  have e:xs.getD i (0,0)=x:=mN hx
  rw [e]
  exact ⟨by simpa using h i x hx 0 (by omega),by simpa using h i x hx 1 (by omega)⟩
theorem tP {α β:Type} (p:α->Bool) (f:α->β) {xs:List α} {k:Nat} {x:α} (h:xs[k]?=some x):((xs.take (k+1)).filter p).map f=((xs.take k).filter p).map f++(if p x then [f x] else []):=by
 rw [jT h,List.filter_append,List.map_append]
 congr 1
 cases e:p x <;> simp [e]
set_option maxHeartbeats 4000000 in
theorem uZ {w:World} {v:Sv} {s:Sy} (h:aA w v s) (cpu:Int) :
  Calls Tryz.prog 32 #[.agg (ae s v),.int .i64 cpu] w fun e w'=>∃ u,e = .returned u /\ eb w' w.heap.size u (fe s cpu) /\ aa w w':=by
 have hm:v.t.n <= 2000000 /\ v.g.n <= 2000000:=by have:=h.size;have:=h.lay.gl;have:=h.lay.tl;unfold bV at *;omega
 obtain ⟨hm1,hm2⟩:=hm
 have Hn:Hid (s.tasks.length=v.t.n):=h.lay.tl
 have Hg:Hid (s.ah.length=v.g.n):=h.lay.gl
 have kW:=cZ w (.cells (ae s v) 30)
 have hb:=dE w (ae s v) 30
 have hs1:Hid (Ts (w.alloc (.cells (ae s v) 30)) v.t.a s.tasks):=h.lay.t.keeps kW
 have hs2:Hid (Gs (w.alloc (.cells (ae s v) 30)) v.g.a s.ah):=h.lay.g.keeps kW
 clear h
 have HE:Hid (fe s cpu=(s.tasks.filter (fY cpu)).map gW++(s.ah.filter (ef cpu)).map iP):=rfl
 go_enter Tryz.func32,Tryz.ntmps32
 go_wp2
 have O0:Hid (eb ((w.alloc (.cells (ae s v) 30)).alloc (.cells #[] 51)) (w.alloc (.cells (ae s v) 30)).heap.size (.slice (some ⟨(w.alloc (.cells (ae s v) 30)).heap.size,0,none⟩) 0 0) []):=Own.new 51 2 pc _ (Nat.le_refl _)
 have hz:(w.alloc (.cells (ae s v) 30)).heap.size=w.heap.size+1:=by simp
 rw [hz] at O0
 have HW:Hid (w.heap.size <= (w.alloc (.cells (ae s v) 30)).heap.size):=by show _ <= _;omega
 have Hz:Hid ((w.alloc (.cells (ae s v) 30)).heap.size=w.heap.size+1):=hz
 clear hz
 generalize w.alloc (.cells (ae s v) 30)=W at *
 go_loopw [5,6] (fun o i wr=>∃ (k:Nat) (xs:List (Int × Int)),k <= v.t.n /\ i = .int .i64 k /\ xs.length <= k /\ Hid (xs=((s.tasks.take k).filter (fY cpu)).map gW) /\ Hid (eb wr W.heap.size o xs) /\ aa W wr) (fun _ i _=>v.t.n - (intOf i).toNat)
 case atStart=>exact ⟨0,[],Nat.zero_le _,rfl,by simp,by show _=_;simp,by show eb _ _ _ _;rw [Hz.out];exact O0.out,(aa.refl _).alloc _⟩
 case round =>
  obtain ⟨k,xs,hk,rfl,hxl,HX,O,hK⟩:=hrel
  clear O0
  by_cases hlt:k < v.t.n
  ·obtain ⟨t,ht⟩:=bW (xs:=s.tasks) (k:=k) (by rw [Hn.out];exact hlt)
   obtain ⟨b,off,ha,r0,r1⟩:=hs1.out.at ht (by omega)
   have hlt':(k:Int) < (v.t.n:Int):=by omega
   have cW:=tP (fY cpu) gW ht
   rw [<- HX.out] at cW
   have HS:Hid (((s.tasks.take (k+1)).filter (fY cpu)).map gW=xs++(if fY cpu t then [gW t] else [])):=cW
   clear ht cW
   cases c1:(t.cpu==cpu)
   ·have Hx:Hid (xs=((s.tasks.take (k+1)).filter (fY cpu)).map gW):=by show _=_;rw [HS.out];simp [fY,c1]
    go_wp2
    exact ⟨⟨k+1,xs,by omega,by go_num,by omega,Hx,O.out.keeps ((aa.refl _).alloc _),hK.alloc _⟩,by simp only [intOf];omega⟩
   cases c2:(t.cls==1)
   ·have Hx:Hid (xs=((s.tasks.take (k+1)).filter (fY cpu)).map gW):=by show _=_;rw [HS.out];simp [fY,c1,c2]
    go_wp2
    exact ⟨⟨k+1,xs,by omega,by go_num,by omega,Hx,O.out.keeps ((aa.refl _).alloc _),hK.alloc _⟩,by simp only [intOf];omega⟩
   have Hx:Hid (xs++[(t.q,t.p)]=((s.tasks.take (k+1)).filter (fY cpu)).map gW):=by show _=_;rw [HS.out];simp [fY,c1,c2,gW]
   go_wp2_with (at_builtin;(refine iE rfl _ _ 46 rfl W 51 (.agg (pc (0,0))) 2 16 pc Tryz.underlying46 (by kernel_rfl) rfl (by decide) kl pH _ xs rfl wr O.out hK (((aa.refl _).alloc _).alloc _) (t.q,t.p) (wr.heap.size+1) 1 (by have:=ai.new (wr.alloc (.cells (tc t) 43)) (pc (t.q,t.p)) 51;simpa using this) rfl ?c1 ?c2 ?_))
   case c1=>unfold maxLen;omega
   case c2=>omega
   intro v' w5 cP k5 _
   have HO:Hid (eb w5 W.heap.size v' (xs++[(t.q,t.p)])):=cP
   clear cP O
   go_wp2
   exact ⟨⟨k+1,xs++[(t.q,t.p)],by omega,by go_num,by simp;omega,Hx,HO,k5⟩,by simp only [intOf];omega⟩
  ·have hlt':decide ((k:Int) < (v.t.n:Int))=false:=by simp;omega
   have HP:Hid ((s.tasks.filter (fY cpu)).map gW=xs):=by
    have h1:=HX.out
    rw [List.take_of_length_le (by have:=Hn.out;omega)] at h1
    exact h1.symm
   clear HX
   go_wp2
   generalize wr=V at *
   go_loopw [5,8] (fun o i wr=>∃ (j:Nat) (ys:List (Int × Int)),j <= v.g.n /\ i = .int .i64 j /\ ys.length <= v.t.n+j /\ Hid (ys=xs++((s.ah.take j).filter (ef cpu)).map iP) /\ Hid (eb wr W.heap.size o ys) /\ aa W wr) (fun _ i _=>v.g.n - (intOf i).toNat)
   case atStart=>exact ⟨0,xs,Nat.zero_le _,rfl,by omega,by show _=_;simp,O,hK⟩
   case round =>
    obtain ⟨j,ys,hj,rfl,hyl,HY,O2,hK2⟩:=hrel
    clear O hK
    by_cases hjt:j < v.g.n
    ·obtain ⟨g,hg⟩:=bW (xs:=s.ah) (k:=j) (by rw [Hg.out];exact hjt)
     obtain ⟨b,off,ha,r0,r1⟩:=hs2.out.at hg (by omega)
     have iK:(j:Int) < (v.g.n:Int):=by omega
     have r2:∀ w',aa W w'->w'.cell? ⟨b,off+j*4+1+1,none⟩=some (.int .i64 g.p):=fun w' h=>r1 w' h 2 (by omega)
     have HS:Hid (xs++((s.ah.take (j+1)).filter (ef cpu)).map iP=ys++(if ef cpu g then [iP g] else [])):=by
      show _=_
      rw [tP (ef cpu) iP hg,HY.out,List.append_assoc]
     clear hg
     cases c1:(g.cpu==cpu)
     ·have Hx:Hid (ys=xs++((s.ah.take (j+1)).filter (ef cpu)).map iP):=by show _=_;rw [HS.out];simp [ef,c1]
      go_wp2
      exact ⟨⟨j+1,ys,by omega,by go_num,by omega,Hx,O2,hK2⟩,by simp only [intOf];omega⟩
     have Hx:Hid (ys++[(g.q,g.p)]=xs++((s.ah.take (j+1)).filter (ef cpu)).map iP):=by show _=_;rw [HS.out];simp [ef,c1,iP]
     go_wp2_with (at_builtin;(refine iE rfl _ _ 46 rfl W 51 (.agg (pc (0,0))) 2 16 pc Tryz.underlying46 (by kernel_rfl) rfl (by decide) kl pH _ ys rfl wr O2.out hK2 ((aa.refl _).alloc _) (g.q,g.p) _ 1 (ai.new _ _ _) rfl ?c1 ?c2 ?_))
     case c1=>unfold maxLen;omega
     case c2=>omega
     intro v' w5 cP k5 _
     have HO:Hid (eb w5 W.heap.size v' (ys++[(g.q,g.p)])):=cP
     clear cP O2
     go_wp2
     exact ⟨⟨j+1,ys++[(g.q,g.p)],by omega,by go_num,by simp;omega,Hx,HO,k5⟩,by simp only [intOf];omega⟩
    ·have iK:decide ((j:Int) < (v.g.n:Int))=false:=by simp;omega
     have HQ:Hid (fe s cpu=ys):=by
      have h1:=HY.out
      rw [List.take_of_length_le (by have:=Hg.out;omega)] at h1
      show _=_
      rw [HE.out,h1,HP.out]
     go_wp2
     go_ret
     exact ⟨_,rfl,by rw [HQ.out];exact O2.out.base HW.out,kW.trans hK2⟩
set_option maxHeartbeats 8000000 in
theorem FM {w:World} {v:Sv} {s:Sy} (h:aA w v s) (i no:Int) :
  Calls Tryz.prog 149 #[.agg (ae s v),.int .i64 i,.int .i64 no] w fun e w'=>e = .returned (.bool (eS s i no)) /\ aa w w':=by
 have hm:v.t.n <= 2000000 /\ v.l.n <= 2000000:=by have:=h.size;have:=h.lay.ll;have:=h.lay.tl;have:=nr s.af;unfold bV at *;omega
 obtain ⟨hm1,hm2⟩:=hm
 have kW:=cZ w (.cells (ae s v) 30)
 have hb:=dE w (ae s v) 30
 have hT:Hid (fk (w.alloc (.cells (ae s v) 30)) v.t.a v.t.n v.t.cap s.tasks):=h.gM.keeps kW
 have hL:Hid (On (w.alloc (.cells (ae s v) 30)) v.l.a v.l.n v.l.cap s.af):=h.gL.keeps kW
 have e1:IntKind.i64.wrap ((v.l.n:Int) - 1)=(v.l.n:Int) - 1:=Go.IntWalk.i64_in _ (by omega)
 have HE:Hid (eS s i no=(aF i 0 ((v.l.n:Int) - 1)&&(bF s.tasks no&&(d7 s.af i.toNat==0||(bF s.tasks (d7 s.af i.toNat)&&(de s.tasks (d7 s.af i.toNat)).cpu==(de s.tasks no).cpu))))):=by show _=_;unfold eS;rw [hL.out.len]
 clear h
 obtain ⟨pa,eY⟩:∃ pa,Hid (dA s.tasks no=pa):=⟨_,rfl⟩
 go_enter Tryz.func149,Tryz.ntmps149
 go_wp2_with fail
 generalize w.alloc (.cells (ae s v) 30)=W at *
 refine (hT.out.aZ no eY.out (aa.refl _)).mono ?_
 rintro e w1 ⟨rfl,k1⟩
 go_wp2_with fail
 refine (bn _ _ _ _).mono ?_
 rintro e w' ⟨rfl,hw'⟩
 have hw2:=hw'.symm
 subst hw2
 cases c1:aF i 0 ((v.l.n:Int) - 1)
 ·have Hr:Hid (eS s i no=false):=by show _=_;rw [HE.out,c1];rfl
  go_wp2
  go_ret
  exact ⟨by rw [Hr.out];rfl,kW.trans k1⟩
 cases c2:decide (pa < 0)
 rotate_left
 ·have Hr:Hid (eS s i no=false):=by show _=_;rw [HE.out,c1];unfold bF;rw [eY.out,c2];rfl
  go_wp2
  go_ret
  exact ⟨by rw [Hr.out];rfl,kW.trans k1⟩
 have hth:bF s.tasks no=true:=by unfold bF;rw [eY.out,c2];rfl
 obtain ⟨ka,ta,ea,jD,-⟩:=jL.1 hth
 have fX:Hid (de s.tasks no=ta):=kh ea jD
 obtain rfl:pa=(ka:Int):=by rw [<- eY.out];exact ea
 have hka:ka < v.t.n:=by have:=da jD;rw [hT.out.len] at this;exact this
 have vX:(ka:Int) < (v.t.n:Int):=by omega
 obtain ⟨bt,ot,hat,rt⟩:=hT.out.all (by omega)
 have ra:∀ w',aa W w'->w'.cell? ⟨bt,ot+ka*14+2,none⟩=some (.int .i64 ta.cpu):=fun w' h=>(rt ka ta jD).2 w' h 2 (by omega)
 have RT:Hid (∀ (i:Nat) (t:ag),s.tasks[i]?=some t->∀ w',aa W w'->w'.cell? ⟨bt,ot+i*14+2,none⟩=some (.int .i64 t.cpu)):=fun i t ht w' h=>(rt i t ht).2 w' h 2 (by omega)
 obtain ⟨i0,i1⟩:=dq.1 c1
 obtain ⟨k,rfl⟩:∃ k:Nat,i=(k:Int):=⟨i.toNat,by omega⟩
 obtain ⟨l,hl⟩:=bW (xs:=s.af) (k:=k) (by rw [hL.out.len];omega)
 obtain ⟨hkn,b,off,a',cap',ha,r0,-,-,-⟩:=hL.out.at hl
 have hki:(k:Int) < (v.l.n:Int):=by omega
 have HE2:Hid (eS s k no=(l.owner==0||(bF s.tasks l.owner&&(de s.tasks l.owner).cpu==ta.cpu))):=by
  show _=_
  rw [HE.out,c1,hth,Int.toNat_natCast,gO hl,fX.out]
  rfl
 obtain ⟨po,lz⟩:∃ po,Hid (dA s.tasks l.owner=po):=⟨_,rfl⟩
 have TA:Hid (∀ w',aa W w'->Calls Tryz.prog 71 #[.slice v.t.a v.t.n v.t.cap,.int .i64 l.owner] w' fun e w''=>e = .returned (.int .i64 po) /\ aa w' w''):=fun w' h=>hT.out.aZ l.owner lz.out h
 rw [hat] at TA
 clear hth ea jD rt eY hl HE
 go_wp2_with fail
 refine wp_region_held_drew (S:=(fun w'=>aa W w')) (by kernel_rfl) ?_ (fun hHeld => ?_)
 ·exact k1.drew
 refine ad.go [0,1,2,3,4,5,6,7] ?_
 iterate 8 (refine aJ (h := ?_);try simp only [ar])
 refine ad.nil ?_
 refine aO 8 (h:=fun K hK => ?_)
 go_simp
 first
  | (go_at_call 71;refine (TA.out _ k1.drew).mono ?_;rintro e w5 ⟨rfl,k5⟩)
 try go_wp2_with fail
 refine hK.out _ _ ?_ fun hHeld => ?_
 ·exact aa.trans (by assumption) (by assumption)
 clear hK K
 try simp only [ar]
 refine cU 9 (h := ?_)
 try simp only [ar]
 refine wpAnyH_done (by kernel_rfl) ?_ _
 have K5:aa W w5:=by assumption
 clear TA
 cases c3:(l.owner==0)
 rotate_left
 ·have Hr:Hid (eS s k no=true):=by show _=_;rw [HE2.out,c3];rfl
  go_wp2_with fail
  refine wp_region_held_drew (S:=(fun w'=>aa W w')) (by kernel_rfl) ?_ (fun hHeld => ?_)
  ·exact K5.drew
  refine ad.go [0,1,2,3,4,5,6,7] ?_
  iterate 8 (refine aJ (h := ?_);try simp only [ar])
  refine ad.nil ?_
  refine ad.go [8,9,10,11,12,13,14,15,16,17,18,19,20,21,22,23,24] ?_
  iterate 17 (refine dB (h := ?_);try simp only [ar])
  refine ad.nil ?_
  refine ad.go [25,26] ?_
  iterate 2 (refine aJ (h := ?_);try simp only [ar])
  refine ad.nil ?_
  refine wpAnyH_done (by kernel_rfl) ?_ _
  go_wp2
  go_ret
  exact ⟨by rw [Hr.out];rfl,kW.trans K5.drew⟩
 cases c4:decide (0 <= po)
 ·have Hr:Hid (eS s k no=false):=by
   have:bF s.tasks l.owner=false:=by unfold bF;rw [lz.out];simp only [decide_eq_false_iff_not] at c4;simp;omega
   show _=_
   rw [HE2.out,c3,this];rfl
  go_wp2_with fail
  refine wp_region_held_drew (S:=(fun w'=>aa W w')) (by kernel_rfl) ?_ (fun hHeld => ?_)
  ·exact K5.drew
  refine ad.go [0,1,2,3,4,5,6,7,8,9,10] ?_
  iterate 11 (refine aJ (h := ?_);try simp only [ar])
  refine ad.nil ?_
  refine ad.go [11,12,13,14,15,16,17,18,19,20,21,22,23] ?_
  iterate 13 (refine dB (h := ?_);try simp only [ar])
  refine ad.nil ?_
  refine ad.go [24,25,26] ?_
  iterate 3 (refine aJ (h := ?_);try simp only [ar])
  refine ad.nil ?_
  refine wpAnyH_done (by kernel_rfl) ?_ _
  go_wp2
  go_ret
  exact ⟨by rw [Hr.out];rfl,kW.trans K5.drew⟩
 have jr:bF s.tasks l.owner=true:=by unfold bF;rw [lz.out];simp only [decide_eq_true_eq] at c4;simp;omega
 obtain ⟨kx,tx,ex,htx,-⟩:=jL.1 jr
 have rG:Hid (de s.tasks l.owner=tx):=kh ex htx
 obtain rfl:po=(kx:Int):=by rw [<- lz.out];exact ex
 have hkx:kx < v.t.n:=by have:=da htx;rw [hT.out.len] at this;exact this
 have rH:(kx:Int) < (v.t.n:Int):=by omega
 have rx:∀ w',aa W w'->w'.cell? ⟨bt,ot+kx*14+2,none⟩=some (.int .i64 tx.cpu):=fun w' h=>RT.out kx tx htx w' h
 have Hr:Hid (eS s k no=(tx.cpu==ta.cpu)):=by show _=_;rw [HE2.out,c3,jr,rG.out];rfl
 clear jr ex htx lz
 go_wp2_with fail
 refine wp_region_held_drew (S:=(fun w'=>aa W w')) (by kernel_rfl) ?_ (fun hHeld => ?_)
 ·exact K5.drew
 refine ad.go [0,1,2,3,4,5,6,7,8,9,10,11,12,13,14,15,16,17,18,19,20,21,22,23,24,25,26] ?_
 iterate 27 (refine aJ (h := ?_);try simp only [ar])
 refine ad.nil ?_
 refine wpAnyH_done (by kernel_rfl) ?_ _
 go_wp2
 go_ret
 exact ⟨by rw [Hr.out];rfl,kW.trans K5.drew⟩
end
end Go.Proofs.YteagpjlgjfaclaaGreatDoor
