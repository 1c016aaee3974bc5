/-
  Sums of parts of time: contracts of the model's SumOf and F
  A call that starts no goroutine, where the row lets some be
  SumTwo drawn numbers.
  Locks that lie there, as the laws and later chapters hand t
  The frame of a law whose row lets goroutines be left behind
-/
import Derived.Test.YteagpjlgjfaclaaGreatDoorSum
import Derived.Conc.LeavingOf
import Derived.LoneHanded
import Derived.RaceLone
import Derived.RunNT
import Derived.CallAlone
import Derived.Leaving
import Derived.Test.YteagpjlgjfaclaaGreatDoorLockCopy
import Derived.Test.YteagpjlgjfaclaaGreatDoorCur
import Derived.Conc.Holds
import Derived.Handed
import Derived.SevenTiedAt
import Derived.ChangeVars
namespace Go.Proofs.YteagpjlgjfaclaaGreatDoor
set_option maxRecDepth 100000
section
open Go.RowKit Plain
attribute [local go_sem] aa.refl aa.alloc aa.drew aa.drewN
set_option maxHeartbeats 1600000 in
theorem Aa (a:Option Addr) (cap:Nat) (xs:List (Int × Int)) (w:World) (hl:xs.length <= maxLen) (hs:Sh w a xs) :
  Calls Tryz.prog 73 #[.slice a xs.length cap] w fun e w'=>e = .returned (.tuple #[.int .i64 (jI xs).1,.int .i64 (jI xs).2.1,.bool (jI xs).2.2]) /\ aa w w':=by
 unfold maxLen at hl
 generalize hn:xs.length=n at hl
 have Hn:Hid (xs.length=n):=hn
 by_cases h7:7 < n
 ·have Hr:Hid (jI xs=(0,0,false)):=uF (by simp [g8,hn];omega)
  clear hn
  go_enter Tryz.func73,Tryz.ntmps73
  go_wp2
  go_ret3
  exact ⟨by rw [Hr.out];rfl,aa.refl _⟩
 ·clear hn
  have IZ:n <= 7:=by omega
  go_enter Tryz.func73,Tryz.ntmps73
  go_wp2
  go_loopw [5,6,7] (fun s t i wr=>∃ k:Nat,k <= n /\ i = .int .i64 k /\ ∃ nn dd:Int,s = .int .i64 nn /\ t = .int .i64 dd /\ Hid (cD (xs.take k)=(nn,dd)) /\ Inv k (nn,dd) /\ Hid (gq (xs.take k)=true) /\ aa w wr) (fun _ _ i _=>n - (intOf i).toNat)
  case atStart=>exact ⟨0,Nat.zero_le _,rfl,0,1,rfl,rfl,rfl,zy,by simp [Hid,gq],aa.refl _⟩
  case round =>
   obtain ⟨k,hk,rfl,nn,dd,rfl,rfl,hsum,hI,hok,hK⟩:=hrel
   by_cases hlt:k < n
   ·obtain ⟨b,off,q,p,rfl,e,c0,c1⟩:=hs.at (by rw [Hn.out];exact hlt)
    have E:Hid (xs.getD k (0,0)=(q,p)):=e
    clear e
    have r0:=aa.has c0
    have r1:=aa.has c1
    have hlt':(k:Int) < (n:Int):=by omega
    clear c0 c1 hs
    cases ho:okB q p
    ·have Hf:Hid (jI xs=(0,0,false)):=by
      refine uF ?_
      have:=z4 (k:=k) (by rw [Hn.out];exact hlt) (by rw [E.out];exact ho)
      simp [g8,this]
     go_wp2_with (go_at_call 72;refine (uC _ _ _).mono ?_;rintro e w1 ⟨rfl,hb⟩;have kk:aa w w1:=hK.trans hb)
     go_ret3
     exact ⟨by rw [Hf.out];rfl,kk⟩
    ·have Hf:Hid (gq (xs.take (k+1))=true):=by
      show _=_
      rw [zZ xs k (by rw [Hn.out];exact hlt),hok.out,E.out];exact ho
     obtain ⟨⟨hp1,hp2⟩,hq1,hq2⟩:=j9.1 ho
     obtain ⟨b1,b2,b3,b4,b5,b6,b7,b8⟩:=zQ hI (by omega) hp1 hp2 hq1 hq2
     have hI':=zR hI hp1 hp2 hq1 hq2
     have Hs:Hid (cD (xs.take (k+1))=jt (nn,dd) (q,p)):=by
      show _=_
      rw [zx xs k (by rw [Hn.out];exact hlt),hsum.out,E.out]
     clear hI
     go_wp2_with (go_at_call 72;refine (uC _ _ _).mono ?_;rintro e w1 ⟨rfl,hb⟩;have kk:aa w w1:=hK.trans hb)
     go_quiet (fail)
     go_wp2_with (go_at_call 112;refine (IQ _ _ _ ?_ ?_ ?_ ?_).mono ?_;omega;omega;omega;omega;rintro e w1 ⟨rfl,m,rfl⟩)
     refine ⟨⟨k+1,by omega,by go_num,_,_,rfl,rfl,Hs,hI',Hf,kk.drewN _⟩,by simp only [intOf];omega⟩
   ·have Hf:Hid (jI xs=(nn,dd,true)):=by
     have h1:=hsum.out
     have h2:=hok.out
     rw [List.take_of_length_le (by rw [Hn.out];omega)] at h1 h2
     show _=_
     rw [z8 (z9.2 ⟨by rw [Hn.out];exact IZ,h2⟩),h1]
    go_wp2
    go_ret3
    exact ⟨by rw [Hf.out];rfl,hK⟩
set_option maxHeartbeats 1000000 in
theorem I0 (a:Option Addr) (cap:Nat) (xs:List (Int × Int)) (w:World) (hl:xs.length <= maxLen) (hs:Sh w a xs) :
  Calls Tryz.prog 31 #[.slice a xs.length cap] w fun e w'=>e = .returned (.bool (g8 xs&&decide ((cD xs).1 <= (cD xs).2))) /\ aa w w':=by
 cases hc:g8 xs
 ·have Hr:Hid (jI xs=(0,0,false)):=uF hc
  go_enter Tryz.func31,Tryz.ntmps31
  go_wp2_with (go_at_call 73;refine (Aa _ _ _ _ hl hs).mono ?_;rintro e w1 ⟨rfl,hb⟩;rw [Hr.out])
  go_ret
  exact ⟨rfl,hb⟩
 ·have Hr:Hid (jI xs=((cD xs).1,(cD xs).2,true)):=z8 hc
  generalize (cD xs).1=s1 at *
  generalize (cD xs).2=s2 at *
  go_enter Tryz.func31,Tryz.ntmps31
  go_wp2_with (go_at_call 73;refine (Aa _ _ _ _ hl hs).mono ?_;rintro e w1 ⟨rfl,hb⟩;rw [Hr.out])
  go_ret
  exact ⟨rfl,hb⟩
end
section
open Go.RowKit
theorem I3 {P:Program} {f:FuncId} {args:Array Value} {W:World} {Post:Value->World->Prop} (hi:P.inits.idxOf? f=none) (h:Calls P f args W fun e W'=>∃ v,e = .returned v /\ Post v W') :
  ∃ M last o w' t',runNT P (M+1) (Go.Conc.solo (Go.Conc.G (Frame.enter P f args .normal) []) W) #[]=(.ended o w',t') /\ runN P M (Go.Conc.solo (Go.Conc.G (Frame.enter P f args .normal) []) W) = .next last /\
   step P last = .ended o w' /\ Go.Conc.Good P Post last o w' t':=by
 obtain ⟨e,w',fr,⟨v,rfl,hp⟩,hc,hfn,hl⟩:=h []
 obtain ⟨n,hn⟩:∃ n,runN P n (lone (Frame.enter P f args .normal) [] W) = .next (lone fr [] w'):=hc
 have hst:step P (lone fr [] w') = .ended (.done v) w':=step_leave_done hl (by rw [hfn];exact hi)
 have hend:runN P (n+1) (lone (Frame.enter P f args .normal) [] W) = .ended (.done v) w':=by
  rw [runN_add,hn]
  simp only [runN,hst]
 have hall:(runNT P (n+1) (lone (Frame.enter P f args .normal) [] W) #[]).2.allBy 0:=allBy_of_lone P n _ _ hn (by simp [lone]) (by simp [lone])
 refine ⟨n,lone fr [] w',.done v,w',(runNT P (n+1) (lone (Frame.enter P f args .normal) [] W) #[]).2,?_,hn,hst,v,rfl,hp,fun said=>not_race_of_allBy hall,handedOver_of_allBy hall,onlyLeaving_of_quiet (quiet_lone _ _ _),?_⟩
 ·have:=runNT_fst P (n+1) (lone (Frame.enter P f args .normal) [] W) #[]
  rw [hend] at this
  exact Prod.ext this rfl
 ·intro i g hg h0
  simp only [lone] at hg
  rcases i with _ | i
  ·exact absurd rfl h0
  ·simp at hg
theorem lP (ls:List Lk):ls.length <= bR ls:=by unfold bR;omega
structure On (w:World) (a:Option Addr) (m cap:Nat) (ls:List Lk):Prop where
 len:ls.length=m
 size:bR ls <= 2097152
 gT:dL true w a ls
 pl:Plain w a m cap
theorem On.keeps {w w':World} {a:Option Addr} {m cap:Nat} {ls:List Lk} (h:On w a m cap ls) (k:aa w w'):On w' a m cap ls:=⟨h.len,h.size,h.gT.keeps k,h.pl.keeps k⟩
theorem On.small {w:World} {a:Option Addr} {m cap:Nat} {ls:List Lk} (h:On w a m cap ls):ls.length <= maxLen:=by have:=lP ls;have:=h.size;unfold maxLen;omega
theorem On.of {w:World} {lo hi:Nat} {v:Value} {vs:List Lv} {ls:List Lk} (M:Mine w lo hi v vs ls) (h:bR ls <= 2097152):∃ a cap,v = .slice a ls.length cap /\ On w a ls.length cap ls:=by
 obtain ⟨a,cap,e,L,P,-⟩:=M.args
 exact ⟨a,cap,e,rfl,h,L,P⟩
section calls
variable {w w':World} {a:Option Addr} {m cap:Nat} {ls:List Lk}
theorem On.kh (h:On w a m cap ls) {z:Bool} (hz:du ls=z) (k:aa w w'):Calls Tryz.prog 70 #[.slice a m cap] w' fun e w''=>e = .returned (.bool z) /\ aa w' w'':=by
 have h':=h.keeps k
 have:=rL a cap ls w' h'.size h'.gT
 rw [h'.len,hz] at this
 exact this
theorem On.at (h:On w a m cap ls) {i:Nat} {l:Lk} (hl:ls[i]?=some l):i < m /\ ∃ b off a' cap',a=some ⟨b,off,none⟩ /\ (∀ w',aa w w'->w'.cell? ⟨b,off+i*2,none⟩=some (.int .i64 l.owner)) /\ (∀ w',aa w w'->w'.cell? ⟨b,off+i*2+1,none⟩=some (.slice a' l.waits.length cap')) /\ l.waits.length <= maxLen /\ Ns w a' l.waits :=
 ⟨by rw [<- h.len];exact cZ hl,h.gT.at hl⟩
theorem On.mw (h:On w a m cap ls) (x:Int) (k:aa w w'):Calls Tryz.prog 110 #[.slice a m cap,.int .i64 x] w' fun e w''=>∃ v,e = .returned (.tuple #[v,.bool (cB ls (ls.length+1) x).2]) /\ aS w'' w'.heap.size v (cB ls (ls.length+1) x).1 /\ aa w' w'':=by
 have h':=h.keeps k
 have:=rQ a cap ls x w' (by have:=lP ls;have:=h'.size;omega) h'.gT
 rw [h'.len] at this
 rw [h'.len]
 exact this
theorem On.all (h:On w a m cap ls) (hm:0 < m):∃ b off,a=some ⟨b,off,none⟩ /\ ∀ (i:Nat) (l:Lk),ls[i]?=some l->∃ a' cap',(∀ w',aa w w'->w'.cell? ⟨b,off+i*2,none⟩=some (.int .i64 l.owner)) /\ (∀ w',aa w w'->w'.cell? ⟨b,off+i*2+1,none⟩=some (.slice a' l.waits.length cap')) /\ l.waits.length <= maxLen /\ Ns w a' l.waits:=by
 obtain ⟨l0,h0⟩:=cd (xs:=ls) (k:=0) (by rw [h.len];exact hm)
 obtain ⟨-,b,off,_,_,rfl,-⟩:=h.at h0
 refine ⟨b,off,rfl,fun i l hl => ?_⟩
 obtain ⟨-,b',off',a',cap',e,r⟩:=h.at hl
 simp only [Option.some.injEq,Addr.mk.injEq] at e
 obtain ⟨rfl,rfl,-⟩:=e
 exact ⟨a',cap',r⟩
end calls
theorem Ns.take {w:World} {a:Option Addr} {xs:List Int} (h:Ns w a xs) (k:Nat):Ns w a (xs.take k):=by
 rcases h with rfl | ⟨b,off,rfl,hb,h⟩
 ·exact .inl (by simp)
 ·refine .inr ⟨b,off,rfl,hb,fun i x hx=>h i x ?_⟩
  rw [List.getElem?_take] at hx
  split at hx
  ·exact hx
  ·cases hx
theorem aS.cells {w:World} {base:Nat} {v:Value} {xs:List Int} (h:aS w base v xs) (hp:0 < xs.length):∃ b cap,v = .slice (some ⟨b,0,none⟩) xs.length cap /\ xs.length <= cap /\ ∀ (k:Nat) (x:Int),xs[k]?=some x->∀ w',aa w w'->w'.cell? ⟨b,k,none⟩=some (.int .i64 x):=by
 obtain ⟨b,cap,rfl⟩:=Own.blk h hp
 obtain ⟨_,_,e,_,h1,_⟩:=aS.ns h
 simp only [Value.slice.injEq] at e
 obtain ⟨rfl,-,rfl⟩:=e
 refine ⟨b,cap,rfl,h1,fun k x hx=>aa.has ?_⟩
 have:=Own.cellAt h fq (i:=k) (k:=0) hx (by omega)
 simpa using this
end
section
open Go.ChangeShapes Go.WideShapes Go.RowKit
theorem H3 {H:Type} {enc:TypeId × Value->H} {a:Assume} {C:Checked} {os:Os} {f:FuncId} {fn:Func} {s:ChangeSpec} {conds:List PathCond} {apart fresh handsOn again:Bool} {X:World->Array Value->Prop}
  (hX:∀ (w w':World) (args:Array Value),w.heap=w'.heap->X w args->X w' args)
  (own:ownKnob C.prog.godebug=none) (started:os.Started) (noInit:C.prog.inits.idxOf? f=none) (hfn:C.prog.funcs[f]?=some fn)
  (witness:∃ (w:World) (tape:Tape) (i:Input),w.os=os /\ (w.forCall tape i).Shaped C.prog /\ i.vars=[] /\ Input.okWide C.prog (w.forCall tape i) .any w.heap.size f i /\
   ((s.pre enc C.prog fn conds apart (w.forCall tape i).memory i.args /\ X (w.forCall tape i).memory i.args) /\ sizedMet enc C.prog fn (OpenSpec.ofChange s) apart (w.forCall tape i).memory i.args) /\ a.holds C.prog (lone (Frame.enter C.prog f i.args .normal) [] (w.forCall tape i)))
  (contract:∀ (W:World) (base:Nat) (args:Array Value) (ds gs:List (DataW H)) (before:List MemPlace),
   (∀ (j:Nat) t v,fn.params[j]?=some t->args[j]?=some v->Value.okWide C.prog W .any base t v) ->
   DataW.Whole enc C.prog fn.params.toList s.vars apart W args.toList ds gs before ->
   conds.all (PathCond.test C.prog ⟨fn.params.toList,ds,s.plain.varTypes C.prog,gs⟩)=true ->
   (DataW.weightsEach C.prog (fn.params.toList++s.plain.varTypes C.prog) (ds++gs)).all (· <= reachBytes)=true->X W args ->
   a.holds C.prog (lone (Frame.enter C.prog f args .normal) [] W) ->
   Calls C.prog f args W fun e W'=>∃ v,e = .returned v /\ s.post enc C.prog fn apart fresh handsOn again W args v W') :
  ReturnsInLeavingWide a C os f .any (fun w args=>(s.pre enc C.prog fn conds apart w args /\ X w args) /\ sizedMet enc C.prog fn (OpenSpec.ofChange s) apart w args) (s.post enc C.prog fn apart fresh handsOn again):=by
 refine returnsInLeavingWide_of_good own started witness ?_
 intro w tape i _ _ _ hok hpre hholds
 obtain ⟨_,_,_,fn',hfn',_,_,_,_,hval⟩:=hok
 have e:fn'=fn:=Option.some.inj (hfn'.symm.trans hfn)
 subst e
 obtain ⟨⟨⟨ds,gs,before,hw,hc⟩,hx⟩,hz⟩:=hpre
 have hw':=DataW.Whole.of_heap (w':=w.forCall tape i) (by rfl) hw
 obtain ⟨M,last,o,w',t',h1,h2,h3,h4⟩:=I3 noInit (contract (w.forCall tape i) w.heap.size i.args ds gs before hval hw' hc (hz.weights hw) (hX _ _ _ (by rfl) hx) hholds)
 exact ⟨M,last,o,w',t',h1,h2,h3,h4.mono fun v hp=>ChangeSpec.post_blind hp⟩
theorem H8 (Lk:Looks) {p:Pinned} {s:OpenSpec} {c:OpenClaim} (al:List (List PathCond)) (kinds:List LaidKind) (tests:Bool) (har:Bool × String) (lk:Bool)
  (hc:c.holds p s) (hal:∀ D∈al,(c.withDomain D).holds p s) (hw:c.wfByText s=true) (hwal:∀ D∈al,(c.withDomain D).wfByText s=true)
  (htie:c.laidByTextAt Lk p kinds tests)
  (hst:c.start = .entering) (hnb:c.noBlocks=false /\ c.again=false) (hm:p.checked.prog.mainIs=some (har.1,har.2.toList)) (hn:(!har.1&&har.2.isEmpty && !lk)=false)
  (hl:∀ f fn,p.checked.prog.funcNamed c.func=some f->p.checked.prog.funcs[f]?=some fn->lk=p.checked.prog.looks [] /\ ∀ (j:Nat) t,fn.params[j]?=some t->p.checked.prog.wantsStandIn t=false)
  (hg:true=c.goesBy p.checked.prog) :
  Claim7.holds p (.plain s) { stood:={ row:=c,standIns:=[],harness:=har,looks:=lk },kinds:=[],alts:=al,goes:=true,laidByText:=true,laidKinds:=kinds,laidTests:=tests,laidLooks:=Lk }:=by
 have h6:∀ r:OpenClaim,Claim7.isSixth { stood:={ row:=r,standIns:=[],harness:=har,looks:=lk },kinds:=[] }=false:=fun r=>by simpa [Claim7.isSixth] using hn
 refine ⟨Claim7.tied_new_at Lk kinds tests (Claim7.new_of_sixth hc har lk hst hnb hm (h6 c) hl) hw,fun D hD => ?_,htie,(fun h=>by cases h),hg⟩
 exact Claim7.tied_new_at Lk kinds tests (Claim7.new_of_sixth (hal D hD) har lk hst hnb hm (h6 _) hl) (hwal D hD)
theorem H4 {H:Type} {enc:TypeId × Value->H} {P:Program} {w:World} {spare:Nat->Bool} {n1 n2 n3 n4 n5 n6:String} {gs:List (DataW H)} {ps:List MemPlace} (h:DataW.TrodVars enc P w spare [n1,n2,n3,n4,n5,n6] gs ps) :
  ∃ d1 d2 d3 d4 d5 d6,gs=[d1,d2,d3,d4,d5,d6]:=by
 have cut:∀ {n:String} {ns:List String} {gs:List (DataW H)} {ps:List MemPlace},DataW.TrodVars enc P w spare (n::ns) gs ps->∃ d ds q,gs=d::ds /\ DataW.TrodVars enc P w spare ns ds q:=by
  intro n ns gs ps h
  cases gs with
  | nil=>simp [DataW.TrodVars] at h
  | cons d ds =>
   obtain ⟨_,_,_,_,_,q,_,_,_,_,hs,_⟩:=h
   exact ⟨d,ds,q,rfl,hs⟩
 obtain ⟨d1,_,_,rfl,h1⟩:=cut h
 obtain ⟨d2,_,_,rfl,h2⟩:=cut h1
 obtain ⟨d3,_,_,rfl,h3⟩:=cut h2
 obtain ⟨d4,_,_,rfl,h4⟩:=cut h3
 obtain ⟨d5,_,_,rfl,h5⟩:=cut h4
 obtain ⟨d6,_,_,rfl,h6⟩:=cut h5
 obtain ⟨rfl,-⟩:=trodVars_none h6
 exact ⟨d1,d2,d3,d4,d5,d6,rfl⟩
end
end Go.Proofs.YteagpjlgjfaclaaGreatDoor
