/-
  The frame of a law whose row lets goroutines be left behind
  Runs of calls: what is drawn stays small.
  Lists of tasks: the program's TaskAt, TasksOk and what puts
  The program's calls: what is taken back where a call fails.
  What a law asks of a text and of lists of tasks: a byte, wh
  The program's system: floors, whether a task is of the same
  The program's system: what is counted on a processor.
-/
import Derived.Test.YteagpjlgjfaclaaGreatDoorPlain1
import Derived.Conc.Holds
import Derived.Conc.LeavingOf
import Derived.Handed
import Derived.SevenTiedAt
import Derived.ChangeVars
import Derived.Test.YteagpjlgjfaclaaGreatDoorSysTick
import Derived.Test.YteagpjlgjfaclaaGreatDoorFairList
import Derived.Test.YteagpjlgjfaclaaGreatDoorTaskPut
import Derived.Test.YteagpjlgjfaclaaGreatDoorImplWhole
import Derived.Test.YteagpjlgjfaclaaGreatDoorSysLaws
import Derived.Test.YteagpjlgjfaclaaGreatDoorImplCopy
import Derived.Defers
import Derived.Test.YteagpjlgjfaclaaGreatDoorImplTask
import Derived.Test.YteagpjlgjfaclaaGreatDoorTaskList
import Derived.Test.YteagpjlgjfaclaaGreatDoorFrame
import Derived.Deep.RegionHeld3
import Derived.Test.YteagpjlgjfaclaaGreatDoorSysShareL
import Derived.Test.YteagpjlgjfaclaaGreatDoorCallMove
import Derived.RegionTactic
import Derived.BigRegion
namespace Go.Proofs.YteagpjlgjfaclaaGreatDoor
set_option maxRecDepth 100000
open Go.ChangeShapes Go.WideShapes Go.RowKit
theorem qk1 {H:Type} {enc:TypeId × Value->H} {a:Assume} {C:Checked} {os:Os} {f:FuncId} {fn:Func} {s:ChangeSpec} {conds:List PathCond} {apart fresh handsOn again:Bool} {X:World->Array Value->Prop}
  (hX:∀ (w w':World) (args:Array Value),w.heap=w'.heap->X w args->X w' args)
  (own:ownKnob C.prog.godebug=none) (started:os.Started) (noInit:C.prog.inits.idxOf? f=none) (hfn:C.prog.funcs[f]?=some fn)
  (witness:∃ (w:World) (tape:Tape) (i:Input),w.os=os /\ (w.forCall tape i).Shaped C.prog /\ i.vars=[] /\ Input.okWide C.prog (w.forCall tape i) .any w.heap.size f i /\
   ((s.pre enc C.prog fn conds apart (w.forCall tape i).memory i.args /\ X (w.forCall tape i).memory i.args) /\ sizedMet enc C.prog fn (OpenSpec.ofChange s) apart (w.forCall tape i).memory i.args) /\ a.holds C.prog (lone (Frame.enter C.prog f i.args .normal) [] (w.forCall tape i)))
  (contract:∀ (W:World) (base:Nat) (args:Array Value) (ds gs:List (DataW H)) (before:List MemPlace),
   (∀ (j:Nat) t v,fn.params[j]?=some t->args[j]?=some v->Value.okWide C.prog W .any base t v) ->
   DataW.Whole enc C.prog fn.params.toList s.vars apart W args.toList ds gs before ->
   conds.all (PathCond.test C.prog ⟨fn.params.toList,ds,s.plain.varTypes C.prog,gs⟩)=true ->
   (DataW.weightsEach C.prog (fn.params.toList++s.plain.varTypes C.prog) (ds++gs)).all (· <= reachBytes)=true->X W args ->
   a.holds C.prog (lone (Frame.enter C.prog f args .normal) [] W) ->
   Calls C.prog f args W fun e W'=>∃ v,e = .returned v /\ s.post enc C.prog fn apart fresh handsOn again W args v W') :
  ReturnsInLeavingWide a C os f .any (fun w args=>(s.pre enc C.prog fn conds apart w args /\ X w args) /\ sizedMet enc C.prog fn (OpenSpec.ofChange s) apart w args) (s.post enc C.prog fn apart fresh handsOn again):=by
 refine returnsInLeavingWide_of_good own started witness ?_
 intro w tape i _ _ _ hok hpre hholds
 obtain ⟨_,_,_,fn',hfn',_,_,_,_,hval⟩:=hok
 have e:fn'=fn:=Option.some.inj (hfn'.symm.trans hfn)
 subst e
 obtain ⟨⟨⟨ds,gs,before,hw,hc⟩,hx⟩,hz⟩:=hpre
 have hw':=DataW.Whole.of_heap (w':=w.forCall tape i) (by rfl) hw
 obtain ⟨M,last,o,w',t',h1,h2,h3,h4⟩:=qlA noInit (contract (w.forCall tape i) w.heap.size i.args ds gs before hval hw' hc (hz.weights hw) (hX _ _ _ (by rfl) hx) hholds)
 exact ⟨M,last,o,w',t',h1,h2,h3,h4.mono fun v hp=>ChangeSpec.post_blind hp⟩
theorem qk2 (Lk:Looks) {p:Pinned} {s:OpenSpec} {c:OpenClaim} (al:List (List PathCond)) (kinds:List LaidKind) (tests:Bool) (har:Bool × String) (lk:Bool)
  (hc:c.holds p s) (hal:∀ D∈al,(c.withDomain D).holds p s) (hw:c.wfByText s=true) (hwal:∀ D∈al,(c.withDomain D).wfByText s=true)
  (htie:c.laidByTextAt Lk p kinds tests)
  (hst:c.start = .entering) (hnb:c.noBlocks=false /\ c.again=false) (hm:p.checked.prog.mainIs=some (har.1,har.2.toList)) (hn:(!har.1&&har.2.isEmpty && !lk)=false)
  (hl:∀ f fn,p.checked.prog.funcNamed c.func=some f->p.checked.prog.funcs[f]?=some fn->lk=p.checked.prog.looks [] /\ ∀ (j:Nat) t,fn.params[j]?=some t->p.checked.prog.wantsStandIn t=false)
  (hg:true=c.goesBy p.checked.prog) :
  Claim7.holds p (.plain s) { stood:={ row:=c,standIns:=[],harness:=har,looks:=lk },kinds:=[],alts:=al,goes:=true,laidByText:=true,laidKinds:=kinds,laidTests:=tests,laidLooks:=Lk }:=by
 have h6:∀ r:OpenClaim,Claim7.isSixth { stood:={ row:=r,standIns:=[],harness:=har,looks:=lk },kinds:=[] }=false:=fun r=>by simpa [Claim7.isSixth] using hn
 refine ⟨Claim7.tied_new_at Lk kinds tests (Claim7.new_of_sixth hc har lk hst hnb hm (h6 c) hl) hw,fun D hD => ?_,htie,(fun h=>by cases h),hg⟩
 exact Claim7.tied_new_at Lk kinds tests (Claim7.new_of_sixth (hal D hD) har lk hst hnb hm (h6 _) hl) (hwal D hD)
theorem qk3 {H:Type} {enc:TypeId × Value->H} {P:Program} {w:World} {spare:Nat->Bool} {n1 n2 n3 n4 n5 n6:String} {gs:List (DataW H)} {ps:List MemPlace} (h:DataW.TrodVars enc P w spare [n1,n2,n3,n4,n5,n6] gs ps) :
  ∃ d1 d2 d3 d4 d5 d6,gs=[d1,d2,d3,d4,d5,d6]:=by
 have cut:∀ {n:String} {ns:List String} {gs:List (DataW H)} {ps:List MemPlace},DataW.TrodVars enc P w spare (n::ns) gs ps->∃ d ds q,gs=d::ds /\ DataW.TrodVars enc P w spare ns ds q:=by
  intro n ns gs ps h
  cases gs with
  | nil=>simp [DataW.TrodVars] at h
  | cons d ds =>
   obtain ⟨_,_,_,_,_,q,_,_,_,_,hs,_⟩:=h
   exact ⟨d,ds,q,rfl,hs⟩
 obtain ⟨d1,_,_,rfl,h1⟩:=cut h
 obtain ⟨d2,_,_,rfl,h2⟩:=cut h1
 obtain ⟨d3,_,_,rfl,h3⟩:=cut h2
 obtain ⟨d4,_,_,rfl,h4⟩:=cut h3
 obtain ⟨d5,_,_,rfl,h5⟩:=cut h4
 obtain ⟨d6,_,_,rfl,h6⟩:=cut h5
 obtain ⟨rfl,-⟩:=trodVars_none h6
 exact ⟨d1,d2,d3,d4,d5,d6,rfl⟩
end Go.Proofs.YteagpjlgjfaclaaGreatDoor
namespace Go.Proofs.YteagpjlgjfaclaaGreatDoor
set_option maxRecDepth 100000
open Go.RowKit
theorem qip (s:Sy) (cpu:Int):(qa0 s cpu).tasks.length=s.tasks.length:=by
 unfold qa0
 split
 ·rfl
 ·simp [qeN]
theorem qfM (s:Sy):∀ k:Nat,(qaF s k).tasks.length=s.tasks.length
 | 0=>rfl
 | k+1=>by
  show (qa0 (qaF s k) k).tasks.length=_
  rw [qip,qfM s k]
theorem qiq {s:Sy} (h:qbx s=true):(qaz s).tasks.length=s.tasks.length /\ (qaz s).cpus=s.cpus:=by
 have e:qaz s=qeg (qaF (qbe (qaR (qaT s))) s.cpus.toNat):=by unfold qaz;rw [h];rfl
 rw [e]
 refine ⟨?_,?_⟩
 ·show (qaF (qbe (qaR (qaT s))) s.cpus.toNat).tasks.length=_
  rw [qfM]
  simp [qbe,qaR,qaT]
 ·show (qaF (qbe (qaR (qaT s))) s.cpus.toNat).cpus=_
  rw [(qem _ _).1]
  rfl
theorem qfN:∀ (n:Nat) (s:Sy),(qaU s n).1.tasks.length=s.tasks.length /\ (qaU s n).1.cpus=s.cpus /\ qai (qaU s n).1 <= max (qai s) 1600
 | 0,s=>⟨rfl,rfl,by show qai s <= _;omega⟩
 | n+1,s=>by
  cases h:qbx s
  ·have e:(qaU s (n+1)).1=s:=by simp [qaU,h]
   rw [e]
   exact ⟨rfl,rfl,by omega⟩
  ·have e:(qaU s (n+1)).1=(qaU (qaz s) n).1:=by simp [qaU,h]
   obtain ⟨h1,h2,h3⟩:=qfN n (qaz s)
   have h4:=qiq h
   have h5:=(qhK h).2
   rw [e]
   exact ⟨h1.trans h4.1,h2.trans h4.2,by omega⟩
def qcW (s:Sy):Prop:=s.tasks.length <= 13 /\ s.cpus <= 4 /\ qai s <= 3000
theorem qfO (ts:List Tsk) (t:Tsk):(putL ts t).length <= ts.length+1:=by
 unfold putL
 split
 ·split
  ·rw [qcU];omega
  ·omega
 ·simp
theorem qir {s:Sy} {c:Cl} (h:qaS s c=0):qcW (qaO s c):=by
 unfold qaS at h
 split at h
 case isFalse=>omega
 case isTrue hb =>
  simp only [Bool.and_eq_true] at hb
  have R:=qcP.1 hb.1
  obtain ⟨f1,f2,f3,f4⟩:=R.few
  have f5:=R.small
  have f6:=R.cpus
  have e:qaO s c=doC s c:=by unfold qaO;rw [hb.1,hb.2,h];rfl
  rw [e]
  unfold doC
  split
  ·have:=qfO s.tasks (qbY s c)
   unfold qai at f5
   refine ⟨by show (putL s.tasks (qbY s c)).length <= _;omega,f6.2,?_⟩
   show (putL s.tasks (qbY s c)).length+qaj s.locks+s.ghosts.length+s.floors.length+s.trace.length <= _
   omega
  ·split
   ·obtain ⟨h1,h2,h3⟩:=qfN c.a.toNat s
    exact ⟨by omega,by omega,by omega⟩
   ·unfold qcz
    unfold qai at f5
    have same:∀ (k:Nat) (t:Tsk),qcW { s with tasks:=s.tasks.set k t }:=fun k t=>⟨by simp;omega,f6.2,by unfold qai;simp;omega⟩
    split
    ·exact same _ _
    ·split
     ·exact same _ _
     ·split
      ·have he:=List.length_eraseIdx_le s.tasks (qau s.tasks c.no).toNat
       refine ⟨by show (s.tasks.eraseIdx _).length <= _;omega,f6.2,?_⟩
       unfold qdi qai
       dsimp only
       split
       ·simp only [List.length_append,List.length_singleton];omega
       ·omega
      ·split
       ·have:=qgO s.locks c.a c.no
        refine ⟨by show s.tasks.length <= _;omega,f6.2,?_⟩
        show s.tasks.length+qaj (askL s.locks c.a c.no)+s.ghosts.length+s.floors.length+s.trace.length <= _
        omega
       ·split
        ·have:=qk8 s.locks c.a c.no (qcm s.tasks (qcL s.locks c.a.toNat))
         refine ⟨by show s.tasks.length <= _;omega,f6.2,?_⟩
         show s.tasks.length+qaj (qaX s.locks c.a c.no (qcm s.tasks (qcL s.locks c.a.toNat)))+s.ghosts.length+s.floors.length+s.trace.length <= _
         omega
        ·split
         ·exact same _ _
         ·split
          ·exact same _ _
          ·exact ⟨by omega,f6.2,by unfold qai;omega⟩
theorem qep:∀ (cs:List Cl) (s:Sy) (c:Cl),runS s (cs++[c])=if qaS (runS s cs) c==0 then qaO (runS s cs) c else runS s cs
 | [],s,c=>by
  show (if qaS s c==0 then runS (qaO s c) [] else runS s [])=_
  rfl
 | x::r,s,c=>by
  show (if qaS s x==0 then runS (qaO s x) (r++[c]) else runS s (r++[c]))=_
  cases h:(qaS s x==0)
  ·have e:runS s (x::r)=runS s r:=by show (if qaS s x==0 then runS (qaO s x) r else runS s r)=_;rw [h];rfl
   rw [e]
   exact qep r s c
  ·have e:runS s (x::r)=runS (qaO s x) r:=by show (if qaS s x==0 then runS (qaO s x) r else runS s r)=_;rw [h];rfl
   rw [e]
   exact qep r (qaO s x) c
theorem qis {n:Int} (h:inB n 1 4=true):qcW (newS n):=by
 have:=qas.1 h
 unfold newS
 rw [h]
 refine ⟨by simp [Sy.zero],this.2,?_⟩
 simp [qai,Sy.zero,qaj,sumW]
 omega
end Go.Proofs.YteagpjlgjfaclaaGreatDoor
namespace Go.Proofs.YteagpjlgjfaclaaGreatDoor
set_option maxRecDepth 100000
open Go.RowKit
attribute [local go_sem] Keeps.refl Keeps.alloc Keeps.drew Keeps.drewN
theorem qjE {ts:List Tsk} {no:Int} {k:Nat} {t:Tsk} (ht:ts[k]?=some t) (hq:(t.no==no)=true) (H:∀ (j:Nat) (s:Tsk),j < k->ts[j]?=some s->(s.no==no)=false):qau ts no=k:=by
 have hk':k < ts.length:=by
  rcases Nat.lt_or_ge k ts.length with h | h
  ·exact h
  ·simp [List.getElem?_eq_none h] at ht
 have:ts.findIdx? (fun t=>t.no==no)=some k:=by
  rw [List.findIdx?_eq_some_iff_getElem]
  have e1:ts[k]=t:=by rw [List.getElem?_eq_getElem hk'] at ht;simpa using ht
  refine ⟨hk',by rw [e1];exact hq,fun j hj => ?_⟩
  have:=H j ts[j] hj (List.getElem?_eq_getElem _)
  simp [this]
 simp [qau,this]
theorem qjF {ts:List Tsk} {no:Int} (H:∀ (j:Nat) (s:Tsk),ts[j]?=some s->(s.no==no)=false):qau ts no = -1:=by
 have:ts.findIdx? (fun t=>t.no==no)=none:=by
  rw [List.findIdx?_eq_none_iff]
  intro t ht
  obtain ⟨j,hj,rfl⟩:=List.mem_iff_getElem.1 ht
  exact H j _ (List.getElem?_eq_getElem hj)
 simp [qau,this]
set_option maxHeartbeats 1000000 in
theorem qew:qmx:=by
 intro a cap ts no w hl hs
 unfold maxLen at hl
 generalize hn:ts.length=n at hl
 have Hn:Hid (ts.length=n):=hn
 clear hn
 go_enter Tryz.func17,Tryz.ntmps17
 go_wp2
 go_loopw [9] (fun i wr=>∃ k:Nat,k <= n /\ i = .int .i64 k /\ Keeps w wr /\ Hid (∀ j t,j < k->ts[j]?=some t->(t.no==no)=false)) (fun i _=>n - (intOf i).toNat)
 case atStart=>exact ⟨0,Nat.zero_le _,rfl,Keeps.refl _,fun j t hj=>by omega⟩
 case round =>
  obtain ⟨k,hk,rfl,hK,H⟩:=hrel
  by_cases hlt:k < n
  ·obtain ⟨t,ht⟩:=qbP (xs:=ts) (k:=k) (by rw [Hn.out];exact hlt)
   obtain ⟨b,off,rfl,r0,r1⟩:=hs.at ht (by omega)
   have hlt':(k:Int) < (n:Int):=by omega
   have Ht:Hid (ts[k]?=some t):=ht
   clear hs ht
   cases hq:(t.no==no)
   ·go_wp2
    exact ⟨⟨k+1,by omega,by go_num,hK.alloc _,fun j s hj hs=>by
     by_cases e:j=k
     ·subst e;rw [Ht.out] at hs;cases hs;exact hq
     ·exact H.out j s (by omega) hs⟩,by simp only [intOf];omega⟩
   ·have Hr:Hid (qau ts no=k):=qjE Ht.out hq H.out
    go_wp2
    go_ret
    exact ⟨by rw [Hr.out];rfl,hK.alloc _⟩
  ·have Hr:Hid (qau ts no = -1):=qjF fun j s hs=>by
    refine H.out j s ?_ hs
    rcases Nat.lt_or_ge j ts.length with h' | h'
    ·have:=Hn.out;omega
    ·simp [List.getElem?_eq_none h'] at hs
   go_wp2
   go_ret
   exact ⟨by rw [Hr.out];rfl,hK⟩
end Go.Proofs.YteagpjlgjfaclaaGreatDoor
namespace Go.Proofs.YteagpjlgjfaclaaGreatDoor
set_option maxRecDepth 100000
open Go.RowKit
attribute [local go_sem] Keeps.refl Keeps.alloc Keeps.drew Keeps.drewN
theorem qcq {P:Nat->Prop} {w w':World} {b:Nat} {C:Array Value} (t:TurnsB P w w') (hb:Blk w b C) (hn:¬ P b):Blk w' b C:=by
 have e:=t.block b hb.lt hn
 exact ⟨Nat.lt_of_lt_of_le hb.lt t.size,fun k=>(World.cell?_of_block (w:=w) e).trans (hb.cells k),fun k=>(World.frozen?_of_block (w:=w) e).trans (hb.frozens k)⟩
theorem qey {P:Program} {c:Code} {K:Act->World->Prop} {Q:Exit->Act->World->Prop} {a:Act} {w:World} (h:Code.wp P c (Exit.then K (fun _ _ _=>False)) a w):Code.wp P c (Exit.then K Q) a w :=
 Code.wp_mono (fun e a w hq=>by cases e <;> first | exact hq | exact hq.elim) h
def TwoB (ob rb:Nat) (C D:Array Value) (w:World):Prop:=Blk w ob C /\ Blk w rb D
theorem qkA (rb sb ob:Nat) (w:World) (hr:Blk w rb #[.nilIface]) :
  CallsD Tryz.prog 78 #[.pointer (some ⟨rb,0,none⟩),.pointer (some ⟨sb,0,none⟩),.pointer (some ⟨ob,0,none⟩)] .returning w fun e u' w'=>u' = .returning /\ (e = .returned (.tuple #[]) /\ w'=w):=by
 obtain ⟨_,z1,z2⟩:=hr
 go_enter_d Tryz.func78,Tryz.ntmps78
 go_wp2
 go_end0
 exact ⟨rfl,rfl⟩
def qkB (s:Sy) (ob:Nat) (w:World) (e:Ending) (w':World):Prop:=∃ v vs,e = .returned (.tuple #[]) /\ OwnS w' w.heap.size v vs s /\ Blk w' ob (syc s v) /\ KeepsBut ob w w'
set_option linter.unusedSimpArgs false in
theorem qkC (rb sb ob:Nat) (u:TypeId) (pv:Value) (s1:Sy) (v1:Sv) (v:Sv) (s:Sy) (w:World) (hr:Blk w rb #[.iface u pv]) (hs:Blk w sb (syc s v)) (ho:Blk w ob (syc s1 v1)) (h:SysOn w v s) (hsz:qai s <= 1048576) :
  CallsD Tryz.prog 78 #[.pointer (some ⟨rb,0,none⟩),.pointer (some ⟨sb,0,none⟩),.pointer (some ⟨ob,0,none⟩)] .returning w fun e u' w'=>u' = .returning /\ qkB s ob w e w':=by
 have cC:=qgk v s w h hsz
 have z1:=hr.cells
 have z3:=hs.cells
 dsimp only [syc] at z3
 clear hr hs h
 go_enter_d Tryz.func78,Tryz.ntmps78
 go_upto_region 1 with fail
 go_wp2_with (go_at_call 77;refine cC.mono ?_;rintro e w2 ⟨v',vs',rfl,o2,k2,-⟩;have B2:=ho.keeps k2;obtain ⟨_,z5,z6⟩:=B2;dsimp only [syc] at z5)
 have lt:=ho.lt
 have D:=(ho.keeps k2).putC (syc s v').toList rfl
 have O:OwnS (putC w2 ob 0 (syc s v').toList) w.heap.size v' vs' s:=OwnS.farC (c:=ob) (fun i hi=>by have:=(o2.blkLt hi).1;omega) _ _ o2
 have K:KeepsBut ob w (putC w2 ob 0 (syc s v').toList):=KeepsBut.putOwn _ _ _ (.of k2)
 change bodyPost _ _ _ _ _ (putC w2 ob 0 (syc s v').toList)
 generalize putC w2 ob 0 (syc s v').toList=Q at D O K ⊢
 go_end0
 exact ⟨v',vs',rfl,O,D,K⟩
end Go.Proofs.YteagpjlgjfaclaaGreatDoor
namespace Go.Proofs.YteagpjlgjfaclaaGreatDoor
set_option maxRecDepth 100000
open Go.RowKit
attribute [local go_sem] Keeps.refl Keeps.alloc Keeps.drew Keeps.drewN
theorem qg8 (a:Option Addr) (n cap:Nat) (i:Int) (w:World) (hn:n <= 1048576) (h0:0 <= i) (hi:i <= 1000) (hb:∀ g,w.heap.size <= g->Bytes g w a n) :
  Calls Tryz.prog 18 #[.slice a n cap,.int .i64 i] w fun e w'=>∃ x:Int,e = .returned (.int .i64 x) /\ 0 <= x /\ x <= 255 /\ w'=w:=by
 obtain ⟨i,rfl⟩:=Int.eq_ofNat_of_zero_le h0
 by_cases hlt:i < n
 ·rcases hb w.heap.size (Nat.le_refl _) with h0 | ⟨b,off,rfl,hg,hz⟩
  ·omega
  obtain ⟨z,hz0,hz1,hcz⟩:=hz i hlt
  have hlt':(i:Int) < (n:Int):=by omega
  clear hz hb
  go_enter Tryz.func18,Tryz.ntmps18
  go_wp2
  go_ret
  exact ⟨z,rfl,hz0,hz1,rfl⟩
 ·clear hb
  go_enter Tryz.func18,Tryz.ntmps18
  go_wp2
  go_ret
  exact ⟨_,rfl,by omega,by omega,rfl⟩
attribute [local go_sem high] qmt
theorem qlG (t:Tsk):eqT t t=true:=by simp [eqT]
set_option maxHeartbeats 1000000 in
theorem qlH (a a':Option Addr) (n cap cap':Nat) (ts:List Tsk) (w:World) (hn:ts.length=n) (hl:n <= 1048576) (hs:Ts w a ts) (hs':Ts w a' ts) :
  Calls Tryz.prog 20 #[.slice a n cap,.slice a' n cap'] w fun e w'=>e = .returned (.bool true) /\ Keeps w w':=by
 have Hn:Hid (ts.length=n):=hn
 have HS:Hid (Ts w a ts):=hs
 have HS':Hid (Ts w a' ts):=hs'
 clear hn hs hs'
 have hnn:((n:Int) != (n:Int))=false:=by simp
 go_enter Tryz.func20,Tryz.ntmps20
 go_upto_region 4 with fail
 go_loopw [5] (fun i wr=>∃ k:Nat,k <= n /\ i = .int .i64 k /\ Hid (Keeps w wr)) (fun i _=>n - (intOf i).toNat)
 case atStart=>exact ⟨0,Nat.zero_le _,rfl,Keeps.refl _⟩
 case round =>
  obtain ⟨k,hk,rfl,hK⟩:=hrel
  by_cases hlt:k < n
  ·obtain ⟨t,ht⟩:=qal (xs:=ts) (k:=k) (by rw [Hn.out];exact hlt)
   obtain ⟨b,off,rfl,r0,r1⟩:=(HS.out.keeps hK.out).at ht (by omega)
   obtain ⟨b',off',rfl,r2,r3⟩:=(HS'.out.keeps hK.out).at ht (by omega)
   have hlt':(k:Int) < (n:Int):=by omega
   clear ht
   have nt:eqT t t=true:=qlG t
   go_upto_region 6 with fail
   go_quiet (fail)
   go_wp2
   exact ⟨⟨k+1,by omega,by go_num,hK.out.drewN _⟩,by simp only [intOf];omega⟩
  ·have hlt':decide ((k:Int) < (n:Int))=false:=by simp;omega
   go_wp2
   go_ret
   exact ⟨rfl,hK.out⟩
end Go.Proofs.YteagpjlgjfaclaaGreatDoor
namespace Go.Proofs.YteagpjlgjfaclaaGreatDoor
set_option maxRecDepth 100000
open Go.RowKit
attribute [local go_sem] Keeps.refl Keeps.alloc Keeps.drew Keeps.drewN
theorem OnT.mTaskAt {w w':World} {a:Option Addr} {n cap:Nat} {ts:List Tsk} (h:OnT w a n cap ts) (x:Int) {z:Int} (hz:qau ts x=z) (k:Keeps w w'):Calls Tryz.prog 17 #[.slice a n cap,.int .i64 x] w' fun e w''=>e = .returned (.int .i64 z) /\ Keeps w' w'':=by
 have:=qew a cap ts x w' h.small (h.keeps k).lies
 rw [h.len,hz] at this
 exact this
set_option maxHeartbeats 8000000 in
theorem qj5:qmb:=by
 intro w v s i no h
 have hm:v.t.n <= 2000000 /\ v.l.n <= 2000000:=by have:=h.size;have:=h.lay.ll;have:=h.lay.tl;have:=qc5 s.locks;unfold qai at *;omega
 obtain ⟨hm1,hm2⟩:=hm
 have kW:=blkK w (.cells (syc s v) 30)
 have hb:=blkR w (syc s v) 30
 have hT:Hid (OnT (w.alloc (.cells (syc s v) 30)) v.t.a v.t.n v.t.cap s.tasks):=h.onT.keeps kW
 have hL:Hid (On (w.alloc (.cells (syc s v) 30)) v.l.a v.l.n v.l.cap s.locks):=h.onL.keeps kW
 have HE:Hid (qaD s i no=(inB i 0 ((v.l.n:Int) - 1)&&(qak s.tasks no&&(qaE s.locks i.toNat==0||(qak s.tasks (qaE s.locks i.toNat)&&(tAt s.tasks (qaE s.locks i.toNat)).cpu==(tAt s.tasks no).cpu))))):=by show _=_;unfold qaD;rw [hL.out.len]
 clear h
 obtain ⟨pa,Hpa⟩:∃ pa,Hid (qau s.tasks no=pa):=⟨_,rfl⟩
 go_enter Tryz.func156,Tryz.ntmps156
 go_wp2_with fail
 generalize w.alloc (.cells (syc s v) 30)=W at *
 refine (hT.out.mTaskAt no Hpa.out (Keeps.refl _)).mono ?_
 rintro e w1 ⟨rfl,k1⟩
 cases c2:decide (pa < 0)
 rotate_left
 ·have Hr:Hid (qaD s i no=false):=by show _=_;rw [HE.out];unfold qak;rw [Hpa.out,c2];simp
  go_wp2
  go_ret
  exact ⟨by rw [Hr.out];rfl,kW.trans k1⟩
 have hth:qak s.tasks no=true:=by unfold qak;rw [Hpa.out,c2];rfl
 obtain ⟨ka,ta,ea,hta,-⟩:=qda.1 hth
 have Hta:Hid (tAt s.tasks no=ta):=qdb ea hta
 obtain rfl:pa=(ka:Int):=by rw [<- Hpa.out];exact ea
 have HLa:Hid (∀ w',Calls Tryz.prog 186 #[.slice v.l.a v.l.n v.l.cap,.int .i64 i] w' fun e w''=>e = .returned (.bool (inB i 0 ((v.l.n:Int) - 1))) /\ w''=w'):=fun w'=>qjU v.l.a v.l.cap v.l.n i w' (by unfold maxLen;omega)
 cases c1:inB i 0 ((v.l.n:Int) - 1)
 ·have Hr:Hid (qaD s i no=false):=by show _=_;rw [HE.out,c1];rfl
  rw [c1] at HLa
  go_wp2_with (go_at_call 186;refine (HLa.out _).mono ?_;rintro e w' ⟨rfl,hw'⟩;have hw2:=hw'.symm;subst hw2)
  go_ret
  exact ⟨by rw [Hr.out];rfl,kW.trans k1⟩
 rw [c1] at HLa
 have hka:ka < v.t.n:=by have:=qaw hta;rw [hT.out.len] at this;exact this
 have hkai:(ka:Int) < (v.t.n:Int):=by omega
 obtain ⟨bt,ot,hat,rt⟩:=hT.out.all (by omega)
 have ra:∀ w',Keeps W w'->w'.cell? ⟨bt,ot+ka*14+2,none⟩=some (.int .i64 ta.cpu):=fun w' h=>(rt ka ta hta).2 w' h 2 (by omega)
 have RT:Hid (∀ (i:Nat) (t:Tsk),s.tasks[i]?=some t->∀ w',Keeps W w'->w'.cell? ⟨bt,ot+i*14+2,none⟩=some (.int .i64 t.cpu)):=fun i t ht w' h=>(rt i t ht).2 w' h 2 (by omega)
 obtain ⟨i0,i1⟩:=qas.1 c1
 obtain ⟨k,rfl⟩:∃ k:Nat,i=(k:Int):=⟨i.toNat,by omega⟩
 obtain ⟨l,hl⟩:=qal (xs:=s.locks) (k:=k) (by rw [hL.out.len];omega)
 obtain ⟨hkn,b,off,a',cap',ha,r0,-,-,-⟩:=hL.out.at hl
 have hki:(k:Int) < (v.l.n:Int):=by omega
 rw [ha] at HLa
 have HE2:Hid (qaD s k no=(l.owner==0||(qak s.tasks l.owner&&(tAt s.tasks l.owner).cpu==ta.cpu))):=by
  show _=_
  rw [HE.out,c1,hth,Int.toNat_natCast,qbT hl,Hta.out]
  rfl
 obtain ⟨po,Hpo⟩:∃ po,Hid (qau s.tasks l.owner=po):=⟨_,rfl⟩
 have TA:Hid (∀ w',Keeps W w'->Calls Tryz.prog 17 #[.slice v.t.a v.t.n v.t.cap,.int .i64 l.owner] w' fun e w''=>e = .returned (.int .i64 po) /\ Keeps w' w''):=fun w' h=>hT.out.mTaskAt l.owner Hpo.out h
 rw [hat] at TA
 clear hth ea hta rt Hpa hl HE
 cases c3:(l.owner==0)
 rotate_left
 ·have Hr:Hid (qaD s k no=true):=by show _=_;rw [HE2.out,c3];rfl
  go_wp2_with (go_at_call 186;refine (HLa.out _).mono ?_;rintro e w' ⟨rfl,hw'⟩;have hw2:=hw'.symm;subst hw2)
  go_ret
  exact ⟨by rw [Hr.out];rfl,kW.trans k1⟩
 go_wp2_with (first
  | (go_at_call 186;refine (HLa.out _).mono ?_;rintro e w' ⟨rfl,hw'⟩;have hw2:=hw'.symm;subst hw2)
  | (go_at_call 17;refine (TA.out _ k1).mono ?_;rintro e w5 ⟨rfl,k5⟩;have K5:=k1.trans k5))
 clear TA
 cases c4:decide (0 <= po)
 ·have Hr:Hid (qaD s k no=false):=by
   have:qak s.tasks l.owner=false:=by unfold qak;rw [Hpo.out];simp only [decide_eq_false_iff_not] at c4;simp;omega
   show _=_
   rw [HE2.out,c3,this];rfl
  refine wp_region_held_drew (S:=(fun w'=>Keeps W w')) (by kernel_rfl) ?_ (fun hHeld => ?_)
  ·exact K5.drew
  refine Plan.go [0,1,2] ?_
  iterate 3 (refine qac (by simp only [qab];rfl) (by kernel_rfl) (by exact fun _ _ _ h=>h) (by rfl) (by assumption) (fun w _=>by go_simp;try (with_reducible rfl)) ?_;try simp only [qaa])
  refine Plan.nil ?_
  refine Plan.go [3,4,5,6,7,8,9,10,11,12,13,14,15] ?_
  iterate 13 (refine qaA (by simp only [qab];rfl) (by kernel_rfl) (by exact fun _ _ _ h=>h) (by rfl) (by assumption) ?_;try simp only [qaa])
  refine Plan.nil ?_
  refine Plan.go [16,17] ?_
  iterate 2 (refine qac (by simp only [qab];rfl) (by kernel_rfl) (by exact fun _ _ _ h=>h) (by rfl) (by assumption) (fun w _=>by go_simp;try (with_reducible rfl)) ?_;try simp only [qaa])
  refine Plan.nil ?_
  refine wpAnyH_done (by kernel_rfl) ?_ _
  go_wp2
  go_ret
  exact ⟨by rw [Hr.out];rfl,kW.trans K5.drew⟩
 have htho:qak s.tasks l.owner=true:=by unfold qak;rw [Hpo.out];simp only [decide_eq_true_eq] at c4;simp;omega
 obtain ⟨kx,tx,ex,htx,-⟩:=qda.1 htho
 have Htx:Hid (tAt s.tasks l.owner=tx):=qdb ex htx
 obtain rfl:po=(kx:Int):=by rw [<- Hpo.out];exact ex
 have hkx:kx < v.t.n:=by have:=qaw htx;rw [hT.out.len] at this;exact this
 have hkxi:(kx:Int) < (v.t.n:Int):=by omega
 have rx:∀ w',Keeps W w'->w'.cell? ⟨bt,ot+kx*14+2,none⟩=some (.int .i64 tx.cpu):=fun w' h=>RT.out kx tx htx w' h
 have Hr:Hid (qaD s k no=(tx.cpu==ta.cpu)):=by show _=_;rw [HE2.out,c3,htho,Htx.out];rfl
 clear htho ex htx Hpo
 refine wp_region_held_drew (S:=(fun w'=>Keeps W w')) (by kernel_rfl) ?_ (fun hHeld => ?_)
 ·exact K5.drew
 refine Plan.go [0,1,2,3,4,5,6,7,8,9,10,11,12,13,14,15,16,17] ?_
 iterate 18 (refine qac (by simp only [qab];rfl) (by kernel_rfl) (by exact fun _ _ _ h=>h) (by rfl) (by assumption) (fun w _=>by go_simp;try (with_reducible rfl)) ?_;try simp only [qaa])
 refine Plan.nil ?_
 refine wpAnyH_done (by kernel_rfl) ?_ _
 go_wp2
 go_ret
 exact ⟨by rw [Hr.out];rfl,kW.trans K5.drew⟩
end Go.Proofs.YteagpjlgjfaclaaGreatDoor
namespace Go.Proofs.YteagpjlgjfaclaaGreatDoor
set_option maxRecDepth 100000
open Go.RowKit
attribute [local go_sem] Keeps.refl Keeps.alloc Keeps.drew Keeps.drewN
theorem qko (t:Tsk) (w:World):(Instr.field 84 (.agg (dtc t)) 1).run Tryz.prog w = .ok (.agg #[.int .i64 t.q,.int .i64 t.p,.int .i64 t.left,.int .i64 t.due]) w:=by kernel_rfl
theorem qkp (q p l d:Int) (w:World):(Instr.field 82 (.agg #[.int .i64 q,.int .i64 p,.int .i64 l,.int .i64 d]) 0).run Tryz.prog w = .ok (.agg #[.int .i64 q,.int .i64 p]) w:=by kernel_rfl
attribute [local go_sem] qko qkp
set_option maxHeartbeats 4000000 in
theorem qc4:qmh:=by
 intro w v s cpu h
 obtain ⟨⟨ta,tn,tcap⟩,vl,⟨ga,gn,gcap⟩,vf,vr⟩:=v
 have hm1:tn <= 2000000:=by have h1:=h.size;have h2:s.tasks.length=tn:=h.lay.tl;unfold qai at h1;omega
 have hm2:gn <= 2000000:=by have h1:=h.size;have h2:s.ghosts.length=gn:=h.lay.gl;unfold qai at h1;omega
 have Hn:Hid (s.tasks.length=tn):=h.lay.tl
 have Hg:Hid (s.ghosts.length=gn):=h.lay.gl
 have kW:=blkK w (.cells (syc s ⟨⟨ta,tn,tcap⟩,vl,⟨ga,gn,gcap⟩,vf,vr⟩) 30)
 have hb:=blkR w (syc s ⟨⟨ta,tn,tcap⟩,vl,⟨ga,gn,gcap⟩,vf,vr⟩) 30
 have hs1:Hid (Ts (w.alloc (.cells (syc s ⟨⟨ta,tn,tcap⟩,vl,⟨ga,gn,gcap⟩,vf,vr⟩) 30)) ta s.tasks):=h.lay.t.keeps kW
 have hs2:Hid (Gs (w.alloc (.cells (syc s ⟨⟨ta,tn,tcap⟩,vl,⟨ga,gn,gcap⟩,vf,vr⟩) 30)) ga s.ghosts):=h.lay.g.keeps kW
 clear h
 have HE:Hid (qan s cpu=(s.tasks.filter (qaI cpu)).map qbd++(s.ghosts.filter (ghOn cpu)).map qbw):=rfl
 go_enter Tryz.func16,Tryz.ntmps16
 go_wp2
 have HW:Hid (w.heap.size <= (w.alloc (.cells (syc s ⟨⟨ta,tn,tcap⟩,vl,⟨ga,gn,gcap⟩,vf,vr⟩) 30)).heap.size):=kW.size
 generalize w.alloc (.cells (syc s ⟨⟨ta,tn,tcap⟩,vl,⟨ga,gn,gcap⟩,vf,vr⟩) 30)=W at *
 go_loopw [5,13] (fun o i wr=>∃ (k:Nat) (xs:List (Int × Int)),k <= tn /\ i = .int .i64 k /\ xs.length <= k /\ Hid (xs=((s.tasks.take k).filter (qaI cpu)).map qbd) /\ Hid (OwnP wr W.heap.size o xs) /\ Keeps W wr) (fun _ i _=>tn - (intOf i).toNat)
 case atStart=>exact ⟨0,[],Nat.zero_le _,rfl,by simp,by show _=_;simp,World.ownsRow_nil _ _ _ _,Keeps.refl _⟩
 case round =>
  obtain ⟨k,xs,hk,rfl,hxl,HX,O,hK⟩:=hrel
  by_cases hlt:k < tn
  ·obtain ⟨t,ht⟩:=qal (xs:=s.tasks) (k:=k) (by rw [Hn.out];exact hlt)
   obtain ⟨b,off,rfl,r0,r1⟩:=hs1.out.at ht (by omega)
   have hlt':(k:Int) < (tn:Int):=by omega
   have Hstep:=qeP (qaI cpu) qbd ht
   rw [<- HX.out] at Hstep
   have HS:Hid (((s.tasks.take (k+1)).filter (qaI cpu)).map qbd=xs++(if qaI cpu t then [qbd t] else [])):=Hstep
   clear ht Hstep
   cases c1:(t.cls==1)
   ·have Hx:Hid (xs=((s.tasks.take (k+1)).filter (qaI cpu)).map qbd):=by show _=_;rw [HS.out];simp [qaI,c1]
    go_wp2
    exact ⟨⟨k+1,xs,by omega,by go_num,by omega,Hx,O.out.keeps ((Keeps.refl _).alloc _),hK.alloc _⟩,by simp only [intOf];omega⟩
   cases c2:(t.cpu==cpu)
   ·have Hx:Hid (xs=((s.tasks.take (k+1)).filter (qaI cpu)).map qbd):=by show _=_;rw [HS.out];simp [qaI,c1,c2]
    go_wp2
    exact ⟨⟨k+1,xs,by omega,by go_num,by omega,Hx,O.out.keeps ((Keeps.refl _).alloc _),hK.alloc _⟩,by simp only [intOf];omega⟩
   have Hx:Hid (xs++[(t.q,t.p)]=((s.tasks.take (k+1)).filter (qaI cpu)).map qbd):=by show _=_;rw [HS.out];simp [qaI,c1,c2,qbd]
   go_wp2_with (first
    | (go_at_call 43;refine (qgD t _).mono ?_;rintro e w4 ⟨rfl,k4⟩;have K4:Keeps wr w4:=((Keeps.refl wr).alloc _).trans k4;clear k4)
    | (at_builtin;(refine qbA rfl _ _ 46 rfl W 51 (.agg (pc (0,0))) 2 16 pc Tryz.underlying46 (by kernel_rfl) rfl (by decide) qaq qba _ xs rfl wr O.out hK (K4.alloc _) (t.q,t.p) _ 1 (Blk.new _ _ _) rfl ?c1 ?c2 ?_)))
   case c1=>unfold maxLen;omega
   case c2=>omega
   intro v' w5 own5 k5 _
   have HO:Hid (OwnP w5 W.heap.size v' (xs++[(t.q,t.p)])):=own5
   clear own5 O
   go_wp2
   exact ⟨⟨k+1,xs++[(t.q,t.p)],by omega,by go_num,by simp;omega,Hx,HO,k5⟩,by simp only [intOf];omega⟩
  ·have hlt':decide ((k:Int) < (tn:Int))=false:=by simp;omega
   have HP:Hid ((s.tasks.filter (qaI cpu)).map qbd=xs):=by
    have h1:=HX.out
    rw [List.take_of_length_le (by have:=Hn.out;omega)] at h1
    exact h1.symm
   clear HX
   go_wp2
   generalize wr=V at *
   go_loopw [5,37] (fun o i wr=>∃ (j:Nat) (ys:List (Int × Int)),j <= gn /\ i = .int .i64 j /\ ys.length <= tn+j /\ Hid (ys=xs++((s.ghosts.take j).filter (ghOn cpu)).map qbw) /\ Hid (OwnP wr W.heap.size o ys) /\ Keeps W wr) (fun _ i _=>gn - (intOf i).toNat)
   case atStart=>exact ⟨0,xs,Nat.zero_le _,rfl,by omega,by show _=_;simp,O,hK⟩
   case round =>
    obtain ⟨j,ys,hj,rfl,hyl,HY,O2,hK2⟩:=hrel
    clear O hK
    by_cases hjt:j < gn
    ·obtain ⟨g,hg⟩:=qal (xs:=s.ghosts) (k:=j) (by rw [Hg.out];exact hjt)
     obtain ⟨b,off,rfl,r0,r1⟩:=hs2.out.at hg (by omega)
     have hjt':(j:Int) < (gn:Int):=by omega
     have HS:Hid (xs++((s.ghosts.take (j+1)).filter (ghOn cpu)).map qbw=ys++(if ghOn cpu g then [qbw g] else [])):=by
      show _=_
      rw [qeP (ghOn cpu) qbw hg,HY.out,List.append_assoc]
     clear hg
     cases c1:(g.cpu==cpu)
     ·have Hx:Hid (ys=xs++((s.ghosts.take (j+1)).filter (ghOn cpu)).map qbw):=by show _=_;rw [HS.out];simp [ghOn,c1]
      go_wp2
      exact ⟨⟨j+1,ys,by omega,by go_num,by omega,Hx,O2.out.keeps ((Keeps.refl _).alloc _),hK2.alloc _⟩,by simp only [intOf];omega⟩
     have Hx:Hid (ys++[(g.q,g.p)]=xs++((s.ghosts.take (j+1)).filter (ghOn cpu)).map qbw):=by show _=_;rw [HS.out];simp [ghOn,c1,qbw]
     go_wp2_with (at_builtin;(refine qbA rfl _ _ 46 rfl W 51 (.agg (pc (0,0))) 2 16 pc Tryz.underlying46 (by kernel_rfl) rfl (by decide) qaq qba _ ys rfl wr O2.out hK2 (((Keeps.refl _).alloc _).alloc _) (g.q,g.p) (wr.heap.size+1) 1 (by have:=Blk.new (wr.alloc (.cells (ghc g) 87)) (pc (g.q,g.p)) 51;simpa using this) rfl ?c1 ?c2 ?_))
     case c1=>unfold maxLen;omega
     case c2=>omega
     intro v' w5 own5 k5 _
     have HO:Hid (OwnP w5 W.heap.size v' (ys++[(g.q,g.p)])):=own5
     clear own5 O2
     go_wp2
     exact ⟨⟨j+1,ys++[(g.q,g.p)],by omega,by go_num,by simp;omega,Hx,HO,k5⟩,by simp only [intOf];omega⟩
    ·have hjt':decide ((j:Int) < (gn:Int))=false:=by simp;omega
     have HQ:Hid (qan s cpu=ys):=by
      have h1:=HY.out
      rw [List.take_of_length_le (by have:=Hg.out;omega)] at h1
      show _=_
      rw [HE.out,h1,HP.out]
     go_wp2
     go_ret
     exact ⟨_,rfl,by rw [HQ.out];exact O2.out.base HW.out,kW.trans hK2⟩
end Go.Proofs.YteagpjlgjfaclaaGreatDoor
