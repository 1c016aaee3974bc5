/-
  The frame of a law whose row lets goroutines be left behind
  What a law asks of a text and of lists of tasks: a byte, wh
  Rows of parts of time, held against each other, marked, and
  Lists of parts of time: the law's own helpers: a copy is ma
  The walk of FnExactSysNew, over a contract of the program's
  Calls: the codes of calls of a task, and what is stored of
  Maps from numbers to numbers that the call makes, told by t
  The walks of the exact laws of chapter 9 that hand back a n
  Drawn systems: a system of one's own beside the cursor.
  The walk of FnExactSysOk, over a contract of the program's
  The walk of FnExactSharesOn, over a contract of the program
  A task is put among none: the model's TaskPut of no row at
  Deadlines, the program's side: what its functions are made
  The program's calls on a system of one's own in a variable:
  A heap of tasks that share fairly, as a list: who had least
  Locks: who waits where, as a map; what is right of them by
  The program's locks: who waits where, and what follows from
  Fixed priorities, the program's side: what its functions ar
  The program's heap of two: put and first.
-/
import Derived.Test.YteagpjlgjfaclaaGreatDoorLoneLeaves
import Derived.Conc.Holds
import Derived.Conc.LeavingOf
import Derived.Handed
import Derived.SevenTiedAt
import Derived.ChangeVars
import Derived.Test.YteagpjlgjfaclaaGreatDoorLockSpec2
import Derived.Test.YteagpjlgjfaclaaGreatDoorImplHead
import Derived.Test.YteagpjlgjfaclaaGreatDoorTaskPut
import Derived.Test.YteagpjlgjfaclaaGreatDoorCur
import Derived.Deep.RegionHeld3
import Derived.Test.YteagpjlgjfaclaaGreatDoorSysShares
import Derived.Test.YteagpjlgjfaclaaGreatDoorSysNewS
import Derived.Test.YteagpjlgjfaclaaGreatDoorSum
import Derived.Test.YteagpjlgjfaclaaGreatDoorTaskSpec
import Derived.Test.YteagpjlgjfaclaaGreatDoorSysTurn
import Derived.Test.YteagpjlgjfaclaaGreatDoorLate
import Derived.Maps.OwnSet
import Derived.Test.YteagpjlgjfaclaaGreatDoorSysCopy
import Derived.Test.YteagpjlgjfaclaaGreatDoorSysLocks
import Derived.Test.YteagpjlgjfaclaaGreatDoorImplTaskOk
import Derived.Test.YteagpjlgjfaclaaGreatDoorTaskNew
import Derived.Test.YteagpjlgjfaclaaGreatDoorDueSpec
import Derived.Test.YteagpjlgjfaclaaGreatDoorSysBase
import Derived.Test.YteagpjlgjfaclaaGreatDoorErrIs
import Derived.Test.YteagpjlgjfaclaaGreatDoorPickPure
import Derived.WalkMore
namespace Go.Proofs.YteagpjlgjfaclaaGreatDoor
set_option maxRecDepth 100000
section
open Go.ChangeShapes Go.WideShapes Go.RowKit
theorem Ew {H:Type} {enc:TypeId × Value->H} {a:Assume} {C:Checked} {os:Os} {f:FuncId} {fn:Func} {s:ChangeSpec} {conds:List PathCond} {apart fresh handsOn again:Bool} {X:World->Array Value->Prop}
  (hX:∀ (w w':World) (args:Array Value),w.heap=w'.heap->X w args->X w' args)
  (own:ownKnob C.prog.godebug=none) (started:os.Started) (noInit:C.prog.inits.idxOf? f=none) (hfn:C.prog.funcs[f]?=some fn)
  (witness:∃ (w:World) (tape:Tape) (i:Input),w.os=os /\ (w.forCall tape i).Shaped C.prog /\ i.vars=[] /\ Input.okWide C.prog (w.forCall tape i) .any w.heap.size f i /\
   ((s.pre enc C.prog fn conds apart (w.forCall tape i).memory i.args /\ X (w.forCall tape i).memory i.args) /\ sizedMet enc C.prog fn (OpenSpec.ofChange s) apart (w.forCall tape i).memory i.args) /\ a.holds C.prog (lone (Frame.enter C.prog f i.args .normal) [] (w.forCall tape i)))
  (contract:∀ (W:World) (base:Nat) (args:Array Value) (ds gs:List (DataW H)) (before:List MemPlace),
   (∀ (j:Nat) t v,fn.params[j]?=some t->args[j]?=some v->Value.okWide C.prog W .any base t v) ->
   DataW.Whole enc C.prog fn.params.toList s.vars apart W args.toList ds gs before ->
   conds.all (PathCond.test C.prog ⟨fn.params.toList,ds,s.plain.varTypes C.prog,gs⟩)=true ->
   (DataW.weightsEach C.prog (fn.params.toList++s.plain.varTypes C.prog) (ds++gs)).all (· <= reachBytes)=true->X W args ->
   a.holds C.prog (lone (Frame.enter C.prog f args .normal) [] W) ->
   Calls C.prog f args W fun e W'=>∃ v,e = .returned v /\ s.post enc C.prog fn apart fresh handsOn again W args v W') :
  ReturnsInLeavingWide a C os f .any (fun w args=>(s.pre enc C.prog fn conds apart w args /\ X w args) /\ sizedMet enc C.prog fn (OpenSpec.ofChange s) apart w args) (s.post enc C.prog fn apart fresh handsOn again):=by
 refine returnsInLeavingWide_of_good own started witness ?_
 intro w tape i _ _ _ hok hpre hholds
 obtain ⟨_,_,_,fn',hfn',_,_,_,_,hval⟩:=hok
 have e:fn'=fn:=Option.some.inj (hfn'.symm.trans hfn)
 subst e
 obtain ⟨⟨⟨ds,gs,before,hw,hc⟩,hx⟩,hz⟩:=hpre
 have hw':=DataW.Whole.of_heap (w':=w.forCall tape i) (by rfl) hw
 obtain ⟨M,last,o,w',t',h1,h2,h3,h4⟩:=Ex noInit (contract (w.forCall tape i) w.heap.size i.args ds gs before hval hw' hc (hz.weights hw) (hX _ _ _ (by rfl) hx) hholds)
 exact ⟨M,last,o,w',t',h1,h2,h3,h4.mono fun v hp=>ChangeSpec.post_blind hp⟩
theorem Ey (Lk:Looks) {p:Pinned} {s:OpenSpec} {c:OpenClaim} (al:List (List PathCond)) (kinds:List LaidKind) (tests:Bool) (har:Bool × String) (lk:Bool)
  (hc:c.holds p s) (hal:∀ D∈al,(c.withDomain D).holds p s) (hw:c.wfByText s=true) (hwal:∀ D∈al,(c.withDomain D).wfByText s=true)
  (htie:c.laidByTextAt Lk p kinds tests)
  (hst:c.start = .entering) (hnb:c.noBlocks=false /\ c.again=false) (hm:p.checked.prog.mainIs=some (har.1,har.2.toList)) (hn:(!har.1&&har.2.isEmpty && !lk)=false)
  (hl:∀ f fn,p.checked.prog.funcNamed c.func=some f->p.checked.prog.funcs[f]?=some fn->lk=p.checked.prog.looks [] /\ ∀ (j:Nat) t,fn.params[j]?=some t->p.checked.prog.wantsStandIn t=false)
  (hg:true=c.goesBy p.checked.prog) :
  Claim7.holds p (.plain s) { stood:={ row:=c,standIns:=[],harness:=har,looks:=lk },kinds:=[],alts:=al,goes:=true,laidByText:=true,laidKinds:=kinds,laidTests:=tests,laidLooks:=Lk }:=by
 have h6:∀ r:OpenClaim,Claim7.isSixth { stood:={ row:=r,standIns:=[],harness:=har,looks:=lk },kinds:=[] }=false:=fun r=>by simpa [Claim7.isSixth] using hn
 refine ⟨Claim7.tied_new_at Lk kinds tests (Claim7.new_of_sixth hc har lk hst hnb hm (h6 c) hl) hw,fun D hD => ?_,htie,(fun h=>by cases h),hg⟩
 exact Claim7.tied_new_at Lk kinds tests (Claim7.new_of_sixth (hal D hD) har lk hst hnb hm (h6 _) hl) (hwal D hD)
theorem Ez {H:Type} {enc:TypeId × Value->H} {P:Program} {w:World} {spare:Nat->Bool} {n1 n2 n3 n4 n5 n6:String} {gs:List (DataW H)} {ps:List MemPlace} (h:DataW.TrodVars enc P w spare [n1,n2,n3,n4,n5,n6] gs ps) :
  ∃ d1 d2 d3 d4 d5 d6,gs=[d1,d2,d3,d4,d5,d6]:=by
 have cut:∀ {n:String} {ns:List String} {gs:List (DataW H)} {ps:List MemPlace},DataW.TrodVars enc P w spare (n::ns) gs ps->∃ d ds q,gs=d::ds /\ DataW.TrodVars enc P w spare ns ds q:=by
  intro n ns gs ps h
  cases gs with
  | nil=>simp [DataW.TrodVars] at h
  | cons d ds =>
   obtain ⟨_,_,_,_,_,q,_,_,_,_,hs,_⟩:=h
   exact ⟨d,ds,q,rfl,hs⟩
 obtain ⟨d1,_,_,rfl,h1⟩:=cut h
 obtain ⟨d2,_,_,rfl,h2⟩:=cut h1
 obtain ⟨d3,_,_,rfl,h3⟩:=cut h2
 obtain ⟨d4,_,_,rfl,h4⟩:=cut h3
 obtain ⟨d5,_,_,rfl,h5⟩:=cut h4
 obtain ⟨d6,_,_,rfl,h6⟩:=cut h5
 obtain ⟨rfl,-⟩:=trodVars_none h6
 exact ⟨d1,d2,d3,d4,d5,d6,rfl⟩
end
section
open Go.RowKit
attribute [local go_sem] aa.refl aa.alloc aa.drew aa.drewN
theorem mW {ts:List ag} {no:Int} (h:bF ts no=true):∃ k:Nat,dA ts no=(k:Int) /\ (∃ t,ts[k]?=some t) /\ ∀ t,ts[k]?=some t->de ts no=t:=by
 obtain ⟨k,t,e,ht,-⟩:=jL.1 h
 exact ⟨k,e,⟨t,ht⟩,fun t' ht'=>kh e ht'⟩
theorem mh {s:Sy} {c:Cl} (h4:decide (c.kind <= 3)=false) (h11:(c.kind==11)=false) (hth:bF s.tasks c.no=true):df s c=mi s c (de s.tasks c.no):=by
 unfold df
 rw [if_neg (by simpa using h4),h11,hth]
 rfl
theorem sH {s:Sy} {c:Cl} (h4:decide (c.kind <= 3)=false) (h11:(c.kind==11)=false) (hth:bF s.tasks c.no=false):df s c=2:=by
 unfold df
 rw [if_neg (by simpa using h4),h11,hth]
 rfl
theorem nN {s:Sy} {c:Cl} (h4:decide (c.kind <= 3)=false) (h11:(c.kind==11)=false):ei s c=lI s c (dA s.tasks c.no).toNat (de s.tasks c.no):=by
 unfold ei
 rw [if_neg (by simpa using h4),h11]
 rfl
section
variable {w0 w:World} {lo ob rb:Nat} {v0 v:Sv} {cf vs:List Lv} {s:Sy}
theorem aR.sI (h:aR w0 lo v0 cf w ob rb v vs s) {tb:Nat} (ha:v.t.a=some ⟨tb,0,none⟩):tb≠ob:=fun e=>h.g.var.far 0 (by show v.t.val.ownBlock=some ob;rw [Rw.val,ha,e];rfl)
theorem aR.sJ (h:aR w0 lo v0 cf w ob rb v vs s) {tb:Nat} (ha:v.t.a=some ⟨tb,0,none⟩):tb≠rb:=fun e=>h.far 0 (by show v.t.val.ownBlock=some rb;rw [Rw.val,ha,e];rfl)
theorem aR.gB (h:aR w0 lo v0 cf w ob rb v vs s) {tb:Nat} (ha:v.t.a=some ⟨tb,0,none⟩) {k:Nat} {x y:ag} (hk:s.tasks[k]?=some x) {j:Nat} (hj:j < 14) {u:Value} (e:(tc x).setIfInBounds j u=tc y) :
  aR w0 lo v0 cf (w.setCell ⟨tb,k*14+j,none⟩ u) ob rb v vs { s with tasks:=s.tasks.set k y }:=by
 have ho:bp v vs 0 tb:=by show v.t.val.ownBlock=some tb;rw [Rw.val,ha];rfl
 have h1:=h.sI ha
 have h2:=h.sJ ha
 have hn:=(h.g.var.own.t.row dC).1
 have hv:v.t.val = .slice (some ⟨tb,0,none⟩) s.tasks.length v.t.cap:=by rw [Rw.val,ha,hn]
 have O:=h.g.var.own.t
 rw [hv] at O
 have O2:Own 43 14 tc (w.setCell ⟨tb,k*14+j,none⟩ u) lo v.t.val (s.tasks.set k y):=by
  rw [hv]
  have:=O.setAt dC (i:=k) (j:=j) (x:=x) (y:=y) (u:=u) hk hj (by rw [<- e];simp)
  simpa using this
 have G:w.grownBy (w.setCell ⟨tb,k*14+j,none⟩ u) (some tb):=qk [u] w (k*14+j) (World.grownBy.refl w (some tb))
 have OS:ay (w.setCell ⟨tb,k*14+j,none⟩ u) lo v vs { s with tasks:=s.tasks.set k y }:=h.g.var.own.mj G.size (fun b hb hnn=>G.block b hb (fun e=>hnn (by cases e;exact ho))) v.t _ O2 (fun b e => .inl e)
 exact ⟨⟨⟨h.g.var.box.far h1 _,OS,h.g.var.gI,h.g.var.far⟩,h.g.goes.step OS ((aK.grown G).mono fun q e=>by cases e;exact .inl ⟨0,ho⟩) fun i _ hb => .inl ⟨i,hb⟩,h.g.new⟩,h.r.far h2 _,h.far,h.ne,h.new⟩
theorem aR.pass (h:aR w0 lo v0 cf w ob rb v vs s) {w3:World} {v3:Sv} {vs3:List Lv} {s3:Sy} (g:Goes w lo v vs w3 v3 vs3 s3):ai w3 rb zc /\ ai (putC w3 rb 0 (ae s3 v3).toList) rb (ae s3 v3) /\ Goes w0 lo v0 cf (putC w3 rb 0 (ae s3 v3).toList) v3 vs3 s3:=by
 have B:=g.blk h.r h.far
 have F:=g.far h.r.lt h.far
 refine ⟨B,B.putC (ae s3 v3).toList rfl,?_⟩
 exact (h.g.goes.trans g).step (ay.aU F _ _ g.own) (aK.putC (.inr h.new) _ 0 (aK.refl _ _)) fun i _ hb => .inl ⟨i,hb⟩
end
end
section
open Go.RowKit
def ep:List (Int × Int)->Int->Option Int
 | [],_=>none
 | p::r,k=>if p.1==k then some p.2 else ep r k
def cX (es:List (Int × Int)) (k:Int):Bool:=(ep es k).isSome
def f9 (es:List (Int × Int)) (k:Int):Int:=(ep es k).getD 0
def eZ (es:List (Int × Int)) (k:Int):List (Int × Int):=es.eraseP fun p=>p.1==k
theorem EA (es fs:List (Int × Int)) (k:Int):ep (es++fs) k=(ep es k).or (ep fs k):=by
 induction es with
 | nil=>rfl
 | cons p r ih =>
  simp only [List.cons_append,ep,ih]
  split <;> rfl
theorem EC (a b k:Int):ep [(a,b)] k=if a==k then some b else none:=rfl
def Once (es:List (Int × Int)):Prop:=(es.map Prod.fst).Nodup
theorem uf {es:List (Int × Int)} {k:Int}:ep es k=none↔k ∉ es.map Prod.fst:=by
 induction es with
 | nil=>simp [ep]
 | cons p r ih =>
  simp only [ep,List.map_cons,List.mem_cons,not_or]
  by_cases e:p.1=k
  ·subst e;simp
  ·rw [if_neg (by simpa using e),ih]
   exact ⟨fun h=>⟨fun e'=>e e'.symm,h⟩,fun h=>h.2⟩
theorem ED {es:List (Int × Int)} (h:Once es) (k x:Int):ep (eZ es k) x=if k==x then none else ep es x:=by
 induction es with
 | nil=>simp [eZ,ep]
 | cons p r ih =>
  have h2:Once r:=(List.nodup_cons.1 h).2
  have h1:p.1 ∉ r.map Prod.fst:=(List.nodup_cons.1 h).1
  have ih:=ih h2
  unfold eZ at ih ⊢
  by_cases e:p.1=k
  ·rw [List.eraseP_cons_of_pos (by simpa using e)]
   by_cases e2:k=x
   ·rw [if_pos (by simpa using e2),<- e2,<- e];exact uf.2 h1
   ·rw [if_neg (by simpa using e2)]
    simp only [ep]
    rw [if_neg (by rw [e];simpa using e2)]
  ·rw [List.eraseP_cons_of_neg (by simpa using e)]
   simp only [ep,ih]
   by_cases e2:k=x
   ·have c1:(k==x)=true:=by simpa using e2
    have c2:(p.1==x)=false:=by rw [<- e2];simpa using e
    simp [c1,c2]
   ·have c1:(k==x)=false:=by simpa using e2
    simp [c1]
def aW (w:World) (b:Nat) (es:List (Int × Int)):Prop :=
 ∃ (xs:Array MapEntry) (clock:Nat),w.heap[b]?=some (.map xs clock) /\ xs.toList.map (fun e=>(e.key,e.val))=es.map fun p=>((.int .i64 p.1,.int .i64 p.2):Value × Value)
theorem aW.made (w:World):aW (w.alloc (.map #[] 0)) w.heap.size []:=⟨#[],0,(MapKept.heap_alloc w _).1,rfl⟩
theorem aW.lt {w:World} {b:Nat} {es:List (Int × Int)} (h:aW w b es):b < w.heap.size:=by
 obtain ⟨xs,c,hb,_⟩:=h
 exact (Array.getElem?_eq_some_iff.1 hb).1
theorem aW.same {w w':World} {b:Nat} {es:List (Int × Int)} (h:aW w b es) (k:w'.heap[b]?=w.heap[b]?):aW w' b es:=by
 obtain ⟨xs,c,hb,r⟩:=h
 exact ⟨xs,c,k.trans hb,r⟩
theorem aW.keeps {w w':World} {b:Nat} {es:List (Int × Int)} (h:aW w b es) (k:aa w w'):aW w' b es:=h.same (Below.block k b h.lt)
theorem sK (k:Int):∀ (xs:List MapEntry) (es:List (Int × Int)) (i:Nat),xs.map (fun e=>(e.key,e.val))=es.map (fun p=>((.int .i64 p.1,.int .i64 p.2):Value × Value)) ->
  (ep es k=none /\ Instr.findNow (.int .i64) (.int .i64 k) xs i=some none) ∨
  ∃ (j:Nat) (v:Int),ep es k=some v /\ Instr.findNow (.int .i64) (.int .i64 k) xs i=some (some (i+j,.int .i64 v)) /\ es.eraseIdx j=eZ es k
 | [],[],_,_ => .inl ⟨rfl,rfl⟩
 | [],p::r,_,h=>by simp at h
 | e::xs,[],_,h=>by simp at h
 | e::xs,p::r,i,h=>by
  simp only [List.map_cons,List.cons.injEq,Prod.mk.injEq] at h
  obtain ⟨⟨h1,h2⟩,h3⟩:=h
  have hs:Instr.sameNow (.int .i64) (.int .i64 k) e.key=some (k==p.1):=by rw [h1];simp [Instr.sameNow]
  by_cases c:p.1=k
  ·refine .inr ⟨0,p.2,by simp [ep,c],?_,?_⟩
   ·simp only [Instr.findNow,hs,c,h2];simp
   ·unfold eZ;rw [List.eraseP_cons_of_pos (by simpa using c)];rfl
  ·have c1:(k==p.1)=false:=by simpa using fun e=>c e.symm
   have c2:(p.1==k)=false:=by simpa using c
   rcases sK k xs r (i+1) h3 with ⟨g1,g2⟩ | ⟨j,v,g1,g2,g3⟩
   ·exact .inl ⟨by simp [ep,c2,g1],by simp [Instr.findNow,hs,c1,g2]⟩
   ·refine .inr ⟨j+1,v,by simp [ep,c2,g1],?_,?_⟩
    ·simp only [Instr.findNow,hs,c1,g2];simp;omega
    ·unfold eZ at g3 ⊢;rw [List.eraseP_cons_of_neg (by simpa using c),<- g3];rfl
section
variable {P:Program} {w:World} {b:Nat} {es:List (Int × Int)} {t k e:TypeId}
theorem aW.look (h:aW w b es) (ht:P.underlying t=some (.map k e)) (hk:P.underlying k=some (.int .i64)) (hz:(zeroValue e).run P w = .ok (.int .i64 0) w) (x:Int) :
  (Instr.lookup t (.map (some b)) (.int .i64 x) true).run P w = .ok (.tuple #[.int .i64 (f9 es x),.bool (cX es x)]) w:=by
 obtain ⟨xs,clock,hb,r⟩:=h
 have ck:∀ em,(Instr.checkKey em 10000 k (.int .i64 x)).run P w = .ok () w:=fun em=>MapKept.run_checkKey hk (by simp [MapKept.IsKey]) em 9999
 rcases sK x xs.toList es 0 r with ⟨g1,g2⟩ | ⟨j,v,g1,g2,-⟩
 ·simp [Instr.lookup,run_underlying ht,MapKept.run_getObj_map hb,ck,MapKept.run_findKey hk g2,hz,Result.andThen,f9,cX,g1]
 ·simp [Instr.lookup,run_underlying ht,MapKept.run_getObj_map hb,ck,MapKept.run_findKey hk g2,Result.andThen,f9,cX,g1]
theorem aW.len (h:aW w b es) (ht:P.underlying t=some (.map k e)) (ty:TypeId):(Builtin.len_ #[t] ty #[.map (some b)]).run P w = .ok (.int .i64 es.length) w:=by
 obtain ⟨xs,clock,hb,r⟩:=h
 have:xs.size=es.length:=by have:=congrArg List.length r;simpa using this
 rw [<- this]
 simp [Builtin.len_,run_underlying ht,MapKept.run_getObj_map hb,goInt,Result.andThen]
theorem ug {o o':Obj} (hb:w.heap[b]?=some o):w.grownBy { w with heap:=w.heap.setIfInBounds b o' } (some b) :=
 ⟨rfl,rfl,rfl,by simp,fun i _ hi=>(MapKept.heap_set hb).2 i (fun e=>hi (by rw [e]))⟩
theorem aW.put (h:aW w b es) (ht:P.underlying t=some (.map k e)) (hk:P.underlying k=some (.int .i64)) {x:Int} (y:Int) (hx:ep es x=none) :
  ∃ w',(Instr.mapUpdate t (.map (some b)) (.int .i64 x) (.int .i64 y)).run P w = .ok () w' /\ aW w' b (es++[(x,y)]) /\ w.grownBy w' (some b):=by
 obtain ⟨xs,clock,hb,r⟩:=h
 have ck:∀ em,(Instr.checkKey em 10000 k (.int .i64 x)).run P w = .ok () w:=fun em=>MapKept.run_checkKey hk (by simp [MapKept.IsKey]) em 9999
 rcases sK x xs.toList es 0 r with ⟨g1,g2⟩ | ⟨j,v,g1,-,-⟩
 ·refine ⟨{ w with heap:=w.heap.setIfInBounds b (.map (xs.push ⟨.int .i64 x,.int .i64 y,clock⟩) (clock+1)) },?_,⟨_,_,(MapKept.heap_set hb).1,by simp [r]⟩,ug hb⟩
  simp [Instr.mapUpdate,run_underlying ht,MapKept.run_getObj_map hb,ck,MapKept.run_findKey hk g2,MapKept.run_setObj_map _ hb,Result.andThen]
 ·rw [hx] at g1;cases g1
theorem aW.del (h:aW w b es) (ht:P.underlying t=some (.map k e)) (hk:P.underlying k=some (.int .i64)) (x:Int) (ty:TypeId) :
  ∃ w',(Builtin.delete_ #[t,k] ty #[.map (some b),.int .i64 x]).run P w = .ok (.tuple #[]) w' /\ aW w' b (eZ es x) /\ w.grownBy w' (some b):=by
 obtain ⟨xs,clock,hb,r⟩:=h
 have ck:∀ em,(Instr.checkKey em 10000 k (.int .i64 x)).run P w = .ok () w:=fun em=>MapKept.run_checkKey hk (by simp [MapKept.IsKey]) em 9999
 rcases sK x xs.toList es 0 r with ⟨g1,g2⟩ | ⟨j,v,g1,g2,g3⟩
 ·have e0:eZ es x=es:=by
   unfold eZ
   refine List.eraseP_of_forall_not fun p hp => ?_
   intro hpx
   exact uf.1 g1 (List.mem_map.2 ⟨p,hp,by simpa using hpx⟩)
  refine ⟨{ w with heap:=w.heap.setIfInBounds b (.map xs clock) },?_,⟨xs,clock,(MapKept.heap_set hb).1,by rw [e0];exact r⟩,ug hb⟩
  simp [Builtin.delete_,run_underlying ht,MapKept.run_getObj_map hb,ck,MapKept.run_findKey hk g2,MapKept.run_setObj_map _ hb,Result.andThen]
 ·rw [Nat.zero_add] at g2
  have hsub:(xs.eraseIdxIfInBounds j).toList=xs.toList.eraseIdx j:=by
   unfold Array.eraseIdxIfInBounds
   split
   ·simp
   ·rename_i hn;rw [List.eraseIdx_of_length_le (by simpa using hn)]
  refine ⟨{ w with heap:=w.heap.setIfInBounds b (.map (xs.eraseIdxIfInBounds j) clock) },?_,⟨_,clock,(MapKept.heap_set hb).1,?_⟩,ug hb⟩
  ·simp [Builtin.delete_,run_underlying ht,MapKept.run_getObj_map hb,ck,MapKept.run_findKey hk g2,MapKept.run_setObj_map _ hb,Result.andThen]
  ·rw [hsub,<- g3,ChangeMaps.map_eraseIdx,ChangeMaps.map_eraseIdx,r]
end
section
variable {P:Program} {w:World} {ops:Array Oper} {rest:List Oper} {o:Oper} {a:Act} {Q:Exit->Act->World->Prop}
theorem qc3 (hg:o.guard=none) (m x:Operand) (t:TypeId) (hop:o.op=Op.lookup t m x true) (k e:TypeId) (ht:P.underlying t=some (.map k e)) (hk:P.underlying k=some (.int .i64))
  (hz:(zeroValue e).run P w = .ok (.int .i64 0) w) (b:Nat) (es:List (Int × Int)) (hm:a.eval m = .map (some b)) (h:aW w b es) (z:Int) (hx:a.eval x = .int .i64 z) (v:Int) (ok:Bool) (hv:f9 es z=v) (hok:cX es z=ok)
  (hK:wpList P ops Q rest (a.put o.dst (.tuple #[.int .i64 v,.bool ok])) w):wpList P ops Q (o::rest) a w:=by
 refine wpList_plain hg fun K' hK' => ?_
 have hrun:=h.look ht hk hz z
 rw [hv,hok] at hrun
 unfold Oper.wp
 simp [execOp,hop,hm,hx,hrun,Result.andThen]
 exact hK' _ _ hK
theorem EE (hg:o.guard=none) (m x y:Operand) (t:TypeId) (hop:o.op=Op.mapUpdate t m x y) (k e:TypeId) (ht:P.underlying t=some (.map k e)) (hk:P.underlying k=some (.int .i64))
  (b:Nat) (es:List (Int × Int)) (hm:a.eval m = .map (some b)) (h:aW w b es) (z v:Int) (hx:a.eval x = .int .i64 z) (hy:a.eval y = .int .i64 v) (hn:ep es z=none)
  (hK:∀ w',aW w' b (es++[(z,v)])->w.grownBy w' (some b)->wpList P ops Q rest (a.put o.dst undef) w'):wpList P ops Q (o::rest) a w:=by
 refine wpList_plain hg fun K' hK' => ?_
 obtain ⟨w',hrun,r1,r2⟩:=h.put ht hk v hn
 unfold Oper.wp
 simp [execOp,hop,hm,hx,hy,hrun,Result.andThen]
 exact hK' _ _ (hK w' r1 r2)
theorem EF (hg:o.guard=none) (m x:Operand) (t k:TypeId) (hop:o.op=Op.call { callee:=Callee.builtin Builtin.delete,args:=#[m,x],argTypes:=#[t,k] }) (e:TypeId) (ht:P.underlying t=some (.map k e)) (hk:P.underlying k=some (.int .i64))
  (b:Nat) (es:List (Int × Int)) (hm:a.eval m = .map (some b)) (h:aW w b es) (z:Int) (hx:a.eval x = .int .i64 z)
  (hK:∀ w',aW w' b (eZ es z)->w.grownBy w' (some b)->wpList P ops Q rest (a.put o.dst (.tuple #[])) w'):wpList P ops Q (o::rest) a w:=by
 refine wpList_plain hg fun K' hK' => ?_
 obtain ⟨w',hrun,r1,r2⟩:=h.del ht hk z o.type
 unfold Oper.wp
 simp [execOp,hop,resolve,invoke,builtin,hm,hx,hrun,Result.andThen]
 exact hK' _ _ (hK w' r1 r2)
end
end
section
open Go.RowKit
attribute [local go_sem] aa.refl aa.alloc aa.drew aa.drewN
def EG:Prop:=∀ (w:World) (v:Sv) (s:Sy) (i no:Int),aA w v s->Calls Tryz.prog 156 #[.agg (ae s v),.int .i64 i,.int .i64 no] w fun e w'=>e = .returned (.bool (eS s i no)) /\ aa w w'
theorem ay.cE {g:Nat} {w w':World} {lo:Nat} {v:Sv} {vs:List Lv} {s:Sy} (h:ay w lo v vs s) (k:ab g w w') (hg:g < lo):ay w' lo v vs s :=
 h.aside k.size fun i b hb=>k.block b (h.aG hb).2 (by have:=(h.aG hb).1;omega)
def sL (c:Cl):Prop:=c.kind <= 3->1 <= c.no /\ c.no <= 12
def EH (g:Nat) (w:World) (e:Ending) (w':World):Prop:=∃ z:Int,e = .returned (.int .i64 z) /\ bj w' g /\ ab g w w'
def EI (g:Nat) (w:World) (e:Ending) (w':World):Prop:=∃ c:Cl,e = .returned (ck c) /\ sL c /\ bj w' g /\ ab g w w'
theorem ab.i7 {g:Nat} {a:World} {b:Nat} (hb:a.heap.size <= b):∀ (L:List Value) {w:World} (k:Nat),ab g a w->ab g a (Go.Proofs.YteagpjlgjfaclaaGreatDoor.putC w b k L)
 | [],_,_,h=>h
 | u::r,_,k,h=>ab.i7 hb r (k+1) (h.aH (p:=⟨b,k,none⟩) hb u)
theorem bj.putC {g b:Nat} (hb:g < b):∀ (L:List Value) {w:World} (k:Nat),bj w g->bj (Go.Proofs.YteagpjlgjfaclaaGreatDoor.putC w b k L) g
 | [],_,_,h=>h
 | u::r,_,k,h=>bj.putC hb r (k+1) (h.aH hb k u)
theorem ay.kP {w:World} {lo:Nat} {v:Sv} {vs:List Lv} {s:Sy} (h:ay w lo v vs s) {j:Nat} {l:Lk} (hl:s.af[j]?=some l):∃ lb,v.l.a=some ⟨lb,0,none⟩ /\ w.cell? ⟨lb,j*2,none⟩=some (.int .i64 l.owner) /\ lo <= lb /\ lb < w.heap.size:=by
 have hj:=da hl
 have hv:=h.l.len
 obtain ⟨x,hx⟩:=bW (xs:=vs) (k:=j) (by rw [hv];exact hj)
 obtain ⟨b,cap,e,-,-,-⟩:=h.l.own.some gJ (by omega)
 have O:=h.l.own
 rw [e] at O
 have h1:=O.cellAt gJ (i:=j) (k:=0) hx (by omega)
 have h2:=O.cD b rfl
 have h3:=(h.l.rows j x l hx hl).1
 simp only [Rw.val,Value.slice.injEq] at e
 exact ⟨b,e.1,by rw [<- h3];simpa using h1,h2.1,h2.2⟩
abbrev dX:Array Value:=#[.int .i64 0,.int .i64 0,.int .i64 0,.int .i64 0,.int .i64 0]
theorem gK {g rb:Nat} {w Z wn:World} (R:ai Z rb dX) (hg:g < w.heap.size) (hr:w.heap.size <= rb) (kZ:ab g w Z) (hc:bj wn g) (k:ab g Z wn) (c:Cl) :
  ai (putC wn rb 0 (cc c).toList) rb (cc c) /\ bj (putC wn rb 0 (cc c).toList) g /\ ab g w (putC wn rb 0 (cc c).toList) :=
 ⟨(R.but k (by omega)).putC (cc c).toList rfl,bj.putC (by omega) _ 0 hc,ab.i7 hr _ 0 (kZ.trans k)⟩
def EJ:Prop:=∀ (w:World) (v:Sv) (s:Sy),dF w->aA w v s->Calls Tryz.prog 8 #[.agg (ae s v)] w fun e w'=>e = .returned (.bool (bf s)) /\ aa w w'
def EK:Prop:=∀ (w:World) (v:Sv) (s:Sy) (cpu:Int),aA w v s->Calls Tryz.prog 16 #[.agg (ae s v),.int .i64 cpu] w fun e w'=>∃ u,e = .returned u /\ eb w' w.heap.size u (fe s cpu) /\ aa w w'
set_option maxHeartbeats 4000000 in
theorem EL (t:ag) (w:World) :
  Calls Tryz.prog 99 #[.slice none 0 0,tk t] w fun e w'=>∃ v,e = .returned (.tuple #[v,.bool (dP [] t)]) /\ dH w' w.heap.size v (cg [] t) /\ aa w w':=by
 go_enter Tryz.func99,Tryz.ntmps99
 go_wp2_with fail
 have kW:aa w (w.alloc (.cells (tc t) 43)):=(aa.refl _).alloc _
 have B0:=ai.new w (tc t) 43
 refine (pr none 0 [] _ (by unfold maxLen;simp) (.inl rfl)).mono ?_
 rintro e w1 ⟨rfl,k1⟩
 have B1:=B0.keeps k1
 have i9:=kW.trans k1
 clear kW B0 k1
 have hb:di []=true:=by rfl
 rw [hb]
 go_wp2_with fail
 have kz:aa w1 (w1.alloc (.cells #[] 43)):=(aa.refl _).alloc _
 have dQ:dH (w1.alloc (.cells #[] 43)) w1.heap.size (.slice (some ⟨w1.heap.size,0,none⟩) 0 0) []:=Own.new 43 14 tc w1 (Nat.le_refl _)
 generalize w1.alloc (.cells #[] 43)=W at *
 have b0:∀ w',aa w1 w'->∀ k,w'.cell? ⟨w.heap.size,k,none⟩=(tc t)[k]?:=fun w' h=>(B1.keeps h).cells
 clear B1
 go_loopw [6,7,8] (fun v p i wr=>v = .slice (some ⟨w1.heap.size,0,none⟩) 0 0 /\ i = .int .i64 0 /\ p = .bool false /\ wr=W) (fun _ _ _ _=>0)
 case atStart=>exact ⟨rfl,rfl,rfl,rfl⟩
 case round =>
  obtain ⟨rfl,rfl,rfl,rfl⟩:=hrel
  go_wp2_with (at_builtin;(refine iE rfl _ _ 24 rfl w1 43 (tk ag.zero) 14 112 tc Tryz.underlying24 (by kernel_rfl) rfl (by decide) dC ja _ [] rfl wr dQ kz ((aa.refl _).alloc _) t _ 1 (ai.new _ _ _) rfl ?c1 ?c2 ?_))
  case c1=>unfold maxLen;simp
  case c2=>simp
  intro v2 w2 hown2 hk2 _
  have hown:dH w2 w1.heap.size v2 [t]:=hown2
  clear hown2
  obtain ⟨av,cv,rfl,hlies,hcv,hmv⟩:=hown.slice dC
  go_wp2_with fail
  refine (pr av cv [t] _ (by unfold maxLen;simp) hlies).mono ?_
  rintro e w3 ⟨rfl,k3⟩
  have hown3:=hown.keeps k3
  have jM:=hk2.trans k3
  cases hq:di [t]
  ·have Hb:Hid (dP [] t=false):=by show _=_;simp [dP,ins,hq]
   have Hp:Hid (cg [] t=[]):=by show _=_;simp [cg,ins,hq]
   clear hown hown3 hlies
   go_wp2_with (at_builtin;(refine ql rfl _ _ 24 rfl w3.heap.size 43 (tk ag.zero) 14 112 tc Tryz.underlying24 (by kernel_rfl) rfl (by decide) dC ja (.slice (some ⟨w3.heap.size,0,none⟩) 0 0) rfl (Own.new 43 14 tc w3 (Nat.le_refl _)) (by simp) [] ⟨none,0,0⟩ (.inl ⟨rfl,rfl,rfl⟩) (.inl rfl) rfl rfl (by simp) (by decide) ?_))
   intro v5 w5 o5 g5 f5
   have HO:Hid (dH w5 w3.heap.size v5 []):=o5
   have K5:aa w3 w5:=((aa.refl w3).alloc _).grown g5 (by intro q hq;simp [Value.ownBlock] at hq;omega)
   clear o5 g5 f5
   go_wp2
   go_ret2
   exact ⟨_,by rw [Hb.out];rfl,by rw [Hp.out];exact Own.base HO.out (i9.trans jM).size,(i9.trans jM).trans K5⟩
  ·have Hb:Hid (dP [] t=true):=by show _=_;simp [dP,ins,hq,hb]
   have Hp:Hid (cg [] t=[t]):=by show _=_;simp [cg,ins,hq,hb]
   go_wp2
   go_ret2
   exact ⟨_,by rw [Hb.out];rfl,by rw [Hp.out];exact Own.base hown3 i9.size,i9.trans jM⟩
theorem yg (t:ag) (w:World) :
  Calls Tryz.prog 190 #[tk t] w fun e w'=>e = .returned (.bool (dh t)) /\ aa w w':=by
 cases c1:(t.cls==1)
 ·have Hr:Hid (dh t=false):=by show _=_;simp [dh,c1]
  go_enter Tryz.func190,Tryz.ntmps190
  go_wp2
  go_ret
  exact ⟨by rw [Hr.out];rfl,(aa.refl _).alloc _⟩
 ·have Hr:Hid (dh t=aY t):=by show _=_;simp [dh,c1]
  go_enter Tryz.func190,Tryz.ntmps190
  go_wp2_with (go_at_call 74;refine (ml t _).mono ?_;rintro e w1 ⟨rfl,k1⟩)
  go_ret
  exact ⟨by rw [Hr.out];rfl,((aa.refl w).alloc _).trans k1⟩
end
section
open Go.RowKit
theorem bB.g {w:World} {lo ob:Nat} {v:Sv} {vs:List Lv} {s:Sy} (h:bB w lo ob v vs s):aP { w with heap:=#[] } lo Sv.zero [] w ob v vs s :=
 ⟨h,⟨h.own,⟨rfl,rfl,rfl,Nat.zero_le _,fun b hb _=>absurd hb (Nat.not_lt_zero b)⟩,fun _ _ _ => .inr (Nat.zero_le _)⟩,Nat.zero_le _⟩
def sM (lo ob:Nat) (v:Sv) (vs:List Lv) (s:Sy) (er:Nat->Addr) (n:Nat) (s':Sy) (w:World) (e:Ending) (w':World):Prop :=
 e = .returned (fH er n) /\ aK (fun b=>b=ob∨∃ i,bp v vs i b) w w' /\ (n=0->∃ v' vs',bB w' lo ob v' vs' s' /\ ∀ i b,bp v' vs' i b->(∃ j,bp v vs j b)∨w.heap.size <= b) /\ ∃ s1 v1,ai w' ob (ae s1 v1) /\ s1.now=s.now
def uh (lo:Nat) (er:Nat->Addr):Prop:=6 < lo /\ ∀ k,1 <= k->k <= 6->(er k).block < lo
theorem yh {lo ob:Nat} {v:Sv} {vs:List Lv} {s:Sy} {er:Nat->Addr} {n m:Nat} {s':Sy} {w X w':World} (VX:bB X lo ob v vs s) (kX:aa w X) (k:aa X w') (hn:n=m) (hm:m≠0):sM lo ob v vs s er n s' w (.returned (fH er m)) w' :=
 ⟨by rw [hn],aK.of (kX.trans k),fun e=>absurd (hn.symm.trans e) hm,s,v,VX.box.keeps k,rfl⟩
def cY (a b:ag):Bool:=decide (a.v < b.v)||a.v==b.v&&decide (a.no < b.no)
theorem ui (a b:ag):cY a b=true↔a.v < b.v∨a.v=b.v /\ a.no < b.no:=by simp [cY]
theorem ki (a b:ag):cY a b=false↔b.v < a.v∨b.v=a.v /\ b.no <= a.no:=by
 rw [Bool.eq_false_iff,ne_eq,ui]
 omega
theorem EM (a:ag):cY a a=false:=by rw [ki];omega
def ec (xs:List ag):Prop:=∀ (i:Nat) (c p:ag),0 < i->xs[i]?=some c->xs[(i - 1) / 2]?=some p->cY c p=false
def dJ (xs:List ag) (k:Nat):Prop :=
 (∀ (i:Nat) (c p:ag),0 < i->i≠k->xs[i]?=some c->xs[(i - 1) / 2]?=some p->cY c p=false) /\
 (0 < k->∀ (i:Nat) (c p:ag),0 < i->(i - 1) / 2=k->xs[i]?=some c->xs[(k - 1) / 2]?=some p->cY c p=false)
theorem ec.nil:ec []:=by intro i c p _ h;simp at h
theorem ec.snoc {xs:List ag} (h:ec xs) (x:ag):dJ (xs++[x]) xs.length:=by
 refine ⟨fun i c p h0 hne hc hp => ?_,fun h0 i c p hi hk hc hp => ?_⟩
 ·rcases Nat.lt_or_ge i xs.length with hl | hl
  ·rw [List.getElem?_append_left hl] at hc
   rw [List.getElem?_append_left (by omega)] at hp
   exact h i c p h0 hc hp
  ·rw [List.getElem?_eq_none (by simp;omega)] at hc
   cases hc
 ·rw [List.getElem?_eq_none (by simp;omega)] at hc
  cases hc
theorem dJ.top {xs:List ag} (h:dJ xs 0):ec xs:=fun i c p h0 hc hp=>h.1 i c p h0 (by omega) hc hp
theorem dJ.stay {xs:List ag} {k:Nat} (h:dJ xs k) {x y:ag} (hx:xs[k]?=some x) (hy:xs[(k - 1) / 2]?=some y) (hb:cY x y=false):ec xs:=by
 intro i c p h0 hc hp
 by_cases e:i=k
 ·subst e
  rw [hx] at hc;rw [hy] at hp
  cases hc;cases hp
  exact hb
 ·exact h.1 i c p h0 e hc hp
theorem uj {xs:List ag} {k m:Nat} {x y:ag} (hx:xs[k]?=some x) (hy:xs[m]?=some y) (hne:m < k) (i:Nat) :
  ((xs.set k y).set m x)[i]?=if i=m then some x else if i=k then some y else xs[i]?:=by
 have hk:k < xs.length:=by
  rcases Nat.lt_or_ge k xs.length with h | h
  ·exact h
  ·rw [List.getElem?_eq_none h] at hx;cases hx
 by_cases e1:i=m
 ·subst e1
  rw [if_pos rfl,List.getElem?_set_self (by simp;omega)]
 ·rw [if_neg e1,List.getElem?_set_ne (by omega)]
  by_cases e2:i=k
  ·subst e2
   rw [if_pos rfl,List.getElem?_set_self hk]
  ·rw [if_neg e2,List.getElem?_set_ne (by omega)]
theorem dJ.up {xs:List ag} {k:Nat} (h:dJ xs k) (h0:0 < k) {x y:ag} (hx:xs[k]?=some x) (hy:xs[(k - 1) / 2]?=some y) (hb:cY x y=true):dJ ((xs.set k y).set ((k - 1) / 2) x) ((k - 1) / 2):=by
 have hm:(k - 1) / 2 < k:=by omega
 have at':=uj hx hy hm
 rw [ui] at hb
 refine ⟨fun i c p hi hne hc hp => ?_,fun h1 i c p hi hk hc hp => ?_⟩
 ·rw [at'] at hc hp
  rw [if_neg hne] at hc
  by_cases ek:i=k
  ·subst ek
   rw [if_pos rfl] at hc hp
   cases hc;cases hp
   rw [ki];omega
  ·rw [if_neg ek] at hc
   by_cases e1:(i - 1) / 2=(k - 1) / 2
   ·rw [if_pos e1] at hp
    cases hp
    rw [<- e1] at hy
    have:=(ki _ _).1 (h.1 i c y hi ek hc hy)
    rw [ki];omega
   ·rw [if_neg e1] at hp
    by_cases e2:(i - 1) / 2=k
    ·rw [if_pos e2] at hp
     cases hp
     exact h.2 h0 i c _ hi e2 hc hy
    ·rw [if_neg e2] at hp
     exact h.1 i c p hi ek hc hp
 ·rw [at'] at hc hp
  rw [if_neg (by omega),if_neg (by omega)] at hp
  have h3:=(ki _ _).1 (h.1 ((k - 1) / 2) y p h1 (by omega) hy hp)
  rw [if_neg (by omega)] at hc
  by_cases ek:i=k
  ·rw [if_pos ek] at hc
   cases hc
   rw [ki];omega
  ·rw [if_neg ek] at hc
   rw [<- hk] at hy
   have h4:=(ki _ _).1 (h.1 i c y hi ek hc hy)
   rw [ki];omega
theorem EO {xs:List ag} {k m:Nat} {x y:ag} (hx:xs[k]?=some x) (hy:xs[m]?=some y) (hne:m < k) (z:ag):z∈(xs.set k y).set m x↔z∈xs:=by
 have at':=uj hx hy hne
 simp only [List.mem_iff_getElem?]
 constructor
 ·rintro ⟨i,hi⟩
  rw [at'] at hi
  split at hi
  ·cases hi;exact ⟨k,hx⟩
  ·split at hi
   ·cases hi;exact ⟨m,hy⟩
   ·exact ⟨i,hi⟩
 ·rintro ⟨i,hi⟩
  by_cases e1:i=m
  ·subst e1
   rw [hy] at hi;cases hi
   exact ⟨k,by rw [at',if_neg (by omega),if_pos rfl]⟩
  ·by_cases e2:i=k
   ·subst e2
    rw [hx] at hi;cases hi
    exact ⟨m,by rw [at',if_pos rfl]⟩
   ·exact ⟨i,by rw [at',if_neg e1,if_neg e2];exact hi⟩
theorem ec.first {xs:List ag} (h:ec xs) {f:ag} (hf:xs[0]?=some f):∀ (i:Nat) (z:ag),xs[i]?=some z->cY z f=false:=by
 intro i
 induction i using Nat.strongRecOn with
 | _ i ih =>
  intro z hz
  by_cases h0:i=0
  ·subst h0
   rw [hf] at hz;cases hz
   exact EM _
  ·have hl:i < xs.length:=by
    rcases Nat.lt_or_ge i xs.length with h | h
    ·exact h
    ·rw [List.getElem?_eq_none h] at hz;cases hz
   obtain ⟨p,hp⟩:∃ p,xs[(i - 1) / 2]?=some p:=⟨_,List.getElem?_eq_getElem (by omega)⟩
   have h1:=(ki _ _).1 (h i z p (by omega) hz hp)
   have h2:=(ki _ _).1 (ih _ (by omega) p hp)
   rw [ki];omega
def qm (o:Option ag) (x:ag):Option ag:=match o with
 | .none=>some x
 | .some f=>if cY x f then some x else some f
structure fu (xs:List ag) (x:ag) (k:Nat) (ys:List ag):Prop where
 len:ys.length=xs.length+1
 lt:k < ys.length
 but:dJ ys k
 mem:∀ z,z∈ys↔z∈xs∨z=x
 me:ys[k]?=some x
 fst:k≠0->ys[0]?=xs[0]?
 top:k=0->∀ f,xs[0]?=some f->cY x f=true
structure fJ (xs:List ag) (x:ag) (ys:List ag):Prop where
 len:ys.length=xs.length+1
 heap:ec ys
 mem:∀ z,z∈ys↔z∈xs∨z=x
 fst:ys[0]?=qm xs[0]? x
theorem fu.start {xs:List ag} (h:ec xs) (x:ag):fu xs x xs.length (xs++[x]):=by
 refine ⟨by simp,by simp,h.snoc x,by simp,by simp,fun h0 => ?_,fun h0 f hf => ?_⟩
 ·rw [List.getElem?_append_left (by omega)]
 ·rw [List.getElem?_eq_none (by omega)] at hf;cases hf
theorem fu.up {xs ys:List ag} {x y:ag} {k:Nat} (h:fu xs x k ys) (h0:0 < k) (hy:ys[(k - 1) / 2]?=some y) (hb:cY x y=true):fu xs x ((k - 1) / 2) ((ys.set k y).set ((k - 1) / 2) x):=by
 have hm:(k - 1) / 2 < k:=by omega
 have hl:=h.lt
 have at':=uj h.me hy hm
 refine ⟨by simpa using h.len,by simp;omega,h.but.up h0 h.me hy hb,fun z=>(EO h.me hy hm z).trans (h.mem z),by rw [at',if_pos rfl],fun h1 => ?_,fun h1 f hf => ?_⟩
 ·rw [at',if_neg (Ne.symm h1),if_neg (by omega)]
  exact h.fst (by omega)
 ·have e:=h.fst (by omega)
  rw [h1,e,hf] at hy
  cases hy
  exact hb
theorem fu.qn {xs ys:List ag} {x:ag} (h:fu xs x 0 ys):fJ xs x ys:=by
 refine ⟨h.len,h.but.top,h.mem,?_⟩
 rw [h.me]
 cases e:xs[0]? with
 | none=>rfl
 | some f=>simp [qm,h.top rfl f e]
theorem fu.stay {xs ys:List ag} {x y:ag} {k:Nat} (h:fu xs x k ys) (h0:0 < k) (hy:ys[(k - 1) / 2]?=some y) (hb:cY x y=false):fJ xs x ys:=by
 have hh:=h.but.stay h.me hy hb
 refine ⟨h.len,hh,h.mem,?_⟩
 have e:=h.fst (by omega)
 have hl:=h.len
 have hlt:=h.lt
 obtain ⟨f,hf⟩:∃ f,xs[0]?=some f:=⟨_,List.getElem?_eq_getElem (by omega)⟩
 have:=hh.first (e.trans hf) k x h.me
 rw [e,hf]
 simp [qm,this]
structure aX (ts xs:List ag):Prop where
 heap:ec xs
 mem:∀ z,z∈xs↔z∈ts /\ dY z=true
 len:xs.length <= ts.length
 fst:xs[0]?=(ts.filter dY).foldl qm none
theorem aX.start:aX [] []:=⟨ec.nil,by simp,by simp,rfl⟩
theorem aX.skip {ts xs:List ag} (h:aX ts xs) {t:ag} (ht:dY t=false):aX (ts++[t]) xs:=by
 refine ⟨h.heap,fun z => ?_,by have:=h.len;simp;omega,?_⟩
 ·rw [h.mem z,List.mem_append,List.mem_singleton]
  constructor
  ·rintro ⟨h1,h2⟩;exact ⟨.inl h1,h2⟩
  ·rintro ⟨h1 | rfl,h2⟩
   ·exact ⟨h1,h2⟩
   ·rw [ht] at h2;cases h2
 ·rw [List.filter_append,h.fst]
  simp [ht]
theorem aX.snoc {ts xs ys:List ag} (h:aX ts xs) {t:ag} (ht:dY t=true) (s:fJ xs t ys):aX (ts++[t]) ys:=by
 refine ⟨s.heap,fun z => ?_,by have:=h.len;have:=s.len;simp;omega,?_⟩
 ·rw [s.mem z,h.mem z,List.mem_append,List.mem_singleton]
  constructor
  ·rintro (⟨h1,h2⟩ | rfl)
   ·exact ⟨.inl h1,h2⟩
   ·exact ⟨.inr rfl,ht⟩
  ·rintro ⟨h1 | rfl,h2⟩
   ·exact .inl ⟨h1,h2⟩
   ·exact .inr rfl
 ·rw [s.fst,h.fst,List.filter_append]
  simp [ht]
theorem aX.none {ts:List ag} (h:aX ts []):∀ t∈ts,dY t=false:=by
 intro t ht
 cases e:dY t
 ·rfl
 ·have:=(h.mem t).2 ⟨ht,e⟩
  simp at this
theorem EP {ts:List ag}:∀ (a:Int),ts.foldl eX a=a∨∃ t∈ts,dY t=true /\ ts.foldl eX a=t.v:=by
 induction ts with
 | nil=>intro a;exact .inl rfl
 | cons y r ih =>
  intro a
  simp only [List.foldl_cons]
  rcases ih (eX a y) with e | ⟨t,ht,hf,e⟩
  ·rw [e]
   unfold eX
   split
   ·rename_i h
    simp only [Bool.and_eq_true] at h
    exact .inr ⟨y,by simp,h.1,rfl⟩
   ·exact .inl rfl
  ·exact .inr ⟨t,List.mem_cons_of_mem _ ht,hf,e⟩
theorem aX.least {ts xs:List ag} (h:aX ts xs) {f:ag} (hf:xs[0]?=some f):sN ts=f.v /\ 0 <= f.v:=by
 have hm:=(h.mem f).1 (List.mem_iff_getElem?.2 ⟨0,hf⟩)
 have hv:=((sO f).1 hm.2).v
 have h1:=(ER (ts:=ts) (-1)).1 f hm.1 hm.2
 refine ⟨?_,hv.1⟩
 unfold sN
 rcases EP (ts:=ts) (-1) with e | ⟨t,ht,hft,e⟩
 ·omega
 ·obtain ⟨i,hi⟩:=List.mem_iff_getElem?.1 ((h.mem t).2 ⟨ht,hft⟩)
  have:=(ki _ _).1 (h.heap.first hf i t hi)
  omega
theorem aX.floor {ts xs:List ag} (h:aX ts xs) {f:ag} (hf:xs[0]?=some f) (floor:Int):lJ ts floor=max floor f.v:=by
 obtain ⟨h1,h2⟩:=h.least hf
 unfold lJ
 rw [h1,if_neg (by omega)]
theorem aX.two {a b:ag} {xs:List ag} (h:aX [b,a] xs) (ha:dY a=true) (hb:dY b=true):xs[0]?=some (if cY a b then a else b):=by
 rw [h.fst]
 simp only [List.filter_cons,ha,hb,List.filter_nil,if_true,List.foldl_cons,List.foldl_nil,qm]
 split <;> rfl
def dL (at_:Int) (es:List (Int × Int)) (no:Int):List (Int × Int):=if cX es no then es else es++[(no,at_)]
def dR (at_:Int) (es:List (Int × Int)) (ws:List Int):List (Int × Int):=ws.foldl (dL at_) es
def gg (ls:List Lk):Nat->List (Int × Int)
 | 0=>[]
 | k+1=>dR k (gg ls k) (match ls[k]? with | some l=>l.waits | none=>[])
def dK (ls:List Lk):List (Int × Int):=gg ls ls.length
theorem uk {ls:List Lk} {k:Nat} {l:Lk} (h:ls[k]?=some l):gg ls (k+1)=dR k (gg ls k) l.waits:=by simp [gg,h]
theorem ES {at_:Int} {es:List (Int × Int)} {ws:List Int} {j:Nat} {x:Int} (h:ws[j]?=some x):dR at_ es (ws.take (j+1))=dL at_ (dR at_ es (ws.take j)) x:=by
 unfold dR
 rw [List.take_add_one,h,List.foldl_append]
 rfl
theorem yi (a:Int) (es:List (Int × Int)) (no x:Int):ep (dL a es no) x=(ep es x).or (if no==x then some a else none):=by
 unfold dL cX
 cases h:ep es no with
 | none =>
  simp only [Option.isSome_none,Bool.false_eq_true,if_false]
  rw [EA,EC]
 | some v =>
  simp only [Option.isSome_some,if_true]
  by_cases e:no=x
  ·subst e;rw [h];rfl
  ·rw [if_neg (by simpa using e)];simp
theorem yj (a:Int):∀ (ws:List Int) (es:List (Int × Int)) (x:Int),ep (dR a es ws) x=(ep es x).or (if hasB ws x then some a else none)
 | [],es,x=>by simp [dR,hasB]
 | y::r,es,x=>by
  have ih:=yj a r (dL a es y) x
  unfold dR at ih ⊢
  rw [List.foldl_cons,ih,yi]
  have e:hasB (y::r) x=((y==x)||hasB r x):=by simp [hasB]
  rw [e]
  cases ep es x with
  | some v=>rfl
  | none=>cases c:(y==x) <;> simp
theorem um (ls:List Lk):∀ (k:Nat),k <= ls.length->∀ x,ep (gg ls k) x=(dj (ls.take k) x).map fun i:Nat=>(i:Int)
 | 0,_,x=>by simp [gg,ep,dj]
 | k+1,hk,x=>by
  obtain ⟨l,hl⟩:=bW (xs:=ls) (k:=k) (by omega)
  rw [uk hl,yj,um ls k (by omega) x]
  unfold dj
  rw [List.take_add_one,hl,List.findIdx?_append]
  cases h:List.findIdx? (fun l=>hasB l.waits x) (ls.take k) with
  | some i=>rfl
  | none =>
   simp only [Option.toList_some,List.findIdx?_singleton,Option.map_none,Option.none_or,List.length_take]
   cases hb:hasB l.waits x
   ·rfl
   ·simp;omega
theorem uo (ls:List Lk) (x:Int):ep (dK ls) x=(dj ls x).map fun i:Nat=>(i:Int):=by
 have:=um ls ls.length (Nat.le_refl _) x
 rwa [List.take_length] at this
theorem yk {ls:List Lk} {x:Int} (h:dj ls x=none):cX (dK ls) x=false:=by unfold cX;rw [uo,h];rfl
theorem sP {ls:List Lk} {x:Int} {i:Nat} (h:dj ls x=some i):cX (dK ls) x=true /\ f9 (dK ls) x=(i:Int):=by
 unfold cX f9
 rw [uo,h]
 exact ⟨rfl,rfl⟩
theorem ET (a:Int) (es:List (Int × Int)) (no:Int) (h:Once es):Once (dL a es no):=by
 unfold dL cX
 cases e:ep es no with
 | some v=>simpa using h
 | none =>
  simp only [Option.isSome_none,Bool.false_eq_true,if_false]
  unfold Once at h ⊢
  rw [List.map_append,List.nodup_append]
  refine ⟨h,by simp,fun x hx y hy => ?_⟩
  simp at hy
  subst hy
  exact fun e'=>uf.1 e (e' ▸ hx)
theorem yl (a:Int):∀ (ws:List Int) (es:List (Int × Int)),Once es->Once (dR a es ws)
 | [],_,h=>h
 | y::r,es,h=>yl a r (dL a es y) (ET a es y h)
theorem ym (ls:List Lk):∀ k,Once (gg ls k)
 | 0=>List.nodup_nil
 | k+1=>yl _ _ _ (ym ls k)
theorem EU (ls:List Lk):Once (dK ls):=ym ls _
theorem yp (a:Int):∀ (ws:List Int) (es:List (Int × Int)),(dR a es ws).length <= es.length+ws.length /\ ((dR a es ws).length=es.length+ws.length↔(∀ x∈ws,ep es x=none) /\ ws.Nodup)
 | [],es=>by simp [dR]
 | y::r,es=>by
  have ih:=yp a r (dL a es y)
  have e1:dR a es (y::r)=dR a (dL a es y) r:=rfl
  rw [e1]
  cases h:ep es y with
  | some v =>
   have e2:dL a es y=es:=by unfold dL cX;rw [h];rfl
   rw [e2] at ih ⊢
   refine ⟨by simp only [List.length_cons];omega,fun hh => ?_,fun hh => ?_⟩
   ·simp only [List.length_cons] at hh;omega
   ·have:=hh.1 y (List.mem_cons_self ..);rw [h] at this;cases this
  | none =>
   have e2:dL a es y=es++[(y,a)]:=by unfold dL cX;rw [h];rfl
   have e3:(dL a es y).length=es.length+1:=by rw [e2];simp
   rw [e3] at ih
   refine ⟨by simp only [List.length_cons];omega,?_⟩
   have e4:(dR a (dL a es y) r).length=es.length+(y::r).length↔(dR a (dL a es y) r).length=es.length+1+r.length:=by simp only [List.length_cons];omega
   rw [e4,ih.2,List.nodup_cons]
   have e5:∀ x,ep (dL a es y) x=none↔ep es x=none /\ y≠x:=by
    intro x
    rw [yi]
    cases ep es x with
    | some v=>simp
    | none=>by_cases c:y=x <;> simp [c]
   constructor
   ·rintro ⟨h1,h2⟩
    refine ⟨fun x hx => ?_,fun hm=>((e5 y).1 (h1 y hm)).2 rfl,h2⟩
    rcases List.mem_cons.1 hx with rfl | hx
    ·exact h
    ·exact ((e5 x).1 (h1 x hx)).1
   ·rintro ⟨h1,h2,h3⟩
    exact ⟨fun x hx=>(e5 x).2 ⟨h1 x (List.mem_cons_of_mem _ hx),fun e=>h2 (e ▸ hx)⟩,h3⟩
theorem yq (ls:List Lk):∀ k,k <= ls.length->(gg ls k).length <= bC (ls.take k) /\ ((gg ls k).length=bC (ls.take k)↔(ed (ls.take k)).Nodup)
 | 0,_=>by simp [gg,bC,ed]
 | k+1,hk=>by
  obtain ⟨l,hl⟩:=bW (xs:=ls) (k:=k) (by omega)
  have ih:=yq ls k (by omega)
  have h2:=yp k l.waits (gg ls k)
  have e0:ed (ls.take (k+1))=ed (ls.take k)++l.waits:=by rw [List.take_add_one,hl,EV];simp [ed]
  rw [uk hl,qp hl,e0,List.nodup_append]
  refine ⟨by omega,?_⟩
  have e1:(dR k (gg ls k) l.waits).length=bC (ls.take k)+l.waits.length↔(dR k (gg ls k) l.waits).length=(gg ls k).length+l.waits.length /\ (gg ls k).length=bC (ls.take k):=by omega
  rw [e1,h2.2,ih.2]
  have e2:∀ x,ep (gg ls k) x=none↔x ∉ ed (ls.take k):=by
   intro x
   rw [um ls k (by omega),Option.map_eq_none_iff,uq]
  constructor
  ·rintro ⟨⟨h3,h4⟩,h5⟩
   exact ⟨h5,h4,fun a ha b hb e=>(e2 b).1 (h3 b hb) (e ▸ ha)⟩
  ·rintro ⟨h3,h4,h5⟩
   exact ⟨⟨fun x hx=>(e2 x).2 fun hm=>h5 x hm x hx rfl,h4⟩,h3⟩
theorem yr (ls:List Lk):(dK ls).length <= bC ls /\ ((dK ls).length=bC ls↔(ed ls).Nodup):=by
 have:=yq ls ls.length (Nat.le_refl _)
 rwa [List.take_length] at this
def ik (l:Lk):Bool:=l.waits.all (fun x=>aF x 1 1000)&&(aF l.owner 0 1000&&(!(l.owner==0)||l.waits.length==0))
theorem EX (ls:List Lk):(decide (ls.length <= 5)&&(ls.all ik&&(decide ((dK ls).length=bC ls)&&ls.all fun l=>(cO ls (ls.length+1) l.owner).2)))=dm ls:=by
 apply Bool.eq_iff_iff.2
 rw [lK]
 simp only [Bool.and_eq_true,decide_eq_true_eq,List.all_eq_true,(yr ls).2,ur]
 have sQ:∀ {j:Nat} {l:Lk},ls[j]?=some l->l∈ls:=fun h=>List.mem_of_getElem? h
 constructor
 ·rintro ⟨h1,h2,h3,h4⟩
  have key:∀ l∈ls,(∀ x∈l.waits,1 <= x /\ x <= 1000) /\ (0 <= l.owner /\ l.owner <= 1000) /\ (l.owner=0->l.waits=[]):=by
   intro l hl
   have:=h2 l hl
   simp only [ik,Bool.and_eq_true,List.all_eq_true,dq,Bool.or_eq_true,Bool.not_eq_true',beq_eq_false_iff_ne,beq_iff_eq,List.length_eq_zero_iff] at this
   refine ⟨this.1,this.2.1,fun e => ?_⟩
   rcases this.2.2 with h | h
   ·exact absurd e h
   ·exact h
  refine ⟨h1,fun j l hl=>(key l (sQ hl)).2.1,fun j l hl=>(key l (sQ hl)).2.2,fun j l x hl hx=>(key l (sQ hl)).1 x (il.1 hx),fun j l x hl hx => ?_,fun j l x hl hx => ?_⟩
  ·rw [uu];exact h3 x (nO.2 ⟨j,l,hl,hx⟩)
  ·cases hw:dj ls x with
   | none=>exact absurd (nO.2 ⟨j,l,hl,hx⟩) (uq.1 hw)
   | some i =>
    obtain ⟨m,hm,-,-⟩:=mX hw
    obtain ⟨c,hc⟩:=sR.1 (h4 m (sQ hm))
    exact ⟨_,Ends.step hw (by rw [gO hm];exact hc)⟩
 ·intro R
  have mem:∀ {l:Lk},l∈ls->∃ j:Nat,ls[j]?=some l:=fun hl=>by
   obtain ⟨j,hj,rfl⟩:=List.mem_iff_getElem.1 hl
   exact ⟨j,List.getElem?_eq_getElem hj⟩
  refine ⟨R.len,fun l hl => ?_,fun x hx => ?_,fun l hl => ?_⟩
  ·obtain ⟨j,hj⟩:=mem hl
   simp only [ik,Bool.and_eq_true,List.all_eq_true,dq,Bool.or_eq_true,Bool.not_eq_true',beq_eq_false_iff_ne,beq_iff_eq,List.length_eq_zero_iff]
   refine ⟨fun x hx=>R.no j l x hj (il.2 hx),R.owner j l hj,?_⟩
   by_cases e:l.owner=0
   ·exact .inr (R.free j l hj e)
   ·exact .inl e
  ·obtain ⟨j,l,hj,hx⟩:=nO.1 hx
   rw [<- uu];exact R.once j l x hj hx
  ·rw [sR]
   cases hw:dj ls l.owner with
   | none=>exact ⟨_,Ends.stop hw⟩
   | some i =>
    obtain ⟨m,hm,hx,-⟩:=mX hw
    exact R.ends i m l.owner hm hx
theorem EY {ls:List Lk} {j:Nat} {l:Lk} (hl:ls[j]?=some l) (x:Int):l.waits.filter (fun y=>cX (eZ (dK ls) x) y)=eK l.waits x:=by
 unfold eK
 refine List.filter_congr fun y hy => ?_
 unfold cX
 rw [ED (EU ls)]
 by_cases e:x=y
 ·subst e;simp
 ·rw [if_neg (by simpa using e)]
  have:dj ls y≠none:=fun h=>uq.1 h (nO.2 ⟨j,l,hl,il.2 hy⟩)
  rw [uo]
  cases hw:dj ls y with
  | none=>exact absurd hw this
  | some i=>simp;exact fun e'=>e e'.symm
variable {p:Bool}
attribute [local go_sem] aa.refl aa.alloc aa.drew aa.drewN
theorem mn (w:World):(zeroValue 3).run Tryz.prog w = .ok (.int .i64 0) w:=by kernel_rfl
set_option maxHeartbeats 1000000 in
theorem EZ (a:Option Addr) (cap:Nat) (xs:List Int) (x:Int) (w:World) (hl:xs.length <= maxLen) (hs:Ns w a xs) :
  Calls Tryz.prog 219 #[.slice a xs.length cap,.int .i64 x] w fun e w'=>∃ i:Int,e = .returned (.int .i64 i) /\ decide (0 <= i)=hasB xs x /\ aa w w':=by
 unfold maxLen at hl
 generalize hn:xs.length=n at hl
 have Hn:Hid (xs.length=n):=hn
 clear hn
 go_enter Tryz.func219,Tryz.ntmps219
 go_wp2
 go_loopw [8] (fun i wr=>∃ k:Nat,k <= n /\ i = .int .i64 k /\ aa w wr /\ Hid (∀ (j:Nat) (y:Int),j < k->xs[j]?=some y->(y==x)=false)) (fun i _=>n - (intOf i).toNat)
 case atStart=>exact ⟨0,Nat.zero_le _,rfl,aa.refl _,fun j y hj=>by omega⟩
 case round =>
  obtain ⟨k,hk,rfl,hK,H⟩:=hrel
  by_cases hlt:k < n
  ·obtain ⟨y,hy⟩:=bW (xs:=xs) (k:=k) (by rw [Hn.out];exact hlt)
   obtain ⟨b,off,rfl,r0⟩:=hs.at hy
   have hlt':(k:Int) < (n:Int):=by omega
   have Hy:Hid (xs[k]?=some y):=hy
   clear hs hy
   have qq:(x==y)=(y==x):=Bool.beq_comm
   cases hq:(y==x)
   ·rw [hq] at qq
    go_wp2
    exact ⟨⟨k+1,by omega,by go_num,hK,fun j s hj hs=>by
     by_cases e:j=k
     ·subst e;rw [Hy.out] at hs;cases hs;exact hq
     ·exact H.out j s (by omega) hs⟩,by simp only [intOf];omega⟩
   ·rw [hq] at qq
    have Hr:Hid (hasB xs x=true):=yt Hy.out hq
    go_wp2
    go_ret
    exact ⟨_,rfl,by rw [Hr.out];simp,hK⟩
  ·have Hr:Hid (hasB xs x=false):=yu fun j y hy=>H.out j y (by have:=da hy;rw [Hn.out] at this;omega) hy
   go_wp2
   go_ret
   exact ⟨_,rfl,by rw [Hr.out];simp,hK⟩
theorem E5 (a:Option Addr) (cap:Nat) (xs:List Int) (x:Int) (w:World) (hl:xs.length <= maxLen) (hs:Ns w a xs) :
  Calls Tryz.prog 211 #[.slice a xs.length cap,.int .i64 x] w fun e w'=>e = .returned (.bool (hasB xs x)) /\ aa w w':=by
 have C:=EZ a cap xs x w hl hs
 obtain ⟨n,Hn⟩:∃ n,Hid (xs.length=n):=⟨_,rfl⟩
 rw [Hn.out] at C ⊢
 go_enter Tryz.func211,Tryz.ntmps211
 go_wp2_with (go_at_call 219;refine C.mono ?_;rintro e w1 ⟨i,rfl,hi,k1⟩;have Hi:Hid (decide (0 <= i)=hasB xs x):=hi;clear hi)
 go_ret
 exact ⟨by rw [<- Hi.out];rfl,k1⟩
set_option maxHeartbeats 1000000 in
theorem E6 (a:Option Addr) (cap:Nat) (ls:List Lk) (w:World) (hl:bT ls <= 2097152) (hs:dU p w a ls) :
  Calls Tryz.prog 123 #[.slice a ls.length cap] w fun e w'=>e = .returned (.int .i64 (bC ls)) /\ aa w w':=by
 have HL:Hid (bT ls <= 2097152):=hl
 have hl0:ls.length <= 2097152:=by unfold bT at hl;omega
 clear hl
 generalize hn:ls.length=n at hl0
 have Hn:Hid (ls.length=n):=hn
 clear hn
 go_enter Tryz.func123,Tryz.ntmps123
 go_wp2
 go_loopw [3,8] (fun c i wr=>∃ (k q:Nat),k <= n /\ i = .int .i64 k /\ c = .int .i64 q /\ Hid (bC (ls.take k)=q) /\ q <= 2097152 /\ aa w wr) (fun _ i _=>n - (intOf i).toNat)
 case atStart=>exact ⟨0,0,Nat.zero_le _,rfl,rfl,by show _=_;simp [bC],by omega,aa.refl _⟩
 case round =>
  obtain ⟨k,q,hk,rfl,rfl,Hq,hq1,hK⟩:=hrel
  by_cases hlt:k < n
  ·obtain ⟨l,hl1⟩:=bW (xs:=ls) (k:=k) (by rw [Hn.out];exact hlt)
   obtain ⟨b,off,a',cap',rfl,r0,r1,hle,hns⟩:=hs.at hl1
   have hlt':(k:Int) < (n:Int):=by omega
   have Hl:Hid (ls[k]?=some l):=hl1
   have hw2:Hid (q+l.waits.length <= 2097152):=by
    show _ <= _
    have h1:=qp hl1
    have h2:=uv ls (k+1)
    have h4:=HL.out
    rw [Hq.out] at h1
    unfold bT at h4
    omega
   clear hl1 hle hns hs
   obtain ⟨m,Hm⟩:∃ m:Nat,Hid (l.waits.length=m):=⟨_,rfl⟩
   have hm2:q+m <= 2097152:=by rw [<- Hm.out];exact hw2.out
   rw [Hm.out] at r1
   go_wp2
   exact ⟨⟨k+1,q+m,by omega,by go_num,by go_num,by show _=_;rw [qp Hl.out,Hq.out,Hm.out],by omega,hK.alloc _⟩,by simp only [intOf];omega⟩
  ·have e:k=n:=by omega
   subst e
   have Hr:Hid (bC ls=q):=by show _=_;rw [<- Hq.out,<- Hn.out,List.take_length]
   go_wp2
   go_ret
   exact ⟨by rw [Hr.out];rfl,hK⟩
set_option maxHeartbeats 4000000 in
theorem sS (a:Option Addr) (cap:Nat) (ls:List Lk) (w:World) (hl:bT ls <= 2097152) (hs:dU p w a ls) :
  Calls Tryz.prog 42 #[.slice a ls.length cap] w fun e w'=>e = .returned (.map (some w.heap.size)) /\ aW w' w.heap.size (dK ls) /\ aa w w':=by
 have HL:Hid (bT ls <= 2097152):=hl
 have hl0:ls.length <= 2097152:=by unfold bT at hl;omega
 clear hl
 have HS:Hid (dU p w a ls):=hs
 clear hs
 generalize hn:ls.length=n at hl0
 have Hn:Hid (ls.length=n):=hn
 clear hn
 have hmm := @run_makeMap Tryz.prog
 go_enter Tryz.func42,Tryz.ntmps42
 go_wp2
 clear hmm
 have kz:Hid (aa w (w.alloc (.map #[] 0))):=(aa.refl _).alloc _
 have M0:Hid (aW (w.alloc (.map #[] 0)) w.heap.size []):=aW.made w
 generalize w.alloc (.map #[] 0)=W at *
 go_loopw [13] (fun i wr=>∃ (k:Nat),k <= n /\ i = .int .i64 k /\ Hid (aW wr w.heap.size (gg ls k)) /\ aa w wr) (fun i _=>n - (intOf i).toNat)
 case atStart=>exact ⟨0,Nat.zero_le _,rfl,M0,kz.out⟩
 case round =>
  obtain ⟨k,hk,rfl,M,hK⟩:=hrel
  clear M0 kz
  by_cases hlt:k < n
  ·obtain ⟨l,hl1⟩:=bW (xs:=ls) (k:=k) (by rw [Hn.out];exact hlt)
   obtain ⟨b,off,a',cap',rfl,r0,r1,hle,hns⟩:=HS.out.at hl1
   have hlt':(k:Int) < (n:Int):=by omega
   have Hl:Hid (ls[k]?=some l):=hl1
   have hw1:Hid (l.waits.length <= 2097152):=by show _ <= _;have:=lM hl1;have:=HL.out;unfold bT at this;omega
   clear hl1 hle
   obtain ⟨m,Hm⟩:∃ m:Nat,Hid (l.waits.length=m):=⟨_,rfl⟩
   have hm1:m <= 2097152:=by rw [<- Hm.out];exact hw1.out
   rw [Hm.out] at r1
   have M1:Hid (∀ o,aW (wr.alloc o) w.heap.size (gg ls k)):=fun o=>M.out.keeps ((aa.refl wr).alloc o)
   go_wp2
   go_loopw [21] (fun i w2=>∃ (j:Nat),j <= m /\ i = .int .i64 j /\ Hid (aW w2 w.heap.size (dR k (gg ls k) (l.waits.take j))) /\ aa w w2) (fun i _=>m - (intOf i).toNat)
   case atStart=>exact ⟨0,Nat.zero_le _,rfl,M1.out _,hK.alloc _⟩
   case round =>
    obtain ⟨j,hj,rfl,M2,hK2⟩:=hrel
    clear M M1
    by_cases hlt2:j < m
    ·obtain ⟨x,hx⟩:=bW (xs:=l.waits) (k:=j) (by rw [Hm.out];exact hlt2)
     obtain ⟨b2,jN,rfl,x0⟩:=hns.at hx
     have hlt3:(j:Int) < (m:Int):=by omega
     have Hx:Hid (l.waits[j]?=some x):=hx
     clear hns hx
     obtain ⟨E,HE⟩:∃ E,Hid (dR k (gg ls k) (l.waits.take j)=E):=⟨_,rfl⟩
     rw [HE.out] at M2
     have HN:Hid (dR k (gg ls k) (l.waits.take (j+1))=dL k E x):=by show _=_;rw [ES Hx.out,HE.out]
     obtain ⟨v,Hv⟩:∃ v,Hid (f9 E x=v):=⟨_,rfl⟩
     cases hq:cX E x
     ·have Hq:Hid (ep E x=none):=by show _=_;unfold cX at hq;simpa using hq
      have HQ:Hid (cX E x=false):=hq
      have HA:Hid (dL k E x=E++[(x,(k:Int))]):=by show _=_;unfold dL;rw [hq];rfl
      clear hq
      go_wp2_with (first
       | (at_lookup;refine qc3 rfl _ _ 77 rfl 3 3 Tryz.underlying77 Tryz.underlying3 (mn _) w.heap.size E rfl M2.out x rfl v false Hv.out HQ.out ?_)
       | (at_mapUpdate;refine EE rfl _ _ _ 77 rfl 3 3 Tryz.underlying77 Tryz.underlying3 w.heap.size E rfl M2.out x k rfl rfl Hq.out ?_;intro w5 m5 g5;have M5:Hid (aW w5 w.heap.size (E++[(x,(k:Int))])):=m5;have K5:Hid (aa w w5):=hK2.grown g5 (by rintro q ⟨⟩;exact Nat.le_refl _);clear m5 g5))
      exact ⟨⟨j+1,by omega,by go_num,by show aW _ _ _;rw [HN.out,HA.out];exact M5.out,K5.out⟩,by simp only [intOf];omega⟩
     ·have HQ:Hid (cX E x=true):=hq
      have HA:Hid (dL k E x=E):=by show _=_;unfold dL;rw [hq];rfl
      clear hq
      go_wp2_with (first
       | (at_lookup;refine qc3 rfl _ _ 77 rfl 3 3 Tryz.underlying77 Tryz.underlying3 (mn _) w.heap.size E rfl M2.out x rfl v true Hv.out HQ.out ?_))
      exact ⟨⟨j+1,by omega,by go_num,by show aW _ _ _;rw [HN.out,HA.out];exact M2.out,hK2⟩,by simp only [intOf];omega⟩
    ·have e:j=m:=by omega
     subst e
     have HN:Hid (gg ls (k+1)=dR k (gg ls k) (l.waits.take j)):=by show _=_;rw [uk Hl.out,<- Hm.out,List.take_length]
     go_wp2
     exact ⟨⟨k+1,by omega,by go_num,by show aW _ _ _;rw [HN.out];exact M2.out,hK2⟩,by simp only [intOf];omega⟩
  ·have e:k=n:=by omega
   subst e
   have HR:Hid (gg ls k=dK ls):=by show _=_;unfold dK;rw [Hn.out]
   rw [HR.out] at M
   go_wp2
   go_ret
   exact ⟨rfl,M.out,hK⟩
def yw:Value->Nat
 | .slice _ n _=>n
 | _=>0
set_option maxHeartbeats 4000000 in
theorem yx (B:Nat) (a:Option Addr) (cap:Nat) (ls:List Lk) (no:Int) (w:World) (hl:ls.length <= 2097152) (hs:dU p w a ls) (hm:aW w B (dK ls)) :
  Calls Tryz.prog 76 #[.map (some B),.int .i64 no,.slice a ls.length cap] w fun e w'=>∃ v,e = .returned (.tuple #[v,.bool (cO ls (ls.length+1) no).2]) /\ ((cO ls (ls.length+1) no).2=true->aS w' w.heap.size v (cO ls (ls.length+1) no).1) /\ aa w w':=by
 have HS:Hid (dU p w a ls):=hs
 have HM:Hid (aW w B (dK ls)):=hm
 clear hs hm
 generalize hn:ls.length=n at hl
 have Hn:Hid (ls.length=n):=hn
 clear hn
 obtain ⟨C,HC⟩:∃ C,Hid (cO ls (n+1) no=C):=⟨_,rfl⟩
 rw [HC.out]
 go_enter Tryz.func76,Tryz.ntmps76
 go_wp2
 go_step3
 go_wp2
 go_step3
 go_wp2
 have kz:Hid (aa w (w.alloc (.cells #[.int .i64 no] 3))):=(aa.refl _).alloc _
 have dQ:Hid (aS (w.alloc (.cells #[.int .i64 no] 3)) w.heap.size (.slice (some ⟨w.heap.size,0,none⟩) 1 1) ([]++[no])):=World.ownsRow_lit w #[.int .i64 no] 1 (Nat.le_refl _) (by unfold maxLen;omega) rfl
 generalize w.alloc (.cells #[.int .i64 no] 3)=W at *
 go_loopw [1,8] (fun c v wr=>∃ (done:List Int) (cur:Int),done.length <= n /\ c = .int .i64 cur /\ Hid (aS wr w.heap.size v (done++[cur])) /\ aa w wr /\ Hid (C=(done++(cO ls (n+1 - done.length) cur).1,(cO ls (n+1 - done.length) cur).2))) (fun _ v _=>n+1 - yw v)
 case atStart=>exact ⟨[],no,Nat.zero_le _,rfl,dQ,kz.out,by show _=_;rw [<- HC.out];simp⟩
 case round =>
  obtain ⟨done,cur,hd,rfl,own,hK,HI⟩:=hrel
  clear dQ kz
  obtain ⟨k,Hk⟩:∃ k,Hid (done.length=k):=⟨_,rfl⟩
  have hd':k <= n:=by rw [<- Hk.out];exact hd
  clear hd
  rw [Hk.out] at HI
  obtain ⟨av,cv,ev,-,-,-⟩:=aS.ns own.out
  have el:Hid ((done++[cur]).length=k+1):=by show _=_;simp [Hk.out]
  rw [el.out] at ev
  subst ev
  obtain ⟨f,Hf⟩:∃ f,Hid (n+1 - k=f+1):=⟨n - k,by show _=_;omega⟩
  have HI2:Hid (C=(done++(cO ls (f+1) cur).1,(cO ls (f+1) cur).2)):=by show _=_;rw [<- Hf.out];exact HI.out
  have MM:Hid (aW wr B (dK ls)):=HM.out.keeps hK
  cases hx:dj ls cur with
  | none =>
   have HQ:Hid (cX (dK ls) cur=false):=yk hx
   obtain ⟨v,Hv⟩:∃ v,Hid (f9 (dK ls) cur=v):=⟨_,rfl⟩
   have HR:Hid (C=(done++[cur],true)):=by show _=_;rw [HI2.out,pt hx]
   go_wp2_with (first
    | (at_lookup;refine qc3 rfl _ _ 77 rfl 3 3 Tryz.underlying77 Tryz.underlying3 (mn _) B (dK ls) rfl MM.out cur rfl v false Hv.out HQ.out ?_))
   rw [Exit.noGoto_ret]
   go_ret2
   exact ⟨_,by rw [HR.out];rfl,fun _=>by rw [HR.out];exact own.out,hK⟩
  | some i =>
   have HQ:Hid (cX (dK ls) cur=true):=(sP hx).1
   have Hv:Hid (f9 (dK ls) cur=(i:Int)):=(sP hx).2
   obtain ⟨l,hl1,-,-⟩:=mX hx
   have Hi:Hid (i < n):=by show _ < _;have:=da hl1;rw [Hn.out] at this;exact this
   have hi1:(i:Int) < (n:Int):=by have:=Hi.out;omega
   obtain ⟨b,off,a',cap',rfl,r0,r1,-,-⟩:=HS.out.at hl1
   have HR:Hid (C=((done++[cur])++(cO ls f l.owner).1,(cO ls f l.owner).2)):=by
    show _=_
    rw [HI2.out,pw hx,gO hl1]
    simp
   clear hl1 r1
   by_cases hlt:k < n
   ·have hlt':¬ ((n:Int) < (k:Int)+1):=by omega
    have hlt2:decide ((n:Int) < (k:Int)+1)=false:=by simpa using hlt'
    go_wp2_with (first
     | (at_lookup;refine qc3 rfl _ _ 77 rfl 3 3 Tryz.underlying77 Tryz.underlying3 (mn _) B (dK ls) rfl MM.out cur rfl (i:Int) true Hv.out HQ.out ?_)
     | (at_builtin;(refine iE rfl _ _ 27 rfl w 3 (.int .i64 0) 1 8 ic Tryz.underlying27 (by kernel_rfl) rfl (by decide) fW lN _ (done++[cur]) rfl wr own.out hK ((aa.refl _).alloc _) l.owner _ 1 (ai.new _ _ _) rfl ?c1 ?c2 ?_)))
    case c1=>have:=Hk.out;unfold maxLen;omega
    case c2=>have:=Hk.out;omega
    intro v' w5 cP k5 _
    have HO:Hid (aS w5 w.heap.size v' (done++[cur]++[l.owner])):=by show aS _ _ _ _;simpa using cP
    clear cP own
    go_wp2
    refine ⟨⟨done++[cur],l.owner,by rw [el.out];omega,rfl,HO,k5,?_⟩,?_⟩
    ·show _=_
     rw [HR.out,el.out,show n+1 - (k+1)=f from by have:=Hf.out;omega]
    ·obtain ⟨a6,c6,e6,-,-,-⟩:=aS.ns HO.out
     rw [e6,List.length_append,el.out]
     simp only [yw,List.length_singleton]
     omega
   ·have e:k=n:=by omega
    have hlt':((n:Int) < (k:Int)+1):=by omega
    have nP:Hid (C.2=false):=by show _=_;rw [HR.out,show f=0 from by have:=Hf.out;omega];rfl
    go_wp2_with (first
     | (at_lookup;refine qc3 rfl _ _ 77 rfl 3 3 Tryz.underlying77 Tryz.underlying3 (mn _) B (dK ls) rfl MM.out cur rfl (i:Int) true Hv.out HQ.out ?_))
    rw [Exit.noGoto_ret]
    go_ret2
    exact ⟨_,by rw [nP.out];rfl,fun h=>(by rw [nP.out] at h;cases h),hK⟩
end
section
open Go.RowKit
attribute [local go_sem] aa.refl aa.alloc aa.drew aa.drewN
theorem yy (t:ag) (w:World) :
  Calls Tryz.prog 269 #[tk t] w fun e w'=>e = .returned (.bool (dD t)) /\ aa w w':=by
 cases c1:(t.cls==2)
 ·have Hr:Hid (dD t=false):=by show _=_;simp [dD,c1]
  go_enter Tryz.func269,Tryz.ntmps269
  go_wp2
  go_ret
  exact ⟨by rw [Hr.out];rfl,(aa.refl _).alloc _⟩
 ·have Hr:Hid (dD t=aY t):=by show _=_;simp [dD,c1]
  go_enter Tryz.func269,Tryz.ntmps269
  go_wp2_with (go_at_call 74;refine (ml t _).mono ?_;rintro e w1 ⟨rfl,k1⟩)
  go_ret
  exact ⟨by rw [Hr.out];rfl,((aa.refl w).alloc _).trans k1⟩
theorem mY (t:ag):(aT t).size=9:=rfl
theorem yz (t:ag):∀ u∈(aT t).toList,u.oneCell'=true:=by
 intro u hu
 simp at hu
 rcases hu with rfl | rfl | rfl | rfl | rfl | rfl | rfl | rfl | rfl <;> rfl
def fg (a b:ag):Bool:=decide (a.seq < b.seq)||a.seq==b.seq&&decide (a.no < b.no)
set_option maxHeartbeats 1000000 in
theorem yP (a b:ag) (w:World) :
  Calls Tryz.prog 321 #[.agg (aT a),.agg (aT b)] w fun e w'=>e = .returned (.bool (fg a b)) /\ aa w w':=by
 cases h1:decide (a.seq < b.seq)
 ·cases h2:(a.seq==b.seq)
  ·have Hr:Hid (fg a b=false):=by show _=_;simp only [fg,h1,h2,Bool.false_and,Bool.or_false]
   go_enter Tryz.func321,Tryz.ntmps321
   go_wp2
   go_ret
   exact ⟨by rw [Hr.out];rfl,((aa.refl _).alloc _).alloc _⟩
  ·have Hr:Hid (fg a b=decide (a.no < b.no)):=by show _=_;simp only [fg,h1,h2,Bool.true_and,Bool.false_or]
   go_enter Tryz.func321,Tryz.ntmps321
   go_wp2
   go_ret
   exact ⟨by rw [Hr.out];rfl,((aa.refl _).alloc _).alloc _⟩
 ·have Hr:Hid (fg a b=true):=by show _=_;simp only [fg,h1,Bool.true_or]
  go_enter Tryz.func321,Tryz.ntmps321
  go_wp2
  go_ret
  exact ⟨by rw [Hr.out];rfl,((aa.refl _).alloc _).alloc _⟩
theorem E7 (L o b n cap:Nat) (z:ag) (w:World) (hn:0 < n) (hL:w.cell? ⟨L,o,none⟩=some (.slice (some ⟨b,0,none⟩) n cap)) (hz:∀ k,k < 9->w.cell? ⟨b,k,none⟩=(aT z)[k]?) :
  Calls Tryz.prog 327 #[.pointer (some ⟨L,o,none⟩)] w fun e w'=>e = .returned (.agg (aT z)) /\ aa w w':=by
 have l1:=aa.has hL
 have z0:=aa.has (hz 0 (by omega))
 have z1:=aa.has (hz 1 (by omega))
 have z2:=aa.has (hz 2 (by omega))
 have z3:=aa.has (hz 3 (by omega))
 have z4:=aa.has (hz 4 (by omega))
 have z5:=aa.has (hz 5 (by omega))
 have z6:=aa.has (hz 6 (by omega))
 have z7:=aa.has (hz 7 (by omega))
 have z8:=aa.has (hz 8 (by omega))
 clear hz hL
 go_enter Tryz.func327,Tryz.ntmps327
 go_wp2
 exact bodyPost_ret (v := .agg (aT z)) (by simp [results,Tryz.results327,go_sem]) rfl ⟨rfl,(aa.refl _).alloc _⟩
set_option maxHeartbeats 4000000 in
theorem yQ (x:ag) (L o:Nat) (C:Array Value) (w:World) (B:ai w L C) (hC:C[o]?=some (.slice none 0 0)) :
  Calls Tryz.prog 326 #[.pointer (some ⟨L,o,none⟩),.agg (aT x)] w fun e w'=>e = .returned (.tuple #[]) /\
   ∃ v,ai w' L (C.setIfInBounds o v) /\ Own 171 9 aT w' w.heap.size v [x] /\ ab L w w':=by
 have hl:=B.lt
 have B1:Hid (ai (w.alloc (.cells (aT x) 171)) L C):=B.alloc _
 have KW:Hid (ab L w (w.alloc (.cells (aT x) 171))):=ab.of ((aa.refl w).alloc _)
 have X1:=ai.new w (aT x) 171
 have hsz:Hid ((w.alloc (.cells (aT x) 171)).heap.size=w.heap.size+1):=by show _=_;simp
 have nQ:Hid (C[o]?=some (.slice none 0 0)):=hC
 go_enter Tryz.func326,Tryz.ntmps326
 go_wp2_with fail
 obtain ⟨_,x1,x2⟩:=X1
 have b1:(w.alloc (.cells (aT x) 171)).cell? ⟨L,o,none⟩=some (.slice none 0 0):=(B1.out.cells o).trans nQ.out
 have b2:=B1.out.aM o
 have b0:=B1.out.lt
 clear B hC
 generalize w.alloc (.cells (aT x) 171)=W at *
 go_region_law (refine qs rfl (.tmp 10) (.tmp 12) 313 rfl W.heap.size 171 (.agg (aT ag.zero)) 9 72 aT Tryz.underlying313 (by kernel_rfl) rfl (by decide) mY yz (.slice none 0 0) [] (by simp [Act.eval]) (World.ownsRow_nil _ _ _ _) (by simp) x _ 1 ((ai.new _ _ _).keeps (aa.refl _).drew) (by simp [Act.eval]) (by decide) (by decide) ?_;intro v' w' hown hgrow;obtain ⟨bb,cap,rfl,-,-,-⟩:=hown.some mY (by simp);have G:Hid (ai w' L C):=((B1.out.alloc _).keeps (aa.refl _).drew).grown hgrow (by intro k hk;cases hk);have g1:w'.cell? ⟨L,o,none⟩=some (.slice none 0 0):=(G.out.cells o).trans nQ.out;have g2:=G.out.aM o;have g0:=G.out.lt)
 all_goals (go_wp2_with fail;refine wp_loop_once ?_;go_wp2;go_end0)
 all_goals
  have hL:L < W.heap.size:=by have:=hsz.out;omega
  have ho:o < C.size:=by
   rcases Nat.lt_or_ge o C.size with h | h
   ·exact h
   ·have:=nQ.out;rw [Array.getElem?_eq_none h] at this;cases this
  have k1:ab L w w':=((KW.out.alloc _).drew.grown hgrow (by intro k hk;cases hk))
  exact ⟨rfl,_,by simpa using G.out.set o ho _,(hown.cE ((ab.refl L w').setCell o _) hL).base (by have:=hsz.out;omega),k1.setCell o _⟩
end
end Go.Proofs.YteagpjlgjfaclaaGreatDoor
