/-
  Calls: a task is made. Calls: what is done of a right call:
-/
import Derived.Test.YthpdlbcdbncnhaaGreatDoorGCall1
import Derived.Test.YthpdlbcdbncnhaaGreatDoorGTask4
import Derived.Test.YthpdlbcdbncnhaaGreatDoorGSys2
import Derived.Test.YthpdlbcdbncnhaaGreatDoorGSys5
import Derived.Test.YthpdlbcdbncnhaaGreatDoorGPick1
import Derived.Test.YthpdlbcdbncnhaaGreatDoorGLock2
import Derived.Deep.Cut
import Derived.Deep.CutBlock
import Derived.Test.YthpdlbcdbncnhaaGreatDoorSysTicks
import Derived.Test.YthpdlbcdbncnhaaGreatDoorGCall2
import Derived.Test.YthpdlbcdbncnhaaGreatDoorGSys1
import Derived.Test.YthpdlbcdbncnhaaGreatDoorGDraw2
import Derived.Test.YthpdlbcdbncnhaaGreatDoorGTask3
namespace Go.Proofs.YthpdlbcdbncnhaaGreatDoor
set_option maxRecDepth 100000
open Go.RowKit
attribute [local go_sem] Keeps.refl Keeps.alloc Keeps.drew Keeps.drewN
theorem qgT {α:Type} {P:Program} {ops:Array Oper} {o:Oper} {a:Act} {w:World} {K:Act->World->Prop} {Q:Exit->Act->World->Prop} {E:Prop}
  (hw:Region.wanted o (yielded ops a.tmps)=true) (s x:Operand) (t:TypeId) (hop:o.op=Op.call { callee:=Callee.builtin Builtin.append,args:=#[s,x],argTypes:=#[t,t] })
  (base:Nat) (e:TypeId) (z:Value) (sz bytes:Nat) (c:α->Array Value) (ht:P.underlying t=some (.slice e)) (hinfo:(P.info? e).map (fun i=>(i.zero,i.size,i.bytes))=some (some z,sz,bytes))
  (hzs:z.cells.size=sz) (hsz:0 < sz) (hc:∀ x,(c x).size=sz) (h1:∀ x,∀ u∈(c x).toList,u.oneCell'=true)
  (v:Value) (xs:List α) (hs:a.eval s=v) (hown:Own e sz c w base v xs) (hbase:base <= w.heap.size)
  (y:α) (b cp:Nat) (hb:Blk w b (c y)) (hx:a.eval x = .slice (some ⟨b,0,none⟩) 1 cp)
  (h63:xs.length+1 <= maxLen) (hbytes:(xs.length+1)*bytes <= 140737488355328)
  (hK:∀ v' w',Own e sz c w' base v' (xs++[y])->w.grownBy w' v.ownBlock->(∀ k,v'.ownBlock=some k->v.ownBlock=some k∨k=w.heap.size)->K (a.put o.dst v') w') :
  if Region.wanted o (yielded ops a.tmps)=true then Oper.wp P o a w K Q else E:=by
 rw [if_pos hw]
 have hl:Lies sz c w (some ⟨b,0,none⟩) [y]:=by
  refine .inr ⟨_,_,rfl,hb.lt,fun i x hx k hk => ?_⟩
  cases i with
  | zero=>simp at hx;subst hx;simpa using hb.cells k
  | succ i=>simp at hx
 obtain ⟨v',w',hrun,r1,r2,r3⟩:=qe8 (P:=P) w base t o.type e z sz bytes c ht hinfo hzs hsz hc h1 v xs hown hbase [y] b 0 cp hl h63 hbytes
 simp only [List.length_cons,List.length_nil,Nat.zero_add] at hrun
 unfold Oper.wp
 simp [execOp,hop,resolve,invoke,builtin,hs,hx,hrun,Result.andThen]
 exact hK v' w' r1 r2 r3
theorem SysOn.put {w w':World} {v:Sv} {s:Sy} (h:SysOn w v s) (k:Keeps w w') (t:Tsk) {pb:Bool} (hp:putB s.tasks t=pb) :
  Calls Tryz.prog 146 #[.slice v.t.a v.t.n v.t.cap,tk t] w' fun e w''=>∃ u,e = .returned (.tuple #[u,.bool pb]) /\ OwnT w'' w'.heap.size u (putL s.tasks t) /\ Keeps w' w'':=by
 have h':=h.keeps k
 have hn:=h'.lay.tl
 rcases h'.tc with ⟨e1,e2,e3⟩ | ⟨b,off,e1,-,-⟩
 ·have e:s.tasks=[]:=List.eq_nil_of_length_eq_zero (hn.trans e2)
  rw [e1,e2,e3,<- hp,e]
  exact qjY t w'
 ·have hl:=h'.lay.t
  rw [e1] at hl ⊢
  have:=qiX b off v.t.cap s.tasks t w' (by rw [hn];exact h'.lay.tm) hl
  rw [hn,hp] at this
  exact this
set_option linter.unusedSimpArgs false in
set_option maxHeartbeats 20000000 in
theorem qkd {w:World} {lo:Nat} {v:Sv} {vs:List Lv} {s:Sy} (h:OwnS w lo v vs s) (hl:lo <= w.heap.size) (R:SysR s) (c:Cl) :
  Calls Tryz.prog 215 #[.agg (syc s v),ck c] w (Did w lo v vs (newN s c) (newC s c)):=by
 obtain ⟨⟨ta,tn,tcap⟩,⟨la,ln,lcap⟩,⟨ga,gn,gcap⟩,⟨fa,fn,fcap⟩,⟨ra,rn,rcap⟩⟩:=v
 obtain ⟨fl,Hfl⟩:∃ z,Hid (qbu s c.cpu=z):=⟨_,rfl⟩
 obtain ⟨ft,Hft⟩:∃ z,Hid (newT (qcU c.no c.cpu c.a fl)=z):=⟨_,rfl⟩
 obtain ⟨fb,Hfb⟩:∃ z,Hid (qae (qcU c.no c.cpu c.a fl)=z):=⟨_,rfl⟩
 obtain ⟨mt,Hmt⟩:∃ z,Hid (qdc s c=z):=⟨_,rfl⟩
 obtain ⟨mb,Hmb⟩:∃ z,Hid (qeN s c=z):=⟨_,rfl⟩
 obtain ⟨pa,Hpa⟩:∃ z,Hid (qar s.tasks c.no=z):=⟨_,rfl⟩
 obtain ⟨pb,Hpb⟩:∃ z,Hid (putB s.tasks mt=z):=⟨_,rfl⟩
 obtain ⟨sf,Hsf⟩:∃ z,Hid (qcg (qaL s c.cpu++[(c.a,c.b)])=z):=⟨_,rfl⟩
 obtain ⟨rm,Hrm⟩:∃ z,Hid ((pb&&(!(c.kind==1)||sf))=z):=⟨_,rfl⟩
 have HN0:Hid (newN s c=if decide (s.cpus <= c.cpu) || !mb then 1 else if decide (0 <= pa) then 3 else if !rm||(c.kind==2&&decide (900000 < s.seq)) then 4 else 0):=by
  show _=_
  have e1:qag s.tasks c.no=decide (0 <= pa):=by unfold qag;rw [Hpa.out,Bool.eq_iff_iff];simp
  unfold newN qix
  rw [Hmb.out,e1,Hmt.out,Hpb.out,Hsf.out,Hrm.out]
 have HC0:Hid (newC s c={ (s:Sy) with tasks:=putL s.tasks mt,seq:=if c.kind==2 then s.seq+1 else s.seq }):=by show _=_;unfold newC;rw [Hmt.out]
 obtain ⟨hq0,hq1⟩:=R.seq
 have hwq:IntKind.i64.wrap (s.seq+1)=s.seq+1:=Go.IntWalk.i64_in _ (by omega)
 have hsm:=R.small
 have hsl:Hid ((qaL s c.cpu).length <= 100):=by
  show _ <= _
  have h1:=R.few
  have a1:=List.length_filter_le (qa2 c.cpu) s.tasks
  have a2:=List.length_filter_le (ghOn c.cpu) s.ghosts
  unfold qaL
  simp only [List.length_append,List.length_map]
  omega
 obtain ⟨A0',C0',kZ⟩:=ask3 h hl c
 have C0:Hid (Blk _ (w.heap.size+1) (cc c)):=C0'
 have A0:Hid (AskR w lo _ vs _ w.heap.size (w.heap.size+2) _ vs s):=A0'
 have HS:Hid (SysOn _ _ s):=(h.on (by have:=R.small;omega)).keeps kZ
 clear A0' C0' h
 go_enter Tryz.func215,Tryz.ntmps215
 go_upto_region 1 with fail
 change Code.wp _ _ _ _ (qau w ⟨⟨ta,tn,tcap⟩,⟨la,ln,lcap⟩,⟨ga,gn,gcap⟩,⟨fa,fn,fcap⟩,⟨ra,rn,rcap⟩⟩ s c)
 generalize qau w ⟨⟨ta,tn,tcap⟩,⟨la,ln,lcap⟩,⟨ga,gn,gcap⟩,⟨fa,fn,fcap⟩,⟨ra,rn,rcap⟩⟩ s c=Z at *
 have hb0:∀ w',Keeps Z w'->∀ q,w'.cell? ⟨w.heap.size,q,none⟩=(syc s ⟨⟨ta,tn,tcap⟩,⟨la,ln,lcap⟩,⟨ga,gn,gcap⟩,⟨fa,fn,fcap⟩,⟨ra,rn,rcap⟩⟩)[q]?:=fun w' k=>(A0.out.g.var.box.keeps k).cells
 dsimp only [syc] at hb0
 have hc0:∀ w',Keeps Z w'->∀ q,w'.cell? ⟨w.heap.size+1,q,none⟩=(cc c)[q]?:=fun w' k=>(C0.out.keeps k).cells
 have FL:Hid (∀ w',Keeps Z w'->Calls Tryz.prog 237 #[.agg (syc s ⟨⟨ta,tn,tcap⟩,⟨la,ln,lcap⟩,⟨ga,gn,gcap⟩,⟨fa,fn,fcap⟩,⟨ra,rn,rcap⟩⟩),.int .i64 c.cpu] w' fun e w''=>e = .returned (.int .i64 fl) /\ Keeps w' w''):=fun w' kk=>by
  have:=qnT (HS.out.keeps kk) c.cpu
  rw [Hfl.out] at this
  exact this
 have NF:Hid (∀ w',Calls Tryz.prog 187 #[.int .i64 c.no,.int .i64 c.cpu,.int .i64 c.a,.int .i64 fl] w' fun e w''=>e = .returned (.tuple #[tk ft,.bool fb]) /\ Keeps w' w''):=fun w'=>by
  have:=qi0 c.no c.cpu c.a fl w'
  rw [Hft.out,Hfb.out] at this
  exact this
 go_cut [6,7] (fun p b wx=>∃ nb,p = .pointer (some ⟨nb,0,none⟩) /\ b = .bool fb /\ Z.heap.size <= nb /\ Hid (Blk wx nb (tc ft)) /\ Keeps Z wx)
 case first =>
  refine wp_region_held_drew (S:=fun w'=>Keeps Z w') (by kernel_rfl) ?_ (fun hHeld => ?_)
  ·exact (Keeps.refl Z).drew
  refine Plan.go [0,1,2,3,4,5,6,7,8] ?_
  iterate 9 (refine qac (by simp only [qab];rfl) (by kernel_rfl) (by exact fun _ _ _ h=>h) (by rfl) (by assumption) (fun w _=>by go_simp;try (with_reducible rfl)) ?_;try simp only [qaa])
  refine Plan.nil ?_
  refine wpAnyH_ready (rs:=[9,14]) (by kernel_rfl) (by simp) ?_
  refine AllReadyH.cons (by simp only [List.getElem?_toArray,List.getElem?_cons_succ,List.getElem?_cons_zero];rfl) (fun K hK => ?_) (AllReadyH.cons (by simp only [List.getElem?_toArray,List.getElem?_cons_succ,List.getElem?_cons_zero];rfl) (fun K hK => ?_) AllReadyH.nil)
  ·go_simp
   (go_at_call 237;refine (FL.out _ (by first | assumption | exact Keeps.alloc (by assumption) _)).mono ?_;rintro e w3 ⟨rfl,k3⟩)
   try go_wp2_with fail
   refine hK.out _ _ ?_ (fun hHeld => ?_)
   ·exact Keeps.trans (by assumption) (by assumption)
   clear hK K
   try simp only [qaa]
   refine wpAnyH_ready (rs:=[10,14]) (by kernel_rfl) (by simp) ?_
   refine AllReadyH.cons (by simp only [List.getElem?_toArray,List.getElem?_cons_succ,List.getElem?_cons_zero];rfl) (fun K hK => ?_) (AllReadyH.cons (by simp only [List.getElem?_toArray,List.getElem?_cons_succ,List.getElem?_cons_zero];rfl) (fun K hK => ?_) AllReadyH.nil)
   ·go_simp
    (go_at_call 187;refine (NF.out _).mono ?_;rintro e w4 ⟨rfl,k4⟩)
    try go_wp2_with fail
    refine hK.out _ _ ?_ (fun hHeld => ?_)
    ·exact Keeps.trans (by assumption) (by assumption)
    clear hK K
    try simp only [qaa]
    refine Plan.go [11,12,13] ?_
    iterate 3 (refine qac (by simp only [qab];rfl) (by kernel_rfl) (by exact fun _ _ _ h=>h) (by rfl) (by assumption) (fun w _=>by go_simp;try (with_reducible rfl)) ?_;try simp only [qaa])
    refine Plan.nil ?_
    refine qad 14 (by kernel_rfl) (by simp only [qab];rfl) (fun K hK => ?_)
    go_simp
    try go_wp2_with fail
    refine hK.out _ _ ?_ (fun hHeld => ?_)
    ·exact Keeps.alloc (by assumption) _
    clear hK K
    try simp only [qaa]
    refine qad 15 (by kernel_rfl) (by simp only [qab];rfl) (fun K hK => ?_)
    have hnb:Z.heap.size <= w4.heap.size:=Keeps.size (by assumption:Keeps Z w4)
    go_simp
    try go_wp2_with fail
    refine hK.out _ (w4.alloc (.cells (tc ft) 47)) ?_ (fun hHeld => ?_)
    ·exact Keeps.alloc (by assumption) _
    clear hK K
    try simp only [qaa]
    have hBN:Hid (Blk (w4.alloc (.cells (tc ft) 47)) (w4.heap.size) (tc ft)):=Blk.new _ _ _
    generalize w4.alloc (.cells (tc ft) 47)=XW at *
    refine qan 16 (v := ?_) (by simp only [qab];rfl) (by kernel_rfl) (by exact fun _ _ _ h=>h) (by rfl) (by assumption) ?_ ?_
    rotate_left
    ·(intro w _;go_simp;try (with_reducible rfl))
    try simp only [qaa]
    refine wpAnyH_done (by kernel_rfl) ?_ _
    go_wp2_with fail
    go_meet
    exact ⟨(w4.heap.size),rfl,rfl,hnb,hBN,by assumption⟩
   ·go_simp
    try go_wp2_with fail
    refine hK.out _ _ ?_ (fun hHeld => ?_)
    ·exact Keeps.alloc (by assumption) _
    clear hK K
    try simp only [qaa]
    refine qad 10 (by kernel_rfl) (by simp only [qab];rfl) (fun K hK => ?_)
    go_simp
    (go_at_call 187;refine (NF.out _).mono ?_;rintro e w4 ⟨rfl,k4⟩)
    try go_wp2_with fail
    refine hK.out _ _ ?_ (fun hHeld => ?_)
    ·exact Keeps.trans (by assumption) (by assumption)
    clear hK K
    try simp only [qaa]
    refine Plan.go [11,12,13] ?_
    iterate 3 (refine qac (by simp only [qab];rfl) (by kernel_rfl) (by exact fun _ _ _ h=>h) (by rfl) (by assumption) (fun w _=>by go_simp;try (with_reducible rfl)) ?_;try simp only [qaa])
    refine Plan.nil ?_
    refine qad 15 (by kernel_rfl) (by simp only [qab];rfl) (fun K hK => ?_)
    have BN0:Blk w4 (w3.heap.size) (tc Tsk.zero):=(Blk.new (w3) (tc Tsk.zero) 47).keeps (k4)
    have HBN:Hid (Blk w4 (w3.heap.size) (tc Tsk.zero)):=BN0
    obtain ⟨_,ee1,ee2⟩:=BN0
    have hnb:Z.heap.size <= w3.heap.size:=Keeps.size (by assumption:Keeps Z w3)
    go_simp
    try go_wp2_with fail
    refine hK.out _ (putC w4 (w3.heap.size) 0 (tc ft).toList) ?_ (fun hHeld => ?_)
    ·exact Keeps.putC (b:=w3.heap.size) hnb (tc ft).toList 0 (by assumption)
    clear hK K
    try simp only [qaa]
    have hBN:Hid (Blk (putC w4 (w3.heap.size) 0 (tc ft).toList) (w3.heap.size) (tc ft)):=HBN.out.putC (tc ft).toList rfl
    clear ee1 ee2 HBN
    generalize putC w4 (w3.heap.size) 0 (tc ft).toList=XW at *
    refine qan 16 (v := ?_) (by simp only [qab];rfl) (by kernel_rfl) (by exact fun _ _ _ h=>h) (by rfl) (by assumption) ?_ ?_
    rotate_left
    ·(intro w _;go_simp;try (with_reducible rfl))
    try simp only [qaa]
    refine wpAnyH_done (by kernel_rfl) ?_ _
    go_wp2_with fail
    go_meet
    exact ⟨(w3.heap.size),rfl,rfl,hnb,hBN,by assumption⟩
  ·go_simp
   try go_wp2_with fail
   refine hK.out _ _ ?_ (fun hHeld => ?_)
   ·exact Keeps.alloc (by assumption) _
   clear hK K
   try simp only [qaa]
   refine qad 9 (by kernel_rfl) (by simp only [qab];rfl) (fun K hK => ?_)
   go_simp
   (go_at_call 237;refine (FL.out _ (by first | assumption | exact Keeps.alloc (by assumption) _)).mono ?_;rintro e w3 ⟨rfl,k3⟩)
   try go_wp2_with fail
   refine hK.out _ _ ?_ (fun hHeld => ?_)
   ·exact Keeps.trans (by assumption) (by assumption)
   clear hK K
   try simp only [qaa]
   refine qad 10 (by kernel_rfl) (by simp only [qab];rfl) (fun K hK => ?_)
   go_simp
   (go_at_call 187;refine (NF.out _).mono ?_;rintro e w4 ⟨rfl,k4⟩)
   try go_wp2_with fail
   refine hK.out _ _ ?_ (fun hHeld => ?_)
   ·exact Keeps.trans (by assumption) (by assumption)
   clear hK K
   try simp only [qaa]
   refine Plan.go [11,12,13] ?_
   iterate 3 (refine qac (by simp only [qab];rfl) (by kernel_rfl) (by exact fun _ _ _ h=>h) (by rfl) (by assumption) (fun w _=>by go_simp;try (with_reducible rfl)) ?_;try simp only [qaa])
   refine Plan.nil ?_
   refine qad 15 (by kernel_rfl) (by simp only [qab];rfl) (fun K hK => ?_)
   have BN0:Blk w4 (Z.heap.size) (tc Tsk.zero):=(Blk.new (Z.drew) (tc Tsk.zero) 47).keeps ((k3).trans k4)
   have HBN:Hid (Blk w4 (Z.heap.size) (tc Tsk.zero)):=BN0
   obtain ⟨_,ee1,ee2⟩:=BN0
   have hnb:Z.heap.size <= Z.heap.size:=Nat.le_refl _
   go_simp
   try go_wp2_with fail
   refine hK.out _ (putC w4 (Z.heap.size) 0 (tc ft).toList) ?_ (fun hHeld => ?_)
   ·exact Keeps.putC (b:=Z.heap.size) hnb (tc ft).toList 0 (by assumption)
   clear hK K
   try simp only [qaa]
   have hBN:Hid (Blk (putC w4 (Z.heap.size) 0 (tc ft).toList) (Z.heap.size) (tc ft)):=HBN.out.putC (tc ft).toList rfl
   clear ee1 ee2 HBN
   generalize putC w4 (Z.heap.size) 0 (tc ft).toList=XW at *
   refine qan 16 (v := ?_) (by simp only [qab];rfl) (by kernel_rfl) (by exact fun _ _ _ h=>h) (by rfl) (by assumption) ?_ ?_
   rotate_left
   ·(intro w _;go_simp;try (with_reducible rfl))
   try simp only [qaa]
   refine wpAnyH_done (by kernel_rfl) ?_ _
   go_wp2_with fail
   go_meet
   exact ⟨(Z.heap.size),rfl,rfl,hnb,hBN,by assumption⟩
 case rest =>
 obtain ⟨nb,rfl,rfl,hnb,BN,kx⟩:=hcut
 generalize wc=wx at *
 clear FL NF
 have hbx:∀ w',Keeps wx w'->∀ j,w'.cell? ⟨w.heap.size,j,none⟩=_:=fun w' kk=>hb0 w' (kx.trans kk)
 have hcx:∀ w',Keeps wx w'->∀ j,w'.cell? ⟨w.heap.size+1,j,none⟩=_:=fun w' kk=>hc0 w' (kx.trans kk)
 go_upto_block 0 with fail
 go_cut [7] (fun b wy=>b = .bool mb /\ Hid (Blk wy nb (tc mt)) /\ Keeps Z wy)
 case first =>
  cases c1:(c.kind==1)
  rotate_left
  ·obtain ⟨dt,Hdt⟩:∃ z,Hid (qcI c.no c.cpu c.a c.b s.now=z):=⟨_,rfl⟩
   obtain ⟨db,Hdb⟩:∃ z,Hid (qcV c.no c.cpu c.a c.b s.now=z):=⟨_,rfl⟩
   have e1:mt=dt:=by rw [<- Hmt.out,<- Hdt.out];unfold qdc;rw [c1];rfl
   have e2:mb=db:=by rw [<- Hmb.out,<- Hdb.out];unfold qeN;rw [c1];rfl
   have ND:Hid (∀ w',Calls Tryz.prog 185 #[.int .i64 c.no,.int .i64 c.cpu,.int .i64 c.a,.int .i64 c.b,.int .i64 s.now] w' fun e w''=>e = .returned (.tuple #[tk dt,.bool db]) /\ Keeps w' w''):=fun w'=>by
    have:=qiY c.no c.cpu c.a c.b s.now w'
    rw [Hdt.out,Hdb.out] at this
    exact this
   go_wp2_with (go_at_call 185;refine (ND.out _).mono ?_;rintro e w5 ⟨rfl,k5⟩;obtain ⟨_,ee1,ee2⟩:=BN.out.keeps k5)
   go_meet
   exact ⟨by rw [e2],by rw [e1];exact (BN.out.keeps k5).putC (tc dt).toList rfl,Keeps.putC (b:=nb) hnb (tc dt).toList 0 (kx.trans k5)⟩
  cases c2:(c.kind==2)
  rotate_left
  ·obtain ⟨dt,Hdt⟩:∃ z,Hid (newT (fixT c.no c.cpu c.a c.b (s.seq+1))=z):=⟨_,rfl⟩
   obtain ⟨db,Hdb⟩:∃ z,Hid (qae (fixT c.no c.cpu c.a c.b (s.seq+1))=z):=⟨_,rfl⟩
   have e1:mt=dt:=by rw [<- Hmt.out,<- Hdt.out];unfold qdc;rw [c1,c2];rfl
   have e2:mb=db:=by rw [<- Hmb.out,<- Hdb.out];unfold qeN;rw [c1,c2];rfl
   have ND:Hid (∀ w',Calls Tryz.prog 186 #[.int .i64 c.no,.int .i64 c.cpu,.int .i64 c.a,.int .i64 c.b,.int .i64 (s.seq+1)] w' fun e w''=>e = .returned (.tuple #[tk dt,.bool db]) /\ Keeps w' w''):=fun w'=>by
    have:=qiZ c.no c.cpu c.a c.b (s.seq+1) w'
    rw [Hdt.out,Hdb.out] at this
    exact this
   go_wp2_with (go_at_call 186;refine (ND.out _).mono ?_;rintro e w5 ⟨rfl,k5⟩;obtain ⟨_,ee1,ee2⟩:=BN.out.keeps k5)
   go_meet
   exact ⟨by rw [e2],by rw [e1];exact (BN.out.keeps k5).putC (tc dt).toList rfl,Keeps.putC (b:=nb) hnb (tc dt).toList 0 (kx.trans k5)⟩
  have e1:mt=ft:=by rw [<- Hmt.out,<- Hft.out,<- Hfl.out];unfold qdc;rw [c1,c2];rfl
  have e2:mb=fb:=by rw [<- Hmb.out,<- Hfb.out,<- Hfl.out];unfold qeN;rw [c1,c2];rfl
  go_wp2
  go_meet
  exact ⟨by rw [e2],by rw [e1];exact BN,kx⟩
 case rest =>
 obtain ⟨rfl,BM,ky⟩:=hcut
 generalize wc=wy at *
 clear hbx hcx BN kx Hfl Hft Hfb hnb
 have hby:∀ w',Keeps wy w'->∀ j,w'.cell? ⟨w.heap.size,j,none⟩=_:=fun w' kk=>hb0 w' (ky.trans kk)
 have hcy:∀ w',Keeps wy w'->∀ j,w'.cell? ⟨w.heap.size+1,j,none⟩=_:=fun w' kk=>hc0 w' (ky.trans kk)
 have hty:∀ w',Keeps wy w'->∀ j,w'.cell? ⟨nb,j,none⟩=(tc mt)[j]?:=fun w' kk=>(BM.out.keeps kk).cells
 clear hb0 hc0
 have CY:Hid (Blk wy (w.heap.size+1) (cc c)):=C0.out.keeps ky
 have AY:Hid (AskR w lo ⟨⟨ta,tn,tcap⟩,⟨la,ln,lcap⟩,⟨ga,gn,gcap⟩,⟨fa,fn,fcap⟩,⟨ra,rn,rcap⟩⟩ vs wy w.heap.size (w.heap.size+2) ⟨⟨ta,tn,tcap⟩,⟨la,ln,lcap⟩,⟨ga,gn,gcap⟩,⟨fa,fn,fcap⟩,⟨ra,rn,rcap⟩⟩ vs s):=A0.out.keeps ky
 have SY:Hid (SysOn wy ⟨⟨ta,tn,tcap⟩,⟨la,ln,lcap⟩,⟨ga,gn,gcap⟩,⟨fa,fn,fcap⟩,⟨ra,rn,rcap⟩⟩ s):=HS.out.keeps ky
 clear A0 HS
 cases e1:decide (s.cpus <= c.cpu)
 rotate_left
 ·have HN:Hid (newN s c=1):=by show _=_;rw [HN0.out,e1];rfl
  have AE:=AY.out
  obtain ⟨_,o1,o2⟩:=AE.g.var.box
  dsimp only [syc] at o1
  obtain ⟨_,r1,r2⟩:=AE.r
  go_wp2
  exact AE.ret HN.out (fun h=>absurd h (by decide)) rfl (fun Q D=>by simp [results,Tryz.results215,go_sem,D])
 cases mb
 ·have HN:Hid (newN s c=1):=by show _=_;rw [HN0.out,e1];rfl
  have AE:=AY.out
  obtain ⟨_,o1,o2⟩:=AE.g.var.box
  dsimp only [syc] at o1
  obtain ⟨_,r1,r2⟩:=AE.r
  go_wp2
  exact AE.ret HN.out (fun h=>absurd h (by decide)) rfl (fun Q D=>by simp [results,Tryz.results215,go_sem,D])
 cases e3:decide (0 <= pa)
 rotate_left
 ·have HN:Hid (newN s c=3):=by show _=_;rw [HN0.out,e1,e3];rfl
  go_wp2_with (go_at_call 36;refine (SY.out.onT.sTaskAt c.no Hpa.out (Keeps.refl _)).mono ?_;rintro e w3 ⟨rfl,k3⟩;have AE:=AY.out.keeps k3;obtain ⟨_,o1,o2⟩:=AE.g.var.box;dsimp only [syc] at o1;obtain ⟨_,r1,r2⟩:=AE.r)
  exact AE.ret HN.out (fun h=>absurd h (by decide)) rfl (fun Q D=>by simp [results,Tryz.results215,go_sem,D])
 go_upto_region 11 with (go_at_call 36;refine (SY.out.onT.sTaskAt c.no Hpa.out (Keeps.refl _)).mono ?_;rintro e w3 ⟨rfl,k3⟩)
 have PU:Hid (∀ w',Keeps wy w'->Calls Tryz.prog 146 #[.slice ta tn tcap,tk mt] w' fun e w''=>∃ u,e = .returned (.tuple #[u,.bool pb]) /\ OwnT w'' w'.heap.size u (putL s.tasks mt) /\ Keeps w' w''):=fun w' kk=>SY.out.put kk mt Hpb.out
 go_upto_if 85 with (go_at_call 146;refine (PU.out _ (by first | assumption | exact k3)).mono ?_;rintro e w4 ⟨u4,rfl,o4,k4⟩;have K4:Keeps wy w4:=k3.trans k4)
 obtain ⟨a4,c4,e4⟩:=o4.form qaw
 obtain ⟨n4,Hn4⟩:∃ n,Hid ((putL s.tasks mt).length=n):=⟨_,rfl⟩
 rw [Hn4.out] at e4
 subst e4
 have O4:Hid (OwnT w4 w3.heap.size (.slice a4 n4 c4) (putL s.tasks mt)):=o4
 clear o4 PU
 go_cut [9] (fun b wz=>b = .bool rm /\ Keeps w4 wz)
 case first =>
  have hb4:∀ w',Keeps w4 w'->∀ j,w'.cell? ⟨w.heap.size,j,none⟩=_:=fun w' kk=>hby w' (K4.trans kk)
  have hc4:∀ w',Keeps w4 w'->∀ j,w'.cell? ⟨w.heap.size+1,j,none⟩=_:=fun w' kk=>hcy w' (K4.trans kk)
  cases c1:(c.kind==1)
  ·have hr:rm=pb:=by rw [<- Hrm.out,c1];simp
   go_wp2
   go_meet
   exact ⟨by rw [hr],Keeps.refl _⟩
  cases pb
  ·have hr:rm=false:=by rw [<- Hrm.out];rfl
   go_upto_region 13 with fail
   refine wp_region_held_drew (S:=(fun w'=>Keeps w4 w')) (by kernel_rfl) ?_ (fun hHeld => ?_)
   ·exact (Keeps.refl w4).drew
   refine Plan.go [0,1] ?_
   iterate 2 (refine qac (by simp only [qab];rfl) (by kernel_rfl) (by exact fun _ _ _ h=>h) (by rfl) (by assumption) (fun w _=>by go_simp;try (with_reducible rfl)) ?_;try simp only [qaa])
   refine Plan.nil ?_
   refine Plan.go [2,3,4,5,6,7,8,9,10,11,12,13] ?_
   iterate 12 (refine qaq (by simp only [qab];rfl) (by kernel_rfl) (by exact fun _ _ _ h=>h) (by rfl) (by assumption) ?_;try simp only [qaa])
   refine Plan.nil ?_
   refine Plan.go [14,15] ?_
   iterate 2 (refine qac (by simp only [qab];rfl) (by kernel_rfl) (by exact fun _ _ _ h=>h) (by rfl) (by assumption) (fun w _=>by go_simp;try (with_reducible rfl)) ?_;try simp only [qaa])
   refine Plan.nil ?_
   refine wpAnyH_done (by kernel_rfl) ?_ _
   go_wp2
   go_meet
   exact ⟨by rw [hr],by first | assumption | exact (Keeps.refl _).drew⟩
  have hr:rm=sf:=by rw [<- Hrm.out,c1];simp
  go_upto_region 13 with fail
  have S4:Hid (SysOn w4 ⟨⟨ta,tn,tcap⟩,⟨la,ln,lcap⟩,⟨ga,gn,gcap⟩,⟨fa,fn,fcap⟩,⟨ra,rn,rcap⟩⟩ s):=SY.out.keeps K4
  refine wp_region_held_drew (S:=fun w'=>Keeps w4 w') (by kernel_rfl) ?_ (fun hHeld => ?_)
  ·exact (Keeps.refl w4).drew
  refine Plan.go [0,1,2,3,4,6,7,8,9,10] ?_
  iterate 10 (refine qac (by simp only [qab];rfl) (by kernel_rfl) (by exact fun _ _ _ h=>h) (by rfl) (by assumption) (fun w _=>by go_simp;try (with_reducible rfl)) ?_;try simp only [qaa])
  refine Plan.nil ?_
  refine wpAnyH_ready (rs:=[5,11]) (by kernel_rfl) (by simp) ?_
  refine AllReadyH.cons (by simp only [List.getElem?_toArray,List.getElem?_cons_succ,List.getElem?_cons_zero];rfl) (fun K hK => ?_) (AllReadyH.cons (by simp only [List.getElem?_toArray,List.getElem?_cons_succ,List.getElem?_cons_zero];rfl) (fun K hK => ?_) AllReadyH.nil)
  ·go_simp
   (go_at_call 74;refine (qgn (S4.out.keeps (Keeps.refl _).drew) c.cpu).mono ?_;rintro e w6 ⟨u6,rfl,o6,k6⟩;obtain ⟨a6,c6,e6⟩:=o6.form qcs;obtain ⟨n6,Hn6⟩:∃ n,Hid ((qaL s c.cpu).length=n):=⟨_,rfl⟩;rw [Hn6.out] at e6;subst e6)
   try go_wp2_with fail
   refine hK.out _ _ ?_ (fun hHeld => ?_)
   ·exact Keeps.trans (by assumption) (by assumption)
   clear hK K
   try simp only [qaa]
   have K6:Keeps w4 w6:=hHeld
   refine qad 11 (by kernel_rfl) (by simp only [qab];rfl) (fun K hK => ?_)
   go_simp
   try go_wp2_with fail
   refine hK.out _ _ ?_ (fun hHeld => ?_)
   ·exact Keeps.alloc (by assumption) _
   clear hK K
   try simp only [qaa]
   refine qad 12 (by kernel_rfl) (by simp only [qab];rfl) (fun K hK => ?_)
   (refine qgT (by rfl) (.tmp 91) (.tmp 97) 95 rfl w4.heap.size 65 (.agg (pc (0,0))) 2 16 pc Tryz.underlying95 (by kernel_rfl) rfl (by decide) qcs qei (.slice a6 n6 c6) (qaL s c.cpu) (by simp [Act.eval]) ((o6.base (by simp)).alloc _) (by have:=K6.size;simp;omega) (c.a,c.b) _ 1 (Blk.new _ _ _) (by simp [Act.eval]) (by have:=hsl.out;unfold maxLen;omega) (by have:=hsl.out;omega) ?_)
   intro v7 w7 o7 g7 f7
   obtain ⟨a7,c7,e7⟩:=o7.form qcs
   obtain ⟨n7,Hn7⟩:∃ n,Hid ((qaL s c.cpu++[(c.a,c.b)]).length=n):=⟨_,rfl⟩
   rw [Hn7.out] at e7
   subst e7
   refine hK.out _ _ ?_ (fun hHeld => ?_)
   ·exact (K6.alloc _).grown g7 (fun q hq=>Nat.le_trans (by simp) (o6.ltb q hq).1)
   clear hK K
   try simp only [qaa]
   refine qad 13 (by kernel_rfl) (by simp only [qab];rfl) (fun K hK => ?_)
   go_simp
   (go_at_call 73;refine (qgq o7).mono ?_;rintro e w8 ⟨rfl,k8⟩;rw [Hsf.out])
   try go_wp2_with fail
   refine hK.out _ _ ?_ (fun hHeld => ?_)
   ·exact Keeps.trans (by assumption) (by assumption)
   clear hK K
   try simp only [qaa]
   refine Plan.go [14,15] ?_
   iterate 2 (refine qac (by simp only [qab];rfl) (by kernel_rfl) (by exact fun _ _ _ h=>h) (by rfl) (by assumption) (fun w _=>by go_simp;try (with_reducible rfl)) ?_;try simp only [qaa])
   refine Plan.nil ?_
   refine wpAnyH_done (by kernel_rfl) ?_ _
   go_wp2
   go_meet
   exact ⟨by rw [hr],by assumption⟩
  ·go_simp
   try go_wp2_with fail
   refine hK.out _ _ ?_ (fun hHeld => ?_)
   ·exact Keeps.alloc (by assumption) _
   clear hK K
   try simp only [qaa]
   refine qad 5 (by kernel_rfl) (by simp only [qab];rfl) (fun K hK => ?_)
   go_simp
   (go_at_call 74;refine (qgn (S4.out.keeps (by assumption)) c.cpu).mono ?_;rintro e w6 ⟨u6,rfl,o6,k6⟩;obtain ⟨a6,c6,e6⟩:=o6.form qcs;obtain ⟨n6,Hn6⟩:∃ n,Hid ((qaL s c.cpu).length=n):=⟨_,rfl⟩;rw [Hn6.out] at e6;subst e6)
   try go_wp2_with fail
   refine hK.out _ _ ?_ (fun hHeld => ?_)
   ·exact Keeps.trans (by assumption) (by assumption)
   clear hK K
   try simp only [qaa]
   have K6:Keeps w4 w6:=hHeld
   refine qad 12 (by kernel_rfl) (by simp only [qab];rfl) (fun K hK => ?_)
   (refine qgT (by rfl) (.tmp 91) (.tmp 97) 95 rfl w4.heap.size 65 (.agg (pc (0,0))) 2 16 pc Tryz.underlying95 (by kernel_rfl) rfl (by decide) qcs qei (.slice a6 n6 c6) (qaL s c.cpu) (by simp [Act.eval]) (o6.base (by simp)) (by have:=K6.size;omega) (c.a,c.b) _ 1 (((Blk.new _ _ _).keeps (Keeps.refl _).drew).keeps k6) (by simp [Act.eval]) (by have:=hsl.out;unfold maxLen;omega) (by have:=hsl.out;omega) ?_)
   intro v7 w7 o7 g7 f7
   obtain ⟨a7,c7,e7⟩:=o7.form qcs
   obtain ⟨n7,Hn7⟩:∃ n,Hid ((qaL s c.cpu++[(c.a,c.b)]).length=n):=⟨_,rfl⟩
   rw [Hn7.out] at e7
   subst e7
   refine hK.out _ _ ?_ (fun hHeld => ?_)
   ·exact K6.grown g7 (fun q hq=>Nat.le_trans (by simp) (o6.ltb q hq).1)
   clear hK K
   try simp only [qaa]
   refine qad 13 (by kernel_rfl) (by simp only [qab];rfl) (fun K hK => ?_)
   go_simp
   (go_at_call 73;refine (qgq o7).mono ?_;rintro e w8 ⟨rfl,k8⟩;rw [Hsf.out])
   try go_wp2_with fail
   refine hK.out _ _ ?_ (fun hHeld => ?_)
   ·exact Keeps.trans (by assumption) (by assumption)
   clear hK K
   try simp only [qaa]
   refine Plan.go [14,15] ?_
   iterate 2 (refine qac (by simp only [qab];rfl) (by kernel_rfl) (by exact fun _ _ _ h=>h) (by rfl) (by assumption) (fun w _=>by go_simp;try (with_reducible rfl)) ?_;try simp only [qaa])
   refine Plan.nil ?_
   refine wpAnyH_done (by kernel_rfl) ?_ _
   go_wp2
   go_meet
   exact ⟨by rw [hr],by assumption⟩
 case rest =>
 obtain ⟨rfl,kz⟩:=hcut
 generalize wc=wz at *
 have O5:Hid (OwnT wz wy.heap.size (.slice a4 n4 c4) (putL s.tasks mt)):=(O4.out.keeps kz).base k3.size
 have K5:Keeps wy wz:=K4.trans kz
 clear O4 kz
 have bad4:∀ b:Bool,(!rm||(c.kind==2&&decide (900000 < s.seq)))=b->Hid (newN s c=if b then 4 else 0):=fun b hb=>by
  show _=_
  rw [HN0.out,e1,e3,hb]
  rfl
 cases rm
 ·have HN:Hid (newN s c=4):=bad4 true rfl
  have AE:=AY.out.keeps K5
  obtain ⟨_,o1,o2⟩:=AE.g.var.box
  dsimp only [syc] at o1
  obtain ⟨_,r1,r2⟩:=AE.r
  go_wp2
  exact AE.ret HN.out (fun h=>absurd h (by decide)) rfl (fun Q D=>by simp [results,Tryz.results215,go_sem,D])
 cases k2:(c.kind==2)
 ·have HN:Hid (newN s c=0):=bad4 false (by rw [k2];rfl)
  have HC:Hid ({ (s:Sy) with tasks:=putL s.tasks mt }=newC s c):=by show _=_;rw [HC0.out,k2];rfl
  have AN:Hid (AskR w lo ⟨⟨ta,tn,tcap⟩,⟨la,ln,lcap⟩,⟨ga,gn,gcap⟩,⟨fa,fn,fcap⟩,⟨ra,rn,rcap⟩⟩ vs (wz.setCell ⟨w.heap.size,2,none⟩ (.slice a4 n4 c4)) w.heap.size (w.heap.size+2) ⟨⟨a4,n4,c4⟩,⟨la,ln,lcap⟩,⟨ga,gn,gcap⟩,⟨fa,fn,fcap⟩,⟨ra,rn,rcap⟩⟩ vs { (s:Sy) with tasks:=putL s.tasks mt }):=AY.out.tasks K5 (x:=⟨a4,n4,c4⟩) O5.out
  obtain ⟨_,p1,p2⟩:=(AY.out.keeps K5).g.var.box
  dsimp only [syc] at p1
  obtain ⟨_,cc1,cc2⟩:=(CY.out.keeps K5).far (c:=w.heap.size) (by omega) (Value.slice a4 n4 c4) (o:=2)
  obtain ⟨_,rr1,rr2⟩:=(AY.out.keeps K5).r
  have hsz:w.heap.size+2≠w.heap.size:=by omega
  have hsz1:w.heap.size+1≠w.heap.size:=by omega
  have AE:=AN.out
  obtain ⟨_,o1,o2⟩:=AE.g.var.box
  dsimp only [syc] at o1
  obtain ⟨_,r1,r2⟩:=AE.r
  go_wp2
  exact AE.ret HN.out (fun _=>HC.out) rfl (fun Q D=>by simp [results,Tryz.results215,go_sem,D])
 cases q9:decide (900000 < s.seq)
 rotate_left
 ·have HN:Hid (newN s c=4):=bad4 true (by rw [k2,q9];rfl)
  have q9':900000 < s.seq:=by simpa using q9
  have AE:=AY.out.keeps K5
  obtain ⟨_,o1,o2⟩:=AE.g.var.box
  dsimp only [syc] at o1
  obtain ⟨_,r1,r2⟩:=AE.r
  go_wp2
  exact AE.ret HN.out (fun h=>absurd h (by decide)) rfl (fun Q D=>by simp [results,Tryz.results215,go_sem,D])
 have HN:Hid (newN s c=0):=bad4 false (by rw [k2,q9];rfl)
 have HC:Hid ({ (s:Sy) with tasks:=putL s.tasks mt,seq:=s.seq+1 }=newC s c):=by show _=_;rw [HC0.out,k2];rfl
 have AN:Hid (AskR w lo ⟨⟨ta,tn,tcap⟩,⟨la,ln,lcap⟩,⟨ga,gn,gcap⟩,⟨fa,fn,fcap⟩,⟨ra,rn,rcap⟩⟩ vs (wz.setCell ⟨w.heap.size,2,none⟩ (.slice a4 n4 c4)) w.heap.size (w.heap.size+2) ⟨⟨a4,n4,c4⟩,⟨la,ln,lcap⟩,⟨ga,gn,gcap⟩,⟨fa,fn,fcap⟩,⟨ra,rn,rcap⟩⟩ vs { (s:Sy) with tasks:=putL s.tasks mt }):=AY.out.tasks K5 (x:=⟨a4,n4,c4⟩) O5.out
 obtain ⟨_,p1,p2⟩:=(AY.out.keeps K5).g.var.box
 dsimp only [syc] at p1
 obtain ⟨_,cc1,cc2⟩:=(CY.out.keeps K5).far (c:=w.heap.size) (by omega) (Value.slice a4 n4 c4) (o:=2)
 obtain ⟨_,rr1,rr2⟩:=(AY.out.keeps K5).r
 have hsz:w.heap.size+2≠w.heap.size:=by omega
 have hsz1:w.heap.size+1≠w.heap.size:=by omega
 have AN2:Hid (AskR w lo ⟨⟨ta,tn,tcap⟩,⟨la,ln,lcap⟩,⟨ga,gn,gcap⟩,⟨fa,fn,fcap⟩,⟨ra,rn,rcap⟩⟩ vs ((wz.setCell ⟨w.heap.size,2,none⟩ (.slice a4 n4 c4)).setCell ⟨w.heap.size,6,none⟩ (.int .i64 (s.seq+1))) w.heap.size (w.heap.size+2) ⟨⟨a4,n4,c4⟩,⟨la,ln,lcap⟩,⟨ga,gn,gcap⟩,⟨fa,fn,fcap⟩,⟨ra,rn,rcap⟩⟩ vs { (s:Sy) with tasks:=putL s.tasks mt,seq:=s.seq+1 }):=AN.out.num s.now s.cpus (s.seq+1) s.missed (k:=6) rfl (by omega)
 obtain ⟨_,pp1,pp2⟩:=AN.out.g.var.box
 dsimp only [syc] at pp1
 have AE:=AN2.out
 obtain ⟨_,o1,o2⟩:=AE.g.var.box
 dsimp only [syc] at o1
 obtain ⟨_,r1,r2⟩:=AE.r
 go_wp2
 exact AE.ret HN.out (fun _=>HC.out) rfl (fun Q D=>by simp [results,Tryz.results215,go_sem,D])
set_option linter.unusedSimpArgs false in
set_option maxHeartbeats 8000000 in
theorem qke {w:World} {lo:Nat} {v:Sv} {vs:List Lv} {s:Sy} (h:OwnS w lo v vs s) (hl:lo <= w.heap.size) (R:SysR s) (c:Cl) (h3:c.kind <= 3) :
  Calls Tryz.prog 183 #[.agg (syc s v),ck c] w (Did w lo v vs (doN s c) (doC s c)):=by
 obtain ⟨⟨ta,tn,tcap⟩,⟨la,ln,lcap⟩,⟨ga,gn,gcap⟩,⟨fa,fn,fcap⟩,⟨ra,rn,rcap⟩⟩:=v
 have HN:Hid (doN s c=newN s c):=by show _=_;unfold doN;rw [if_pos h3]
 have HC:Hid (doC s c=newC s c):=by show _=_;unfold doC;rw [if_pos h3]
 have hd3:decide (c.kind <= 3)=true:=by simpa using h3
 obtain ⟨A0',C0',kZ⟩:=ask3 h hl c
 have C0:Hid (Blk _ (w.heap.size+1) (cc c)):=C0'
 have A0:Hid (AskR w lo _ vs _ w.heap.size (w.heap.size+2) _ vs s):=A0'
 have HS:Hid (SysOn _ _ s):=(h.on (by have:=R.small;omega)).keeps kZ
 clear A0' C0' h
 go_enter Tryz.func183,Tryz.ntmps183
 go_upto_region 2 with fail
 change Code.wp _ _ _ _ (qau w ⟨⟨ta,tn,tcap⟩,⟨la,ln,lcap⟩,⟨ga,gn,gcap⟩,⟨fa,fn,fcap⟩,⟨ra,rn,rcap⟩⟩ s c)
 generalize qau w ⟨⟨ta,tn,tcap⟩,⟨la,ln,lcap⟩,⟨ga,gn,gcap⟩,⟨fa,fn,fcap⟩,⟨ra,rn,rcap⟩⟩ s c=Z at *
 have hb0:∀ w',Keeps Z w'->∀ q,w'.cell? ⟨w.heap.size,q,none⟩=(syc s ⟨⟨ta,tn,tcap⟩,⟨la,ln,lcap⟩,⟨ga,gn,gcap⟩,⟨fa,fn,fcap⟩,⟨ra,rn,rcap⟩⟩)[q]?:=fun w' k=>(A0.out.g.var.box.keeps k).cells
 dsimp only [syc] at hb0
 have hc0:∀ w',Keeps Z w'->∀ q,w'.cell? ⟨w.heap.size+1,q,none⟩=(cc c)[q]?:=fun w' k=>(C0.out.keeps k).cells
 have AP:=A0.out
 go_wp2_with (go_at_call 215;refine (qkd A0.out.g.var.own (Nat.le_trans hl kZ.size) R c).mono ?_;rintro e w6 ⟨s6,v6,vs6,rfl,hs6,g6⟩;obtain ⟨⟨ta6,tn6,tc6⟩,⟨la6,ln6,lc6⟩,⟨ga6,gn6,gc6⟩,⟨fa6,fn6,fc6⟩,⟨ra6,rn6,rc6⟩⟩:=v6;obtain ⟨P6,D6,G6⟩:=AP.pass g6;obtain ⟨_,r1,r2⟩:=P6)
 change bodyPost _ _ _ _ _ (putC w6 (w.heap.size+2) 0 (syc (s6:Sy) ⟨⟨ta6,tn6,tc6⟩,⟨la6,ln6,lc6⟩,⟨ga6,gn6,gc6⟩,⟨fa6,fn6,fc6⟩,⟨ra6,rn6,rc6⟩⟩).toList)
 generalize putC w6 (w.heap.size+2) 0 (syc (s6:Sy) ⟨⟨ta6,tn6,tc6⟩,⟨la6,ln6,lc6⟩,⟨ga6,gn6,gc6⟩,⟨fa6,fn6,fc6⟩,⟨ra6,rn6,rc6⟩⟩).toList=Q at D6 G6 ⊢
 exact bodyPost_ret (v := .tuple #[.agg (syc (s6:Sy) ⟨⟨ta6,tn6,tc6⟩,⟨la6,ln6,lc6⟩,⟨ga6,gn6,gc6⟩,⟨fa6,fn6,fc6⟩,⟨ra6,rn6,rc6⟩⟩),.int .i64 (newN s c)]) (by simp [results,Tryz.results183,go_sem,D6.cells]) rfl (Did.of HN.out (fun e=>by rw [HC.out];exact hs6 e) G6)
set_option linter.unusedSimpArgs false in
set_option maxHeartbeats 8000000 in
theorem qkf {w:World} {lo:Nat} {v:Sv} {vs:List Lv} {s:Sy} (h:OwnS w lo v vs s) (hl:lo <= w.heap.size) (R:SysR s) (c:Cl) (h4:decide (c.kind <= 3)=false) (h11:(c.kind==11)=false) (hth:qag s.tasks c.no=false) :
  Calls Tryz.prog 183 #[.agg (syc s v),ck c] w (Did w lo v vs (doN s c) (doC s c)):=by
 obtain ⟨⟨ta,tn,tcap⟩,⟨la,ln,lcap⟩,⟨ga,gn,gcap⟩,⟨fa,fn,fcap⟩,⟨ra,rn,rcap⟩⟩:=v
 have HN:Hid (doN s c=2):=qjX h4 h11 hth
 obtain ⟨pa,Hpa⟩:∃ z,Hid (qar s.tasks c.no=z):=⟨_,rfl⟩
 have hpa:pa < 0:=by unfold qag at hth;rw [Hpa.out] at hth;simpa using hth
 obtain ⟨A0',C0',kZ⟩:=ask3 h hl c
 have C0:Hid (Blk _ (w.heap.size+1) (cc c)):=C0'
 have A0:Hid (AskR w lo _ vs _ w.heap.size (w.heap.size+2) _ vs s):=A0'
 have HS:Hid (SysOn _ _ s):=(h.on (by have:=R.small;omega)).keeps kZ
 clear A0' C0' h
 go_enter Tryz.func183,Tryz.ntmps183
 go_wp2_with fail
 change Calls _ _ _ (qau w ⟨⟨ta,tn,tcap⟩,⟨la,ln,lcap⟩,⟨ga,gn,gcap⟩,⟨fa,fn,fcap⟩,⟨ra,rn,rcap⟩⟩ s c) _
 generalize qau w ⟨⟨ta,tn,tcap⟩,⟨la,ln,lcap⟩,⟨ga,gn,gcap⟩,⟨fa,fn,fcap⟩,⟨ra,rn,rcap⟩⟩ s c=Z at *
 have hb0:∀ w',Keeps Z w'->∀ q,w'.cell? ⟨w.heap.size,q,none⟩=(syc s ⟨⟨ta,tn,tcap⟩,⟨la,ln,lcap⟩,⟨ga,gn,gcap⟩,⟨fa,fn,fcap⟩,⟨ra,rn,rcap⟩⟩)[q]?:=fun w' k=>(A0.out.g.var.box.keeps k).cells
 dsimp only [syc] at hb0
 have hc0:∀ w',Keeps Z w'->∀ q,w'.cell? ⟨w.heap.size+1,q,none⟩=(cc c)[q]?:=fun w' k=>(C0.out.keeps k).cells
 refine (HS.out.onT.sTaskAt c.no Hpa.out (Keeps.refl _)).mono ?_
 rintro e w1 ⟨rfl,k1⟩
 have AE:=A0.out.keeps k1
 obtain ⟨_,o1,o2⟩:=AE.g.var.box
 dsimp only [syc] at o1
 obtain ⟨_,r1,r2⟩:=AE.r
 go_wp2
 exact AE.ret HN.out (fun h=>absurd h (by decide)) rfl (fun Q D=>by simp [results,Tryz.results183,go_sem,D])
set_option linter.unusedSimpArgs false in
set_option maxHeartbeats 8000000 in
theorem qkg {w:World} {lo:Nat} {v:Sv} {vs:List Lv} {s:Sy} (h:OwnS w lo v vs s) (hl:lo <= w.heap.size) (R:SysR s) (cn cp ca cb:Int) :
  Calls Tryz.prog 183 #[.agg (syc s v),ck ⟨11,cn,cp,ca,cb⟩] w (Did w lo v vs (doN s ⟨11,cn,cp,ca,cb⟩) (doC s ⟨11,cn,cp,ca,cb⟩)):=by
 obtain ⟨⟨ta,tn,tcap⟩,⟨la,ln,lcap⟩,⟨ga,gn,gcap⟩,⟨fa,fn,fcap⟩,⟨ra,rn,rcap⟩⟩:=v
 obtain ⟨tn2,Htn⟩:∃ z,Hid (qdk s ca=z):=⟨_,rfl⟩
 obtain ⟨ts2,Hts⟩:∃ z,Hid (qcW s ca=z):=⟨_,rfl⟩
 have hsb:=qbh.2 R
 have HN0:Hid (doN s ⟨11,cn,cp,ca,cb⟩=if !inB ca 1 50 then 1 else if tn2 < ca then 4 else 0):=by
  show _=_
  rw [<- Htn.out]
  unfold doN qdk
  rw [hsb]
  rfl
 have HC0:Hid (doC s ⟨11,cn,cp,ca,cb⟩=ts2):=by
  show _=_
  rw [<- Hts.out]
  unfold doC qcW
  rw [hsb]
  rfl
 obtain ⟨A0',C0',kZ⟩:=ask3 h hl ⟨11,cn,cp,ca,cb⟩
 have C0:Hid (Blk _ (w.heap.size+1) (cc ⟨11,cn,cp,ca,cb⟩)):=C0'
 have A0:Hid (AskR w lo _ vs _ w.heap.size (w.heap.size+2) _ vs s):=A0'
 have HS:Hid (SysOn _ _ s):=(h.on (by have:=R.small;omega)).keeps kZ
 clear A0' C0' h
 go_enter Tryz.func183,Tryz.ntmps183
 go_wp2_with fail
 change Calls _ _ _ (qau w ⟨⟨ta,tn,tcap⟩,⟨la,ln,lcap⟩,⟨ga,gn,gcap⟩,⟨fa,fn,fcap⟩,⟨ra,rn,rcap⟩⟩ s ⟨11,cn,cp,ca,cb⟩) _
 generalize qau w ⟨⟨ta,tn,tcap⟩,⟨la,ln,lcap⟩,⟨ga,gn,gcap⟩,⟨fa,fn,fcap⟩,⟨ra,rn,rcap⟩⟩ s ⟨11,cn,cp,ca,cb⟩=Z at *
 have hb0:∀ w',Keeps Z w'->∀ q,w'.cell? ⟨w.heap.size,q,none⟩=(syc s ⟨⟨ta,tn,tcap⟩,⟨la,ln,lcap⟩,⟨ga,gn,gcap⟩,⟨fa,fn,fcap⟩,⟨ra,rn,rcap⟩⟩)[q]?:=fun w' k=>(A0.out.g.var.box.keeps k).cells
 dsimp only [syc] at hb0
 have hc0:∀ w',Keeps Z w'->∀ q,w'.cell? ⟨w.heap.size+1,q,none⟩=(cc ⟨11,cn,cp,ca,cb⟩)[q]?:=fun w' k=>(C0.out.keeps k).cells
 refine (qaf _ _ _ _).mono ?_
 rintro e w' ⟨rfl,hw'⟩
 have hw2:=hw'.symm
 subst hw2
 cases c1:inB ca 1 50
 ·have HN:Hid (doN s ⟨11,cn,cp,ca,cb⟩=1):=by show _=_;rw [HN0.out,c1];rfl
  have AE:=A0.out
  obtain ⟨_,o1,o2⟩:=AE.g.var.box
  dsimp only [syc] at o1
  obtain ⟨_,r1,r2⟩:=AE.r
  go_wp2
  exact AE.ret HN.out (fun h=>absurd h (by decide)) rfl (fun Q D=>by simp [results,Tryz.results183,go_sem,D])
 have ST:Hid (Calls Tryz.prog 216 #[.agg (syc s ⟨⟨ta,tn,tcap⟩,⟨la,ln,lcap⟩,⟨ga,gn,gcap⟩,⟨fa,fn,fcap⟩,⟨ra,rn,rcap⟩⟩),.int .i64 ca] Z fun e w'=>∃ v' vs',e = .returned (.tuple #[.agg (syc ts2 v'),.int .i64 tn2]) /\ OwnS w' Z.heap.size v' vs' ts2 /\ Keeps Z w'):=by
  have:=qoZ HS.out ca
  rw [Htn.out,Hts.out] at this
  exact this
 go_upto_region 7 with (go_at_call 216;refine ST.out.mono ?_;rintro e w6 ⟨v6,vs6,rfl,o6,k6⟩;obtain ⟨⟨ta6,tn6,tc6⟩,⟨la6,ln6,lc6⟩,⟨ga6,gn6,gc6⟩,⟨fa6,fn6,fc6⟩,⟨ra6,rn6,rc6⟩⟩:=v6)
 have K7:Keeps Z (w6.alloc (.cells (syc (ts2:Sy) ⟨⟨ta6,tn6,tc6⟩,⟨la6,ln6,lc6⟩,⟨ga6,gn6,gc6⟩,⟨fa6,fn6,fc6⟩,⟨ra6,rn6,rc6⟩⟩) 37)):=k6.alloc _
 have B7:Hid (Blk (w6.alloc (.cells (syc (ts2:Sy) ⟨⟨ta6,tn6,tc6⟩,⟨la6,ln6,lc6⟩,⟨ga6,gn6,gc6⟩,⟨fa6,fn6,fc6⟩,⟨ra6,rn6,rc6⟩⟩) 37)) w6.heap.size (syc (ts2:Sy) ⟨⟨ta6,tn6,tc6⟩,⟨la6,ln6,lc6⟩,⟨ga6,gn6,gc6⟩,⟨fa6,fn6,fc6⟩,⟨ra6,rn6,rc6⟩⟩)):=Blk.new _ _ _
 have O7:Hid (OwnS (w6.alloc (.cells (syc (ts2:Sy) ⟨⟨ta6,tn6,tc6⟩,⟨la6,ln6,lc6⟩,⟨ga6,gn6,gc6⟩,⟨fa6,fn6,fc6⟩,⟨ra6,rn6,rc6⟩⟩) 37)) Z.heap.size ⟨⟨ta6,tn6,tc6⟩,⟨la6,ln6,lc6⟩,⟨ga6,gn6,gc6⟩,⟨fa6,fn6,fc6⟩,⟨ra6,rn6,rc6⟩⟩ vs6 ts2):=o6.keeps ((Keeps.refl _).alloc _)
 change Code.wp _ _ _ _ (w6.alloc (.cells (syc (ts2:Sy) ⟨⟨ta6,tn6,tc6⟩,⟨la6,ln6,lc6⟩,⟨ga6,gn6,gc6⟩,⟨fa6,fn6,fc6⟩,⟨ra6,rn6,rc6⟩⟩) 37))
 clear o6 k6
 generalize w6.alloc (.cells (syc (ts2:Sy) ⟨⟨ta6,tn6,tc6⟩,⟨la6,ln6,lc6⟩,⟨ga6,gn6,gc6⟩,⟨fa6,fn6,fc6⟩,⟨ra6,rn6,rc6⟩⟩) 37)=X at *
 generalize w6.heap.size=tob at *
 cases c2:decide (tn2 < ca)
 rotate_left
 ·have c2':tn2 < ca:=of_decide_eq_true c2
  have HN:Hid (doN s ⟨11,cn,cp,ca,cb⟩=4):=by show _=_;rw [HN0.out,c1];simp [c2']
  have AE:=A0.out.keeps K7
  obtain ⟨_,o1,o2⟩:=AE.g.var.box
  dsimp only [syc] at o1
  obtain ⟨_,r1,r2⟩:=AE.r
  go_wp2
  exact AE.ret HN.out (fun h=>absurd h (by decide)) rfl (fun Q D=>by simp [results,Tryz.results183,go_sem,D])
 have c2':¬ tn2 < ca:=of_decide_eq_false c2
 have HN:Hid (doN s ⟨11,cn,cp,ca,cb⟩=0):=by show _=_;rw [HN0.out,c1];simp [c2']
 have GF:Goes Z lo ⟨⟨ta,tn,tcap⟩,⟨la,ln,lcap⟩,⟨ga,gn,gcap⟩,⟨fa,fn,fcap⟩,⟨ra,rn,rcap⟩⟩ vs X ⟨⟨ta6,tn6,tc6⟩,⟨la6,ln6,lc6⟩,⟨ga6,gn6,gc6⟩,⟨fa6,fn6,fc6⟩,⟨ra6,rn6,rc6⟩⟩ vs6 ts2:=Goes.fresh O7.out K7 (Nat.le_trans hl kZ.size)
 obtain ⟨P6,D6,G6⟩:=A0.out.pass GF
 obtain ⟨_,r1,r2⟩:=P6
 obtain ⟨_,b1,b2⟩:=B7.out
 dsimp only [syc] at b1
 go_wp2
 change bodyPost _ _ _ _ _ (putC X (w.heap.size+2) 0 (syc (ts2:Sy) ⟨⟨ta6,tn6,tc6⟩,⟨la6,ln6,lc6⟩,⟨ga6,gn6,gc6⟩,⟨fa6,fn6,fc6⟩,⟨ra6,rn6,rc6⟩⟩).toList)
 generalize putC X (w.heap.size+2) 0 (syc (ts2:Sy) ⟨⟨ta6,tn6,tc6⟩,⟨la6,ln6,lc6⟩,⟨ga6,gn6,gc6⟩,⟨fa6,fn6,fc6⟩,⟨ra6,rn6,rc6⟩⟩).toList=Q at D6 G6 ⊢
 exact bodyPost_ret (v := .tuple #[.agg (syc (ts2:Sy) ⟨⟨ta6,tn6,tc6⟩,⟨la6,ln6,lc6⟩,⟨ga6,gn6,gc6⟩,⟨fa6,fn6,fc6⟩,⟨ra6,rn6,rc6⟩⟩),.int .i64 0]) (by simp [results,Tryz.results183,go_sem,D6.cells]) rfl (Did.of HN.out (fun _=>HC0.out.symm) G6)
theorem qkh {w:World} {lo:Nat} {v:Sv} {vs:List Lv} {s:Sy} (h:OwnS w lo v vs s) (hl:lo <= w.heap.size) (R:SysR s) (c:Cl) (hc:inB c.kind 1 11=true):Calls Tryz.prog 183 #[.agg (syc s v),ck c] w (Did w lo v vs (doN s c) (doC s c)):=by
 obtain ⟨h1,h2⟩:=qap.1 hc
 by_cases h3:c.kind <= 3
 ·exact qke h hl R c h3
 obtain ⟨kd,cn,cp,ca,cb⟩:=c
 dsimp only at h1 h2 h3
 by_cases h11:kd=11
 ·subst h11;exact qkg h hl R cn cp ca cb
 cases hth:qag s.tasks cn
 ·exact qkf h hl R _ (by simpa using h3) (by simpa using h11) hth
 have:kd=4∨kd=5∨kd=6∨kd=7∨kd=8∨kd=9∨kd=10:=by omega
 rcases this with rfl | rfl | rfl | rfl | rfl | rfl | rfl
 ·exact qj2 h hl R cn cp ca cb hth
 ·exact qj3 h hl R cn cp ca cb hth
 ·exact qj9 h hl R cn cp ca cb hth
 ·exact qka h hl R cn cp ca cb hth
 ·exact qkb h hl R cn cp ca cb hth
 ·exact qj4 h hl R cn cp ca cb hth
 ·exact qkc h hl R cn cp ca cb hth
def Told (w:World) (s':Sy) (n:Int) (e:Ending) (w':World):Prop:=∃ v' vs',e = .returned (.tuple #[.agg (syc s' v'),.int .i64 n]) /\ OwnS w' w.heap.size v' vs' s' /\ Keeps w w'
theorem Told.of {w w':World} {s s':Sy} {n m:Int} {v':Sv} {vs':List Lv} (hn:n=m) (hs:s=s') (O:OwnS w' w.heap.size v' vs' s') (K:Keeps w w'):Told w s n (.returned (.tuple #[.agg (syc s' v'),.int .i64 m])) w':=by
 subst hn hs
 exact ⟨v',vs',rfl,O,K⟩
set_option linter.unusedSimpArgs false in
set_option maxHeartbeats 20000000 in
theorem qki {w:World} {v:Sv} {s:Sy} (h:SysOn w v s) (c:Cl) :
  Calls Tryz.prog 145 #[.agg (syc s v),ck c] w (Told w (qbf s c) (qbJ s c)):=by
 obtain ⟨⟨ta,tn,tcap⟩,⟨la,ln,lcap⟩,⟨ga,gn,gcap⟩,⟨fa,fn,fcap⟩,⟨ra,rn,rcap⟩⟩:=v
 have kZ:Keeps w (qau w ⟨⟨ta,tn,tcap⟩,⟨la,ln,lcap⟩,⟨ga,gn,gcap⟩,⟨fa,fn,fcap⟩,⟨ra,rn,rcap⟩⟩ s c):=(((Keeps.refl w).alloc _).alloc _).alloc _
 have B0:Hid (Blk (qau w ⟨⟨ta,tn,tcap⟩,⟨la,ln,lcap⟩,⟨ga,gn,gcap⟩,⟨fa,fn,fcap⟩,⟨ra,rn,rcap⟩⟩ s c) w.heap.size (syc s ⟨⟨ta,tn,tcap⟩,⟨la,ln,lcap⟩,⟨ga,gn,gcap⟩,⟨fa,fn,fcap⟩,⟨ra,rn,rcap⟩⟩)):=((Blk.new _ _ _).alloc _).alloc _
 have C0:Hid (Blk (qau w ⟨⟨ta,tn,tcap⟩,⟨la,ln,lcap⟩,⟨ga,gn,gcap⟩,⟨fa,fn,fcap⟩,⟨ra,rn,rcap⟩⟩ s c) (w.heap.size+1) (cc c)):=by
  have:=(Blk.new (w.alloc (.cells (syc s ⟨⟨ta,tn,tcap⟩,⟨la,ln,lcap⟩,⟨ga,gn,gcap⟩,⟨fa,fn,fcap⟩,⟨ra,rn,rcap⟩⟩) 37)) (cc c) 189).alloc (.cells zc 37)
  show Blk _ _ _
  simpa using this
 have R0:Hid (Blk (qau w ⟨⟨ta,tn,tcap⟩,⟨la,ln,lcap⟩,⟨ga,gn,gcap⟩,⟨fa,fn,fcap⟩,⟨ra,rn,rcap⟩⟩ s c) (w.heap.size+2) zc):=by
  have:=Blk.new ((w.alloc (.cells (syc s ⟨⟨ta,tn,tcap⟩,⟨la,ln,lcap⟩,⟨ga,gn,gcap⟩,⟨fa,fn,fcap⟩,⟨ra,rn,rcap⟩⟩) 37)).alloc (.cells (cc c) 189)) zc 37
  show Blk _ _ _
  simpa using this
 have hz:Hid ((qau w ⟨⟨ta,tn,tcap⟩,⟨la,ln,lcap⟩,⟨ga,gn,gcap⟩,⟨fa,fn,fcap⟩,⟨ra,rn,rcap⟩⟩ s c).heap.size=w.heap.size+3):=by show _=_;simp
 have HS:Hid (SysOn (qau w ⟨⟨ta,tn,tcap⟩,⟨la,ln,lcap⟩,⟨ga,gn,gcap⟩,⟨fa,fn,fcap⟩,⟨ra,rn,rcap⟩⟩ s c) ⟨⟨ta,tn,tcap⟩,⟨la,ln,lcap⟩,⟨ga,gn,gcap⟩,⟨fa,fn,fcap⟩,⟨ra,rn,rcap⟩⟩ s):=h.keeps kZ
 clear h
 go_enter Tryz.func145,Tryz.ntmps145
 go_wp2_with fail
 change Calls _ _ _ (qau w ⟨⟨ta,tn,tcap⟩,⟨la,ln,lcap⟩,⟨ga,gn,gcap⟩,⟨fa,fn,fcap⟩,⟨ra,rn,rcap⟩⟩ s c) _
 generalize qau w ⟨⟨ta,tn,tcap⟩,⟨la,ln,lcap⟩,⟨ga,gn,gcap⟩,⟨fa,fn,fcap⟩,⟨ra,rn,rcap⟩⟩ s c=Z at *
 have hb0:∀ w',Keeps Z w'->∀ q,w'.cell? ⟨w.heap.size,q,none⟩=(syc s ⟨⟨ta,tn,tcap⟩,⟨la,ln,lcap⟩,⟨ga,gn,gcap⟩,⟨fa,fn,fcap⟩,⟨ra,rn,rcap⟩⟩)[q]?:=fun w' k=>(B0.out.keeps k).cells
 dsimp only [syc] at hb0
 have hc0:∀ w',Keeps Z w'->∀ q,w'.cell? ⟨w.heap.size+1,q,none⟩=(cc c)[q]?:=fun w' k=>(C0.out.keeps k).cells
 refine (qdf HS.out).mono ?_
 rintro e w1 ⟨rfl,k1⟩
 cases hb:sysB s
 ·have HN:Hid (qbJ s c=1):=by show _=_;unfold qbJ;rw [hb];rfl
  have HC:Hid (qbf s c=Sy.zero):=by show _=_;unfold qbf;rw [hb];rfl
  obtain ⟨_,r1,r2⟩:=R0.out.keeps k1
  go_wp2
  have D:=(R0.out.keeps k1).putC zc.toList rfl
  have KQ:=Keeps.putC (b:=w.heap.size+2) (by omega) zc.toList 0 (kZ.trans k1)
  change bodyPost _ _ _ _ _ (putC w1 (w.heap.size+2) 0 zc.toList)
  generalize putC w1 (w.heap.size+2) 0 zc.toList=Q at D KQ ⊢
  exact bodyPost_ret (v := .tuple #[.agg zc,.int .i64 1]) (by simp [results,Tryz.results145,go_sem,D.cells]) rfl (Told.of (v':=Sv.zero) (vs':=[]) HN.out HC.out (OwnS.nothing _ _) KQ)
 have R:=qbh.1 hb
 have HR:Hid (SysR s):=R
 clear R
 obtain ⟨cbv,Hcb⟩:∃ z,Hid (qdb c=z):=⟨_,rfl⟩
 have CO:Hid (∀ w',Calls Tryz.prog 182 #[ck c] w' fun e w''=>e = .returned (.bool cbv) /\ Keeps w' w''):=fun w'=>by
  have:=qnS c w'
  rw [Hcb.out] at this
  exact this
 cases cbv
 ·have HN:Hid (qbJ s c=1):=by show _=_;unfold qbJ;rw [hb,Hcb.out];rfl
  have HC:Hid (qbf s c=Sy.zero):=by show _=_;unfold qbf;rw [hb,Hcb.out];rfl
  go_wp2_with (go_at_call 182;refine (CO.out _).mono ?_;rintro e w2 ⟨rfl,k2⟩;obtain ⟨_,r1,r2⟩:=R0.out.keeps (k1.trans k2))
  have D:=(R0.out.keeps (k1.trans k2)).putC zc.toList rfl
  have KQ:=Keeps.putC (b:=w.heap.size+2) (by omega) zc.toList 0 (kZ.trans (k1.trans k2))
  change bodyPost _ _ _ _ _ (putC w2 (w.heap.size+2) 0 zc.toList)
  generalize putC w2 (w.heap.size+2) 0 zc.toList=Q at D KQ ⊢
  exact bodyPost_ret (v := .tuple #[.agg zc,.int .i64 1]) (by simp [results,Tryz.results145,go_sem,D.cells]) rfl (Told.of (v':=Sv.zero) (vs':=[]) HN.out HC.out (OwnS.nothing _ _) KQ)
 go_upto_region 3 with (go_at_call 182;refine (CO.out _).mono ?_;rintro e w2 ⟨rfl,k2⟩)
 have K2:Keeps Z w2:=k1.trans k2
 have HNk:Hid (inB c.kind 1 11=true):=by
  have:=Hcb.out
  unfold qdb at this
  simp only [Bool.and_eq_true] at this
  exact this.1
 obtain ⟨dn,Hdn⟩:∃ z,Hid (doN s c=z):=⟨_,rfl⟩
 have HN:Hid (qbJ s c=dn):=by show _=_;unfold qbJ;rw [hb,Hcb.out,Hdn.out];rfl
 have HC:Hid (qbf s c=if dn==0 then doC s c else s):=by show _=_;unfold qbf;rw [hb,Hcb.out,Hdn.out];rfl
 have S2:Hid (SysOn w2 ⟨⟨ta,tn,tcap⟩,⟨la,ln,lcap⟩,⟨ga,gn,gcap⟩,⟨fa,fn,fcap⟩,⟨ra,rn,rcap⟩⟩ s):=HS.out.keeps K2
 have kZ2:Keeps w w2:=kZ.trans K2
 have hz2:Hid (w.heap.size+3 <= w2.heap.size):=by show _ <= _;rw [<- hz.out];exact K2.size
 have B2:Hid (Blk w2 w.heap.size (syc s ⟨⟨ta,tn,tcap⟩,⟨la,ln,lcap⟩,⟨ga,gn,gcap⟩,⟨fa,fn,fcap⟩,⟨ra,rn,rcap⟩⟩)):=B0.out.keeps K2
 have C2:Hid (Blk w2 (w.heap.size+1) (cc c)):=C0.out.keeps K2
 have R2:Hid (Blk w2 (w.heap.size+2) zc):=R0.out.keeps K2
 clear hb0 hc0 CO B0 C0 R0 HS kZ hz k1 k2 K2
 have hb2:∀ w',Keeps w2 w'->∀ q,w'.cell? ⟨w.heap.size,q,none⟩=(syc s ⟨⟨ta,tn,tcap⟩,⟨la,ln,lcap⟩,⟨ga,gn,gcap⟩,⟨fa,fn,fcap⟩,⟨ra,rn,rcap⟩⟩)[q]?:=fun w' k=>(B2.out.keeps k).cells
 dsimp only [syc] at hb2
 have hc2:∀ w',Keeps w2 w'->∀ q,w'.cell? ⟨w.heap.size+1,q,none⟩=(cc c)[q]?:=fun w' k=>(C2.out.keeps k).cells
 have DO:Hid (∀ (w':World) (lo:Nat) (v:Sv) (vs:List Lv),OwnS w' lo v vs s->lo <= w'.heap.size->Calls Tryz.prog 183 #[.agg (syc s v),ck c] w' (Did w' lo v vs dn (doC s c))):=fun w' lo v vs o hl=>by
  have:=qkh o hl HR.out c HNk.out
  rw [Hdn.out] at this
  exact this
 go_cut [6,7] (fun p b wx=>∃ nb s' v' vs',p = .pointer (some ⟨nb,0,none⟩) /\ b = .int .i64 dn /\ Hid (Blk wx nb (syc s' v')) /\ Hid (OwnS wx w2.heap.size v' vs' s') /\ Hid (dn=0->s'=doC s c) /\ Keeps w2 wx)
 case first =>
  refine wp_region_held_drew (S:=fun w'=>Keeps w2 w') (by kernel_rfl) ?_ (fun hHeld => ?_)
  ·exact (Keeps.refl w2).drew
  refine Plan.go [0,2] ?_
  iterate 2 (refine qac (by simp only [qab];rfl) (by kernel_rfl) (by exact fun _ _ _ h=>h) (by rfl) (by assumption) (fun w _=>by go_simp;try (with_reducible rfl)) ?_;try simp only [qaa])
  refine Plan.nil ?_
  refine wpAnyH_ready (rs:=[1,7]) (by kernel_rfl) (by simp) ?_
  refine AllReadyH.cons (by simp only [List.getElem?_toArray,List.getElem?_cons_succ,List.getElem?_cons_zero];rfl) (fun K hK => ?_) (AllReadyH.cons (by simp only [List.getElem?_toArray,List.getElem?_cons_succ,List.getElem?_cons_zero];rfl) (fun K hK => ?_) AllReadyH.nil)
  ·go_simp
   (go_at_call 184;refine (qeh (S2.out.keeps (by assumption))).mono ?_;rintro e w3 ⟨v3,vs3,rfl,o3,k3⟩;obtain ⟨⟨xA,xB,xC⟩,⟨xD,xE,xF⟩,⟨xG,xH,xI⟩,⟨xJ,xK,xL⟩,⟨xM,xN,xO⟩⟩:=v3;have K3:Keeps w2 w3:=Keeps.trans (by assumption) k3)
   try go_wp2_with fail
   refine hK.out _ _ ?_ (fun hHeld => ?_)
   ·first | assumption | exact Keeps.alloc (by assumption) _ | exact Keeps.trans (by assumption) (by assumption)
   clear hK K
   try simp only [qaa]
   refine wpAnyH_ready (rs:=[3,7]) (by kernel_rfl) (by simp) ?_
   refine AllReadyH.cons (by simp only [List.getElem?_toArray,List.getElem?_cons_succ,List.getElem?_cons_zero];rfl) (fun K hK => ?_) (AllReadyH.cons (by simp only [List.getElem?_toArray,List.getElem?_cons_succ,List.getElem?_cons_zero];rfl) (fun K hK => ?_) AllReadyH.nil)
   ·go_simp
    (go_at_call 183;refine (DO.out _ _ _ _ o3 (by have:=k3.size;simp at this ⊢;omega)).mono ?_;rintro e w4 ⟨s6,v6,vs6,rfl,hs6,g6⟩;obtain ⟨⟨ta6,tn6,tc6⟩,⟨la6,ln6,lc6⟩,⟨ga6,gn6,gc6⟩,⟨fa6,fn6,fc6⟩,⟨ra6,rn6,rc6⟩⟩:=v6;have K4:Keeps w2 w4:=g6.keeps o3 (by first | assumption | exact K3.alloc _) (by simp))
    try go_wp2_with fail
    refine hK.out _ _ ?_ (fun hHeld => ?_)
    ·first | assumption | exact Keeps.alloc (by assumption) _ | exact Keeps.trans (by assumption) (by assumption)
    clear hK K
    try simp only [qaa]
    refine Plan.go [4,5,6] ?_
    iterate 3 (refine qac (by simp only [qab];rfl) (by kernel_rfl) (by exact fun _ _ _ h=>h) (by rfl) (by assumption) (fun w _=>by go_simp;try (with_reducible rfl)) ?_;try simp only [qaa])
    refine Plan.nil ?_
    refine qad 7 (by kernel_rfl) (by simp only [qab];rfl) (fun K hK => ?_)
    go_simp
    try go_wp2_with fail
    refine hK.out _ _ ?_ (fun hHeld => ?_)
    ·first | assumption | exact Keeps.alloc (by assumption) _ | exact Keeps.trans (by assumption) (by assumption)
    clear hK K
    try simp only [qaa]
    refine qad 8 (by kernel_rfl) (by simp only [qab];rfl) (fun K hK => ?_)
    go_simp
    try go_wp2_with fail
    refine hK.out _ (w4.alloc (.cells (syc (s6:Sy) ⟨⟨ta6,tn6,tc6⟩,⟨la6,ln6,lc6⟩,⟨ga6,gn6,gc6⟩,⟨fa6,fn6,fc6⟩,⟨ra6,rn6,rc6⟩⟩) 37)) ?_ (fun hHeld => ?_)
    ·exact K4.alloc _
    clear hK K
    try simp only [qaa]
    have hBN:Hid (Blk (w4.alloc (.cells (syc (s6:Sy) ⟨⟨ta6,tn6,tc6⟩,⟨la6,ln6,lc6⟩,⟨ga6,gn6,gc6⟩,⟨fa6,fn6,fc6⟩,⟨ra6,rn6,rc6⟩⟩) 37)) w4.heap.size (syc (s6:Sy) ⟨⟨ta6,tn6,tc6⟩,⟨la6,ln6,lc6⟩,⟨ga6,gn6,gc6⟩,⟨fa6,fn6,fc6⟩,⟨ra6,rn6,rc6⟩⟩)):=Blk.new _ _ _
    have hON:Hid (OwnS (w4.alloc (.cells (syc (s6:Sy) ⟨⟨ta6,tn6,tc6⟩,⟨la6,ln6,lc6⟩,⟨ga6,gn6,gc6⟩,⟨fa6,fn6,fc6⟩,⟨ra6,rn6,rc6⟩⟩) 37)) w2.heap.size ⟨⟨ta6,tn6,tc6⟩,⟨la6,ln6,lc6⟩,⟨ga6,gn6,gc6⟩,⟨fa6,fn6,fc6⟩,⟨ra6,rn6,rc6⟩⟩ vs6 s6):=(g6.own.base (by simp)).keeps ((Keeps.refl _).alloc _)
    generalize w4.alloc (.cells (syc (s6:Sy) ⟨⟨ta6,tn6,tc6⟩,⟨la6,ln6,lc6⟩,⟨ga6,gn6,gc6⟩,⟨fa6,fn6,fc6⟩,⟨ra6,rn6,rc6⟩⟩) 37)=XW at *
    refine qan 9 (v := ?_) (by simp only [qab];rfl) (by kernel_rfl) (by exact fun _ _ _ h=>h) (by rfl) (by assumption) ?_ ?_
    rotate_left
    ·(intro w _;go_simp;try (with_reducible rfl))
    try simp only [qaa]
    refine wpAnyH_done (by kernel_rfl) ?_ _
    go_wp2_with fail
    go_meet
    exact ⟨w4.heap.size,s6,⟨⟨ta6,tn6,tc6⟩,⟨la6,ln6,lc6⟩,⟨ga6,gn6,gc6⟩,⟨fa6,fn6,fc6⟩,⟨ra6,rn6,rc6⟩⟩,vs6,rfl,rfl,hBN,hON,hs6,by assumption⟩
   ·go_simp
    try go_wp2_with fail
    refine hK.out _ _ ?_ (fun hHeld => ?_)
    ·first | assumption | exact Keeps.alloc (by assumption) _ | exact Keeps.trans (by assumption) (by assumption)
    clear hK K
    try simp only [qaa]
    have o3':=o3.keeps ((Keeps.refl w3).alloc (.cells zc 37))
    refine qad 3 (by kernel_rfl) (by simp only [qab];rfl) (fun K hK => ?_)
    go_simp
    (go_at_call 183;refine (DO.out _ _ _ _ o3' (by have:=k3.size;simp at this ⊢;omega)).mono ?_;rintro e w4 ⟨s6,v6,vs6,rfl,hs6,g6⟩;obtain ⟨⟨ta6,tn6,tc6⟩,⟨la6,ln6,lc6⟩,⟨ga6,gn6,gc6⟩,⟨fa6,fn6,fc6⟩,⟨ra6,rn6,rc6⟩⟩:=v6;have K4:Keeps w2 w4:=g6.keeps o3' (by first | assumption | exact K3.alloc _) (by simp))
    try go_wp2_with fail
    refine hK.out _ _ ?_ (fun hHeld => ?_)
    ·first | assumption | exact Keeps.alloc (by assumption) _ | exact Keeps.trans (by assumption) (by assumption)
    clear hK K
    try simp only [qaa]
    refine Plan.go [4,5,6] ?_
    iterate 3 (refine qac (by simp only [qab];rfl) (by kernel_rfl) (by exact fun _ _ _ h=>h) (by rfl) (by assumption) (fun w _=>by go_simp;try (with_reducible rfl)) ?_;try simp only [qaa])
    refine Plan.nil ?_
    have BN0:Blk w4 (w3.heap.size) zc:=g6.blk (Blk.new _ _ _) (fun i hi=>by have:=(o3.blkLt hi).2;omega)
    have HBN:Hid (Blk w4 (w3.heap.size) zc):=BN0
    obtain ⟨_,ee1,ee2⟩:=BN0
    have hnb:w2.heap.size <= w3.heap.size:=by first | exact Nat.le_refl _ | exact K3.size
    have FN:∀ i,¬ qah ⟨⟨ta6,tn6,tc6⟩,⟨la6,ln6,lc6⟩,⟨ga6,gn6,gc6⟩,⟨fa6,fn6,fc6⟩,⟨ra6,rn6,rc6⟩⟩ vs6 i (w3.heap.size):=g6.far (Blk.lt (Blk.new _ _ _)) (fun i hi=>by have:=(o3.blkLt hi).2;omega)
    refine qad 8 (by kernel_rfl) (by simp only [qab];rfl) (fun K hK => ?_)
    go_simp
    try go_wp2_with fail
    refine hK.out _ (putC w4 (w3.heap.size) 0 (syc (s6:Sy) ⟨⟨ta6,tn6,tc6⟩,⟨la6,ln6,lc6⟩,⟨ga6,gn6,gc6⟩,⟨fa6,fn6,fc6⟩,⟨ra6,rn6,rc6⟩⟩).toList) ?_ (fun hHeld => ?_)
    ·exact Keeps.putC (b:=w3.heap.size) hnb (syc (s6:Sy) ⟨⟨ta6,tn6,tc6⟩,⟨la6,ln6,lc6⟩,⟨ga6,gn6,gc6⟩,⟨fa6,fn6,fc6⟩,⟨ra6,rn6,rc6⟩⟩).toList 0 K4
    clear hK K
    try simp only [qaa]
    have hBN:Hid (Blk (putC w4 (w3.heap.size) 0 (syc (s6:Sy) ⟨⟨ta6,tn6,tc6⟩,⟨la6,ln6,lc6⟩,⟨ga6,gn6,gc6⟩,⟨fa6,fn6,fc6⟩,⟨ra6,rn6,rc6⟩⟩).toList) (w3.heap.size) (syc (s6:Sy) ⟨⟨ta6,tn6,tc6⟩,⟨la6,ln6,lc6⟩,⟨ga6,gn6,gc6⟩,⟨fa6,fn6,fc6⟩,⟨ra6,rn6,rc6⟩⟩)):=HBN.out.putC (syc (s6:Sy) ⟨⟨ta6,tn6,tc6⟩,⟨la6,ln6,lc6⟩,⟨ga6,gn6,gc6⟩,⟨fa6,fn6,fc6⟩,⟨ra6,rn6,rc6⟩⟩).toList rfl
    have hON:Hid (OwnS (putC w4 (w3.heap.size) 0 (syc (s6:Sy) ⟨⟨ta6,tn6,tc6⟩,⟨la6,ln6,lc6⟩,⟨ga6,gn6,gc6⟩,⟨fa6,fn6,fc6⟩,⟨ra6,rn6,rc6⟩⟩).toList) w2.heap.size ⟨⟨ta6,tn6,tc6⟩,⟨la6,ln6,lc6⟩,⟨ga6,gn6,gc6⟩,⟨fa6,fn6,fc6⟩,⟨ra6,rn6,rc6⟩⟩ vs6 s6):=OwnS.farC FN _ _ (g6.own.base (by first | exact Nat.le_refl _ | simp))
    clear ee1 ee2 HBN FN
    generalize putC w4 (w3.heap.size) 0 (syc (s6:Sy) ⟨⟨ta6,tn6,tc6⟩,⟨la6,ln6,lc6⟩,⟨ga6,gn6,gc6⟩,⟨fa6,fn6,fc6⟩,⟨ra6,rn6,rc6⟩⟩).toList=XW at *
    refine qan 9 (v := ?_) (by simp only [qab];rfl) (by kernel_rfl) (by exact fun _ _ _ h=>h) (by rfl) (by assumption) ?_ ?_
    rotate_left
    ·(intro w _;go_simp;try (with_reducible rfl))
    try simp only [qaa]
    refine wpAnyH_done (by kernel_rfl) ?_ _
    go_wp2_with fail
    go_meet
    exact ⟨w3.heap.size,s6,⟨⟨ta6,tn6,tc6⟩,⟨la6,ln6,lc6⟩,⟨ga6,gn6,gc6⟩,⟨fa6,fn6,fc6⟩,⟨ra6,rn6,rc6⟩⟩,vs6,rfl,rfl,hBN,hON,hs6,by assumption⟩
  ·go_simp
   try go_wp2_with fail
   refine hK.out _ _ ?_ (fun hHeld => ?_)
   ·first | assumption | exact Keeps.alloc (by assumption) _ | exact Keeps.trans (by assumption) (by assumption)
   clear hK K
   try simp only [qaa]
   refine qad 1 (by kernel_rfl) (by simp only [qab];rfl) (fun K hK => ?_)
   go_simp
   (go_at_call 184;refine (qeh (S2.out.keeps (by assumption))).mono ?_;rintro e w3 ⟨v3,vs3,rfl,o3,k3⟩;obtain ⟨⟨xA,xB,xC⟩,⟨xD,xE,xF⟩,⟨xG,xH,xI⟩,⟨xJ,xK,xL⟩,⟨xM,xN,xO⟩⟩:=v3;have K3:Keeps w2 w3:=Keeps.trans (by assumption) k3)
   try go_wp2_with fail
   refine hK.out _ _ ?_ (fun hHeld => ?_)
   ·first | assumption | exact Keeps.alloc (by assumption) _ | exact Keeps.trans (by assumption) (by assumption)
   clear hK K
   try simp only [qaa]
   refine qad 3 (by kernel_rfl) (by simp only [qab];rfl) (fun K hK => ?_)
   go_simp
   (go_at_call 183;refine (DO.out _ _ _ _ o3 (by have:=k3.size;simp at this ⊢;omega)).mono ?_;rintro e w4 ⟨s6,v6,vs6,rfl,hs6,g6⟩;obtain ⟨⟨ta6,tn6,tc6⟩,⟨la6,ln6,lc6⟩,⟨ga6,gn6,gc6⟩,⟨fa6,fn6,fc6⟩,⟨ra6,rn6,rc6⟩⟩:=v6;have K4:Keeps w2 w4:=g6.keeps o3 (by first | assumption | exact K3.alloc _) (by simp))
   try go_wp2_with fail
   refine hK.out _ _ ?_ (fun hHeld => ?_)
   ·first | assumption | exact Keeps.alloc (by assumption) _ | exact Keeps.trans (by assumption) (by assumption)
   clear hK K
   try simp only [qaa]
   refine Plan.go [4,5,6] ?_
   iterate 3 (refine qac (by simp only [qab];rfl) (by kernel_rfl) (by exact fun _ _ _ h=>h) (by rfl) (by assumption) (fun w _=>by go_simp;try (with_reducible rfl)) ?_;try simp only [qaa])
   refine Plan.nil ?_
   have BN0:Blk w4 (w2.heap.size) zc:=g6.blk (((Blk.new _ _ _).keeps (Keeps.refl _).drew).keeps k3) (fun i hi=>by have:=(o3.blkLt hi).1;simp at this;omega)
   have HBN:Hid (Blk w4 (w2.heap.size) zc):=BN0
   obtain ⟨_,ee1,ee2⟩:=BN0
   have hnb:w2.heap.size <= w2.heap.size:=by first | exact Nat.le_refl _ | exact K3.size
   have FN:∀ i,¬ qah ⟨⟨ta6,tn6,tc6⟩,⟨la6,ln6,lc6⟩,⟨ga6,gn6,gc6⟩,⟨fa6,fn6,fc6⟩,⟨ra6,rn6,rc6⟩⟩ vs6 i (w2.heap.size):=g6.far (Blk.lt (((Blk.new _ _ _).keeps (Keeps.refl _).drew).keeps k3)) (fun i hi=>by have:=(o3.blkLt hi).1;simp at this;omega)
   refine qad 8 (by kernel_rfl) (by simp only [qab];rfl) (fun K hK => ?_)
   go_simp
   try go_wp2_with fail
   refine hK.out _ (putC w4 (w2.heap.size) 0 (syc (s6:Sy) ⟨⟨ta6,tn6,tc6⟩,⟨la6,ln6,lc6⟩,⟨ga6,gn6,gc6⟩,⟨fa6,fn6,fc6⟩,⟨ra6,rn6,rc6⟩⟩).toList) ?_ (fun hHeld => ?_)
   ·exact Keeps.putC (b:=w2.heap.size) hnb (syc (s6:Sy) ⟨⟨ta6,tn6,tc6⟩,⟨la6,ln6,lc6⟩,⟨ga6,gn6,gc6⟩,⟨fa6,fn6,fc6⟩,⟨ra6,rn6,rc6⟩⟩).toList 0 K4
   clear hK K
   try simp only [qaa]
   have hBN:Hid (Blk (putC w4 (w2.heap.size) 0 (syc (s6:Sy) ⟨⟨ta6,tn6,tc6⟩,⟨la6,ln6,lc6⟩,⟨ga6,gn6,gc6⟩,⟨fa6,fn6,fc6⟩,⟨ra6,rn6,rc6⟩⟩).toList) (w2.heap.size) (syc (s6:Sy) ⟨⟨ta6,tn6,tc6⟩,⟨la6,ln6,lc6⟩,⟨ga6,gn6,gc6⟩,⟨fa6,fn6,fc6⟩,⟨ra6,rn6,rc6⟩⟩)):=HBN.out.putC (syc (s6:Sy) ⟨⟨ta6,tn6,tc6⟩,⟨la6,ln6,lc6⟩,⟨ga6,gn6,gc6⟩,⟨fa6,fn6,fc6⟩,⟨ra6,rn6,rc6⟩⟩).toList rfl
   have hON:Hid (OwnS (putC w4 (w2.heap.size) 0 (syc (s6:Sy) ⟨⟨ta6,tn6,tc6⟩,⟨la6,ln6,lc6⟩,⟨ga6,gn6,gc6⟩,⟨fa6,fn6,fc6⟩,⟨ra6,rn6,rc6⟩⟩).toList) w2.heap.size ⟨⟨ta6,tn6,tc6⟩,⟨la6,ln6,lc6⟩,⟨ga6,gn6,gc6⟩,⟨fa6,fn6,fc6⟩,⟨ra6,rn6,rc6⟩⟩ vs6 s6):=OwnS.farC FN _ _ (g6.own.base (by first | exact Nat.le_refl _ | simp))
   clear ee1 ee2 HBN FN
   generalize putC w4 (w2.heap.size) 0 (syc (s6:Sy) ⟨⟨ta6,tn6,tc6⟩,⟨la6,ln6,lc6⟩,⟨ga6,gn6,gc6⟩,⟨fa6,fn6,fc6⟩,⟨ra6,rn6,rc6⟩⟩).toList=XW at *
   refine qan 9 (v := ?_) (by simp only [qab];rfl) (by kernel_rfl) (by exact fun _ _ _ h=>h) (by rfl) (by assumption) ?_ ?_
   rotate_left
   ·(intro w _;go_simp;try (with_reducible rfl))
   try simp only [qaa]
   refine wpAnyH_done (by kernel_rfl) ?_ _
   go_wp2_with fail
   go_meet
   exact ⟨w2.heap.size,s6,⟨⟨ta6,tn6,tc6⟩,⟨la6,ln6,lc6⟩,⟨ga6,gn6,gc6⟩,⟨fa6,fn6,fc6⟩,⟨ra6,rn6,rc6⟩⟩,vs6,rfl,rfl,hBN,hON,hs6,by assumption⟩
 case rest =>
 obtain ⟨nb,s',v',vs',rfl,rfl,BN,ON,Hs',kx⟩:=hcut
 generalize wc=wx at *
 clear DO
 obtain ⟨⟨zA,zB,zC⟩,⟨zD,zE,zF⟩,⟨zG,zH,zI⟩,⟨zJ,zK,zL⟩,⟨zM,zN,zO⟩⟩:=v'
 have hx2:Hid (w2.heap.size <= wx.heap.size):=kx.size
 cases d0:(dn==0)
 ·have d0':(dn != 0)=true:=by simp [bne,d0]
  have HC2:Hid (qbf s c=s):=by show _=_;rw [HC.out,d0];rfl
  have HD0:Hid ((dn==0)=false):=d0
  clear d0 BN ON Hs'
  go_wp2_with (go_at_call 184;refine (qeh (S2.out.keeps kx)).mono ?_;rintro e w8 ⟨v8,vs8,rfl,o8,k8⟩;obtain ⟨⟨ta8,tn8,tc8⟩,⟨la8,ln8,lc8⟩,⟨ga8,gn8,gc8⟩,⟨fa8,fn8,fc8⟩,⟨ra8,rn8,rc8⟩⟩:=v8;obtain ⟨_,r1,r2⟩:=R2.out.keeps (kx.trans k8))
  have D:=(R2.out.keeps (kx.trans k8)).putC (syc (s:Sy) ⟨⟨ta8,tn8,tc8⟩,⟨la8,ln8,lc8⟩,⟨ga8,gn8,gc8⟩,⟨fa8,fn8,fc8⟩,⟨ra8,rn8,rc8⟩⟩).toList rfl
  have KQ:=Keeps.putC (b:=w.heap.size+2) (by omega) (syc (s:Sy) ⟨⟨ta8,tn8,tc8⟩,⟨la8,ln8,lc8⟩,⟨ga8,gn8,gc8⟩,⟨fa8,fn8,fc8⟩,⟨ra8,rn8,rc8⟩⟩).toList 0 (kZ2.trans (kx.trans k8))
  have SQ:OwnS (putC w8 (w.heap.size+2) 0 (syc (s:Sy) ⟨⟨ta8,tn8,tc8⟩,⟨la8,ln8,lc8⟩,⟨ga8,gn8,gc8⟩,⟨fa8,fn8,fc8⟩,⟨ra8,rn8,rc8⟩⟩).toList) w.heap.size ⟨⟨ta8,tn8,tc8⟩,⟨la8,ln8,lc8⟩,⟨ga8,gn8,gc8⟩,⟨fa8,fn8,fc8⟩,⟨ra8,rn8,rc8⟩⟩ vs8 s:=(OwnS.farC (c:=w.heap.size+2) (fun i hi=>by have:=(o8.blkLt hi).1;have:=hz2.out;have:=hx2.out;omega) _ _ o8).base (by have:=hz2.out;have:=hx2.out;omega)
  change bodyPost _ _ _ _ _ (putC w8 (w.heap.size+2) 0 (syc (s:Sy) ⟨⟨ta8,tn8,tc8⟩,⟨la8,ln8,lc8⟩,⟨ga8,gn8,gc8⟩,⟨fa8,fn8,fc8⟩,⟨ra8,rn8,rc8⟩⟩).toList)
  generalize putC w8 (w.heap.size+2) 0 (syc (s:Sy) ⟨⟨ta8,tn8,tc8⟩,⟨la8,ln8,lc8⟩,⟨ga8,gn8,gc8⟩,⟨fa8,fn8,fc8⟩,⟨ra8,rn8,rc8⟩⟩).toList=Q at D KQ SQ ⊢
  exact bodyPost_ret (v := .tuple #[.agg (syc (s:Sy) ⟨⟨ta8,tn8,tc8⟩,⟨la8,ln8,lc8⟩,⟨ga8,gn8,gc8⟩,⟨fa8,fn8,fc8⟩,⟨ra8,rn8,rc8⟩⟩),.int .i64 dn]) (by simp [results,Tryz.results145,go_sem,D.cells]) rfl (Told.of HN.out HC2.out SQ KQ)
 ·have d0':(dn != 0)=false:=by simp [bne,d0]
  have HC2:Hid (qbf s c=s'):=by show _=_;rw [HC.out,d0,Hs'.out (by simpa using d0)];rfl
  obtain ⟨_,b1,b2⟩:=BN.out
  dsimp only [syc] at b1
  obtain ⟨_,r1,r2⟩:=R2.out.keeps kx
  clear d0
  go_wp2
  have D:=(R2.out.keeps kx).putC (syc (s':Sy) ⟨⟨zA,zB,zC⟩,⟨zD,zE,zF⟩,⟨zG,zH,zI⟩,⟨zJ,zK,zL⟩,⟨zM,zN,zO⟩⟩).toList rfl
  have KQ:=Keeps.putC (b:=w.heap.size+2) (by omega) (syc (s':Sy) ⟨⟨zA,zB,zC⟩,⟨zD,zE,zF⟩,⟨zG,zH,zI⟩,⟨zJ,zK,zL⟩,⟨zM,zN,zO⟩⟩).toList 0 (kZ2.trans kx)
  have SQ:OwnS (putC wx (w.heap.size+2) 0 (syc (s':Sy) ⟨⟨zA,zB,zC⟩,⟨zD,zE,zF⟩,⟨zG,zH,zI⟩,⟨zJ,zK,zL⟩,⟨zM,zN,zO⟩⟩).toList) w.heap.size ⟨⟨zA,zB,zC⟩,⟨zD,zE,zF⟩,⟨zG,zH,zI⟩,⟨zJ,zK,zL⟩,⟨zM,zN,zO⟩⟩ vs' s':=(OwnS.farC (c:=w.heap.size+2) (fun i hi=>by have:=(ON.out.blkLt hi).1;have:=hz2.out;omega) _ _ ON.out).base (by have:=hz2.out;omega)
  change bodyPost _ _ _ _ _ (putC wx (w.heap.size+2) 0 (syc (s':Sy) ⟨⟨zA,zB,zC⟩,⟨zD,zE,zF⟩,⟨zG,zH,zI⟩,⟨zJ,zK,zL⟩,⟨zM,zN,zO⟩⟩).toList)
  generalize putC wx (w.heap.size+2) 0 (syc (s':Sy) ⟨⟨zA,zB,zC⟩,⟨zD,zE,zF⟩,⟨zG,zH,zI⟩,⟨zJ,zK,zL⟩,⟨zM,zN,zO⟩⟩).toList=Q at D KQ SQ ⊢
  exact bodyPost_ret (v := .tuple #[.agg (syc (s':Sy) ⟨⟨zA,zB,zC⟩,⟨zD,zE,zF⟩,⟨zG,zH,zI⟩,⟨zJ,zK,zL⟩,⟨zM,zN,zO⟩⟩),.int .i64 dn]) (by simp [results,Tryz.results145,go_sem,D.cells]) rfl (Told.of HN.out HC2.out SQ KQ)
end Go.Proofs.YthpdlbcdbncnhaaGreatDoor
namespace Go.Proofs.YthpdlbcdbncnhaaGreatDoor
set_option maxRecDepth 100000
open Go.RowKit
theorem qkj (s:Sy) (cpu:Int):(qa9 s cpu).tasks.length=s.tasks.length:=by
 unfold qa9
 split
 ·rfl
 ·simp [qfh]
theorem qgU (s:Sy):∀ k:Nat,(qaE s k).tasks.length=s.tasks.length
 | 0=>rfl
 | k+1=>by
  show (qa9 (qaE s k) k).tasks.length=_
  rw [qkj,qgU s k]
theorem qkk {s:Sy} (h:qbI s=true):(qay s).tasks.length=s.tasks.length /\ (qay s).cpus=s.cpus:=by
 have e:qay s=qeM (qaE (qbe (qaW (qa3 s))) s.cpus.toNat):=by unfold qay;rw [h];rfl
 rw [e]
 refine ⟨?_,?_⟩
 ·show (qaE (qbe (qaW (qa3 s))) s.cpus.toNat).tasks.length=_
  rw [qgU]
  simp [qbe,qaW,qa3]
 ·show (qaE (qbe (qaW (qa3 s))) s.cpus.toNat).cpus=_
  rw [(qeS _ _).1]
  rfl
theorem qgV:∀ (n:Nat) (s:Sy),(qa4 s n).1.tasks.length=s.tasks.length /\ (qa4 s n).1.cpus=s.cpus /\ qaj (qa4 s n).1 <= max (qaj s) 1600
 | 0,s=>⟨rfl,rfl,by show qaj s <= _;omega⟩
 | n+1,s=>by
  cases h:qbI s
  ·have e:(qa4 s (n+1)).1=s:=by simp [qa4,h]
   rw [e]
   exact ⟨rfl,rfl,by omega⟩
  ·have e:(qa4 s (n+1)).1=(qa4 (qay s) n).1:=by simp [qa4,h]
   obtain ⟨h1,h2,h3⟩:=qgV n (qay s)
   have h4:=qkk h
   have h5:=(qi9 h).2
   rw [e]
   exact ⟨h1.trans h4.1,h2.trans h4.2,by omega⟩
def qdo (s:Sy):Prop:=s.tasks.length <= 13 /\ s.cpus <= 4 /\ qaj s <= 3000
theorem qkl (ts:List Tsk) (t:Tsk):(putL ts t).length <= ts.length+1:=by
 unfold putL
 split
 ·split
  ·rw [qeU];omega
  ·omega
 ·simp
theorem qkm {s:Sy} {c:Cl} (h:qbJ s c=0):qdo (qbf s c):=by
 unfold qbJ at h
 split at h
 case isFalse=>omega
 case isTrue hb =>
  simp only [Bool.and_eq_true] at hb
  have R:=qbh.1 hb.1
  obtain ⟨f1,f2,f3,f4⟩:=R.few
  have f5:=R.small
  have f6:=R.cpus
  have e:qbf s c=doC s c:=by unfold qbf;rw [hb.1,hb.2,h];rfl
  rw [e]
  unfold doC
  split
  ·have:=qkl s.tasks (qdc s c)
   unfold qaj at f5
   refine ⟨by show (putL s.tasks (qdc s c)).length <= _;omega,f6.2,?_⟩
   show (putL s.tasks (qdc s c)).length+qak s.locks+s.ghosts.length+s.floors.length+s.trace.length <= _
   omega
  ·split
   ·obtain ⟨h1,h2,h3⟩:=qgV c.a.toNat s
    exact ⟨by omega,by omega,by omega⟩
   ·unfold qcR
    unfold qaj at f5
    have same:∀ (k:Nat) (t:Tsk),qdo { s with tasks:=s.tasks.set k t }:=fun k t=>⟨by simp;omega,f6.2,by unfold qaj;simp;omega⟩
    split
    ·exact same _ _
    ·split
     ·exact same _ _
     ·split
      ·have he:=List.length_eraseIdx_le s.tasks (qar s.tasks c.no).toNat
       refine ⟨by show (s.tasks.eraseIdx _).length <= _;omega,f6.2,?_⟩
       unfold qdE qaj
       dsimp only
       split
       ·simp only [List.length_append,List.length_singleton];omega
       ·omega
      ·split
       ·have:=qid s.locks c.a c.no
        refine ⟨by show s.tasks.length <= _;omega,f6.2,?_⟩
        show s.tasks.length+qak (askL s.locks c.a c.no)+s.ghosts.length+s.floors.length+s.trace.length <= _
        omega
       ·split
        ·have:=qnf s.locks c.a c.no (qaP s.tasks (qc9 s.locks c.a.toNat))
         refine ⟨by show s.tasks.length <= _;omega,f6.2,?_⟩
         show s.tasks.length+qak (qa5 s.locks c.a c.no (qaP s.tasks (qc9 s.locks c.a.toNat)))+s.ghosts.length+s.floors.length+s.trace.length <= _
         omega
        ·split
         ·exact same _ _
         ·split
          ·exact same _ _
          ·exact ⟨by omega,f6.2,by unfold qaj;omega⟩
theorem qeY:∀ (cs:List Cl) (s:Sy) (c:Cl),runS s (cs++[c])=if qbJ (runS s cs) c==0 then qbf (runS s cs) c else runS s cs
 | [],s,c=>by
  show (if qbJ s c==0 then runS (qbf s c) [] else runS s [])=_
  rfl
 | x::r,s,c=>by
  show (if qbJ s x==0 then runS (qbf s x) (r++[c]) else runS s (r++[c]))=_
  cases h:(qbJ s x==0)
  ·have e:runS s (x::r)=runS s r:=by show (if qbJ s x==0 then runS (qbf s x) r else runS s r)=_;rw [h];rfl
   rw [e]
   exact qeY r s c
  ·have e:runS s (x::r)=runS (qbf s x) r:=by show (if qbJ s x==0 then runS (qbf s x) r else runS s r)=_;rw [h];rfl
   rw [e]
   exact qeY r (qbf s x) c
theorem qkn {n:Int} (h:inB n 1 4=true):qdo (newS n):=by
 have:=qap.1 h
 unfold newS
 rw [h]
 refine ⟨by simp [Sy.zero],this.2,?_⟩
 simp [qaj,Sy.zero,qak,sumW]
 omega
end Go.Proofs.YthpdlbcdbncnhaaGreatDoor
