/-
  Calls: a task is made.
-/
import Derived.Test.YteagpjlgjfaclaaGreatDoorTaskDel
import Derived.Test.YteagpjlgjfaclaaGreatDoorCallLaws
import Derived.Test.YteagpjlgjfaclaaGreatDoorTaskNew
import Derived.Test.YteagpjlgjfaclaaGreatDoorSysShares
import Derived.Test.YteagpjlgjfaclaaGreatDoorSysLocks
import Derived.Test.YteagpjlgjfaclaaGreatDoorPickSpec
import Derived.Test.YteagpjlgjfaclaaGreatDoorLockCopy
import Derived.Deep.Cut
import Derived.Deep.CutBlock
namespace Go.Proofs.YteagpjlgjfaclaaGreatDoor
set_option maxRecDepth 100000
open Go.RowKit
attribute [local go_sem] aa.refl aa.alloc aa.drew aa.drewN
theorem vN {α:Type} {P:Program} {ops:Array Oper} {o:Oper} {a:Act} {w:World} {K:Act->World->Prop} {Q:Exit->Act->World->Prop} {E:Prop}
  (hw:Region.wanted o (yielded ops a.tmps)=true) (s x:Operand) (t:TypeId) (hop:o.op=Op.call { callee:=Callee.builtin Builtin.append,args:=#[s,x],argTypes:=#[t,t] })
  (base:Nat) (e:TypeId) (z:Value) (sz bytes:Nat) (c:α->Array Value) (ht:P.underlying t=some (.slice e)) (hinfo:(P.info? e).map (fun i=>(i.zero,i.size,i.bytes))=some (some z,sz,bytes))
  (hzs:z.cells.size=sz) (hsz:0 < sz) (hc:∀ x,(c x).size=sz) (h1:∀ x,∀ u∈(c x).toList,u.oneCell'=true)
  (v:Value) (xs:List α) (hs:a.eval s=v) (hown:Own e sz c w base v xs) (hbase:base <= w.heap.size)
  (y:α) (b cp:Nat) (hb:aq w b (c y)) (hx:a.eval x = .slice (some ⟨b,0,none⟩) 1 cp)
  (h63:xs.length+1 <= maxLen) (hbytes:(xs.length+1)*bytes <= 140737488355328)
  (hK:∀ v' w',Own e sz c w' base v' (xs++[y])->w.grownBy w' v.ownBlock->(∀ k,v'.ownBlock=some k->v.ownBlock=some k∨k=w.heap.size)->K (a.put o.dst v') w') :
  if Region.wanted o (yielded ops a.tmps)=true then Oper.wp P o a w K Q else E:=by
 rw [if_pos hw]
 have hl:cm sz c w (some ⟨b,0,none⟩) [y]:=by
  refine .inr ⟨_,_,rfl,hb.lt,fun i x hx k hk => ?_⟩
  cases i with
  | zero=>simp at hx;subst hx;simpa using hb.cells k
  | succ i=>simp at hx
 obtain ⟨v',w',hrun,r1,r2,r3⟩:=qS (P:=P) w base t o.type e z sz bytes c ht hinfo hzs hsz hc h1 v xs hown hbase [y] b 0 cp hl h63 hbytes
 simp only [List.length_cons,List.length_nil,Nat.zero_add] at hrun
 unfold Oper.wp
 simp [execOp,hop,resolve,invoke,builtin,hs,hx,hrun,Result.andThen]
 exact hK v' w' r1 r2 r3
theorem aA.put {w w':World} {v:Sv} {s:Sy} (h:aA w v s) (k:aa w w') (t:ar) {pb:Bool} (hp:dD s.tasks t=pb) :
  Calls Tryz.prog 99 #[.slice v.t.a v.t.n v.t.cap,tk t] w' fun e w''=>∃ u,e = .returned (.tuple #[u,.bool pb]) /\ dr w'' w'.heap.size u (bY s.tasks t) /\ aa w' w'':=by
 have h':=h.keeps k
 have hn:=h'.lay.tl
 rcases h'.tc with ⟨e1,e2,e3⟩ | ⟨b,off,e1,-,-⟩
 ·have e:s.tasks=[]:=List.eq_nil_of_length_eq_zero (hn.trans e2)
  rw [e1,e2,e3,<- hp,e]
  exact Ci t w'
 ·have hl:=h'.lay.t
  rw [e1] at hl ⊢
  have:=vO b off v.t.cap s.tasks t w' (by rw [hn];exact h'.lay.tm) hl
  rw [hn,hp] at this
  exact this
set_option linter.unusedSimpArgs false in
set_option maxHeartbeats 20000000 in
theorem Bc {w:World} {lo:Nat} {v:Sv} {vs:List Lv} {s:Sy} (h:ay w lo v vs s) (hl:lo <= w.heap.size) (R:cx s) (c:Cl) :
  Calls Tryz.prog 82 #[.agg (ae s v),ck c] w (eQ w lo v vs (eJ s c) (im s c)):=by
 obtain ⟨⟨ta,tn,ag⟩,⟨la,ln,ah⟩,⟨ga,gn,ai⟩,⟨fa,fn,aj⟩,⟨ra,rn,ao⟩⟩:=v
 obtain ⟨fl,jz⟩:∃ z,Hid (lT s c.cpu=z):=⟨_,rfl⟩
 obtain ⟨ft,sN⟩:∃ z,Hid (dV (kE c.no c.cpu c.a fl)=z):=⟨_,rfl⟩
 obtain ⟨fb,sO⟩:∃ z,Hid (bN (kE c.no c.cpu c.a fl)=z):=⟨_,rfl⟩
 obtain ⟨mt,py⟩:∃ z,Hid (lj s c=z):=⟨_,rfl⟩
 obtain ⟨mb,qT⟩:∃ z,Hid (pz s c=z):=⟨_,rfl⟩
 obtain ⟨pa,eB⟩:∃ z,Hid (dc s.tasks c.no=z):=⟨_,rfl⟩
 obtain ⟨pb,vP⟩:∃ z,Hid (dD s.tasks mt=z):=⟨_,rfl⟩
 obtain ⟨sf,sP⟩:∃ z,Hid (ji (dH s c.cpu++[(c.a,c.b)])=z):=⟨_,rfl⟩
 obtain ⟨rm,qU⟩:∃ z,Hid ((pb&&(!(c.kind==1)||sf))=z):=⟨_,rfl⟩
 have dJ:Hid (eJ s c=if decide (s.az <= c.cpu) || !mb then 1 else if decide (0 <= pa) then 3 else if !rm||(c.kind==2&&decide (900000 < s.seq)) then 4 else 0):=by
  show _=_
  have e1:ct s.tasks c.no=decide (0 <= pa):=by unfold ct;rw [eB.out,Bool.eq_iff_iff];simp
  unfold eJ vQ
  rw [qT.out,e1,py.out,vP.out,sP.out,qU.out]
 have kR:Hid (im s c={ (s:Sy) with tasks:=bY s.tasks mt,seq:=if c.kind==2 then s.seq+1 else s.seq }):=by show _=_;unfold im;rw [py.out]
 obtain ⟨hq0,hq1⟩:=R.seq
 have hwq:IntKind.i64.wrap (s.seq+1)=s.seq+1:=Go.IntWalk.i64_in _ (by omega)
 have hsm:=R.small
 have hsl:Hid ((dH s c.cpu).length <= 100):=by
  show _ <= _
  have h1:=R.few
  have a1:=List.length_filter_le (eE c.cpu) s.tasks
  have a2:=List.length_filter_le (df c.cpu) s.af
  unfold dH
  simp only [List.length_append,List.length_map]
  omega
 obtain ⟨dj,dx,kZ⟩:=et h hl c
 have C0:Hid (aq _ (w.heap.size+1) (cc c)):=dx
 have A0:Hid (aQ w lo _ vs _ w.heap.size (w.heap.size+2) _ vs s):=dj
 have HS:Hid (aA _ _ s):=(h.on (by have:=R.small;omega)).keeps kZ
 clear dj dx h
 go_enter Tryz.func82,Tryz.ntmps82
 go_upto_region 1 with fail
 change Code.wp _ _ _ _ (cO w ⟨⟨ta,tn,ag⟩,⟨la,ln,ah⟩,⟨ga,gn,ai⟩,⟨fa,fn,aj⟩,⟨ra,rn,ao⟩⟩ s c)
 generalize cO w ⟨⟨ta,tn,ag⟩,⟨la,ln,ah⟩,⟨ga,gn,ai⟩,⟨fa,fn,aj⟩,⟨ra,rn,ao⟩⟩ s c=Z at *
 have hb0:∀ w',aa Z w'->∀ q,w'.cell? ⟨w.heap.size,q,none⟩=(ae s ⟨⟨ta,tn,ag⟩,⟨la,ln,ah⟩,⟨ga,gn,ai⟩,⟨fa,fn,aj⟩,⟨ra,rn,ao⟩⟩)[q]?:=fun w' k=>(A0.out.g.var.box.keeps k).cells
 dsimp only [ae] at hb0
 have hc0:∀ w',aa Z w'->∀ q,w'.cell? ⟨w.heap.size+1,q,none⟩=(cc c)[q]?:=fun w' k=>(C0.out.keeps k).cells
 have FL:Hid (∀ w',aa Z w'->Calls Tryz.prog 143 #[.agg (ae s ⟨⟨ta,tn,ag⟩,⟨la,ln,ah⟩,⟨ga,gn,ai⟩,⟨fa,fn,aj⟩,⟨ra,rn,ao⟩⟩),.int .i64 c.cpu] w' fun e w''=>e = .returned (.int .i64 fl) /\ aa w' w''):=fun w' kk=>by
  have:=Cu (HS.out.keeps kk) c.cpu
  rw [jz.out] at this
  exact this
 have NF:Hid (∀ w',Calls Tryz.prog 142 #[.int .i64 c.no,.int .i64 c.cpu,.int .i64 c.a,.int .i64 fl] w' fun e w''=>e = .returned (.tuple #[tk ft,.bool fb]) /\ aa w' w''):=fun w'=>by
  have:=vR c.no c.cpu c.a fl w'
  rw [sN.out,sO.out] at this
  exact this
 go_cut [6,7] (fun p b wx=>∃ nb,p = .pointer (some ⟨nb,0,none⟩) /\ b = .bool fb /\ Z.heap.size <= nb /\ Hid (aq wx nb (tc ft)) /\ aa Z wx)
 case first =>
  refine wp_region_held_drew (S:=fun w'=>aa Z w') (by kernel_rfl) ?_ (fun hHeld => ?_)
  ·exact (aa.refl Z).drew
  refine ad.go [0,1,2,3,4,5,6,7,8] ?_
  iterate 9 (refine aM (h := ?_);try simp only [au])
  refine ad.nil ?_
  refine wpAnyH_ready (rs:=[9,14]) (by kernel_rfl) (by simp) ?_
  refine AllReadyH.cons (by simp only [List.getElem?_toArray,List.getElem?_cons_succ,List.getElem?_cons_zero];rfl) (fun K hK => ?_) (AllReadyH.cons (by simp only [List.getElem?_toArray,List.getElem?_cons_succ,List.getElem?_cons_zero];rfl) (fun K hK => ?_) AllReadyH.nil)
  ·go_simp
   (go_at_call 143;refine (FL.out _ (by first | assumption | exact aa.alloc (by assumption) _)).mono ?_;rintro e w3 ⟨rfl,k3⟩)
   try go_wp2_with fail
   refine hK.out _ _ ?_ fun hHeld => ?_
   ·exact aa.trans (by assumption) (by assumption)
   clear hK K
   try simp only [au]
   refine wpAnyH_ready (rs:=[10,14]) (by kernel_rfl) (by simp) ?_
   refine AllReadyH.cons (by simp only [List.getElem?_toArray,List.getElem?_cons_succ,List.getElem?_cons_zero];rfl) (fun K hK => ?_) (AllReadyH.cons (by simp only [List.getElem?_toArray,List.getElem?_cons_succ,List.getElem?_cons_zero];rfl) (fun K hK => ?_) AllReadyH.nil)
   ·go_simp
    (go_at_call 142;refine (NF.out _).mono ?_;rintro e w4 ⟨rfl,k4⟩)
    try go_wp2_with fail
    refine hK.out _ _ ?_ fun hHeld => ?_
    ·exact aa.trans (by assumption) (by assumption)
    clear hK K
    try simp only [au]
    refine ad.go [11,12,13] ?_
    iterate 3 (refine aM (h := ?_);try simp only [au])
    refine ad.nil ?_
    refine aR 14 (h:=fun K hK => ?_)
    go_simp
    try go_wp2_with fail
    refine hK.out _ _ ?_ fun hHeld => ?_
    ·exact aa.alloc (by assumption) _
    clear hK K
    try simp only [au]
    refine aR 15 (h:=fun K hK => ?_)
    have hnb:Z.heap.size <= w4.heap.size:=aa.size (by assumption:aa Z w4)
    go_simp
    try go_wp2_with fail
    refine hK.out _ (w4.alloc (.cells (tc ft) 43)) ?_ (fun hHeld => ?_)
    ·exact aa.alloc (by assumption) _
    clear hK K
    try simp only [au]
    have hBN:Hid (aq (w4.alloc (.cells (tc ft) 43)) (w4.heap.size) (tc ft)):=aq.new _ _ _
    generalize w4.alloc (.cells (tc ft) 43)=XW at *
    refine di 16 (h := ?_)
    try simp only [au]
    refine wpAnyH_done (by kernel_rfl) ?_ _
    go_wp2_with fail
    go_meet
    exact ⟨(w4.heap.size),rfl,rfl,hnb,hBN,by assumption⟩
   ·go_simp
    try go_wp2_with fail
    refine hK.out _ _ ?_ fun hHeld => ?_
    ·exact aa.alloc (by assumption) _
    clear hK K
    try simp only [au]
    refine aR 10 (h:=fun K hK => ?_)
    go_simp
    (go_at_call 142;refine (NF.out _).mono ?_;rintro e w4 ⟨rfl,k4⟩)
    try go_wp2_with fail
    refine hK.out _ _ ?_ fun hHeld => ?_
    ·exact aa.trans (by assumption) (by assumption)
    clear hK K
    try simp only [au]
    refine ad.go [11,12,13] ?_
    iterate 3 (refine aM (h := ?_);try simp only [au])
    refine ad.nil ?_
    refine aR 15 (h:=fun K hK => ?_)
    have gB:aq w4 (w3.heap.size) (tc ar.zero):=(aq.new (w3) (tc ar.zero) 43).keeps (k4)
    have gC:Hid (aq w4 (w3.heap.size) (tc ar.zero)):=gB
    obtain ⟨_,iz,iA⟩:=gB
    have hnb:Z.heap.size <= w3.heap.size:=aa.size (by assumption:aa Z w3)
    go_simp
    try go_wp2_with fail
    refine hK.out _ (putC w4 (w3.heap.size) 0 (tc ft).toList) ?_ (fun hHeld => ?_)
    ·exact aa.putC (b:=w3.heap.size) hnb (tc ft).toList 0 (by assumption)
    clear hK K
    try simp only [au]
    have hBN:Hid (aq (putC w4 (w3.heap.size) 0 (tc ft).toList) (w3.heap.size) (tc ft)):=gC.out.putC (tc ft).toList rfl
    clear iz iA gC
    generalize putC w4 (w3.heap.size) 0 (tc ft).toList=XW at *
    refine di 16 (h := ?_)
    try simp only [au]
    refine wpAnyH_done (by kernel_rfl) ?_ _
    go_wp2_with fail
    go_meet
    exact ⟨(w3.heap.size),rfl,rfl,hnb,hBN,by assumption⟩
  ·go_simp
   try go_wp2_with fail
   refine hK.out _ _ ?_ fun hHeld => ?_
   ·exact aa.alloc (by assumption) _
   clear hK K
   try simp only [au]
   refine aR 9 (h:=fun K hK => ?_)
   go_simp
   (go_at_call 143;refine (FL.out _ (by first | assumption | exact aa.alloc (by assumption) _)).mono ?_;rintro e w3 ⟨rfl,k3⟩)
   try go_wp2_with fail
   refine hK.out _ _ ?_ fun hHeld => ?_
   ·exact aa.trans (by assumption) (by assumption)
   clear hK K
   try simp only [au]
   refine aR 10 (h:=fun K hK => ?_)
   go_simp
   (go_at_call 142;refine (NF.out _).mono ?_;rintro e w4 ⟨rfl,k4⟩)
   try go_wp2_with fail
   refine hK.out _ _ ?_ fun hHeld => ?_
   ·exact aa.trans (by assumption) (by assumption)
   clear hK K
   try simp only [au]
   refine ad.go [11,12,13] ?_
   iterate 3 (refine aM (h := ?_);try simp only [au])
   refine ad.nil ?_
   refine aR 15 (h:=fun K hK => ?_)
   have gB:aq w4 (Z.heap.size) (tc ar.zero):=(aq.new (Z.drew) (tc ar.zero) 43).keeps ((k3).trans k4)
   have gC:Hid (aq w4 (Z.heap.size) (tc ar.zero)):=gB
   obtain ⟨_,iz,iA⟩:=gB
   have hnb:Z.heap.size <= Z.heap.size:=Nat.le_refl _
   go_simp
   try go_wp2_with fail
   refine hK.out _ (putC w4 (Z.heap.size) 0 (tc ft).toList) ?_ (fun hHeld => ?_)
   ·exact aa.putC (b:=Z.heap.size) hnb (tc ft).toList 0 (by assumption)
   clear hK K
   try simp only [au]
   have hBN:Hid (aq (putC w4 (Z.heap.size) 0 (tc ft).toList) (Z.heap.size) (tc ft)):=gC.out.putC (tc ft).toList rfl
   clear iz iA gC
   generalize putC w4 (Z.heap.size) 0 (tc ft).toList=XW at *
   refine di 16 (h := ?_)
   try simp only [au]
   refine wpAnyH_done (by kernel_rfl) ?_ _
   go_wp2_with fail
   go_meet
   exact ⟨(Z.heap.size),rfl,rfl,hnb,hBN,by assumption⟩
 case rest =>
 obtain ⟨nb,rfl,rfl,hnb,BN,kx⟩:=hcut
 generalize wc=wx at *
 clear FL NF
 have hbx:∀ w',aa wx w'->∀ j,w'.cell? ⟨w.heap.size,j,none⟩=_:=fun w' kk=>hb0 w' (kx.trans kk)
 have hcx:∀ w',aa wx w'->∀ j,w'.cell? ⟨w.heap.size+1,j,none⟩=_:=fun w' kk=>hc0 w' (kx.trans kk)
 go_upto_block 0 with fail
 go_cut [7] (fun b wy=>b = .bool mb /\ Hid (aq wy nb (tc mt)) /\ aa Z wy)
 case first =>
  cases c1:(c.kind==1)
  rotate_left
  ·obtain ⟨dt,pA⟩:∃ z,Hid (j0 c.no c.cpu c.a c.b s.now=z):=⟨_,rfl⟩
   obtain ⟨db,pC⟩:∃ z,Hid (kF c.no c.cpu c.a c.b s.now=z):=⟨_,rfl⟩
   have e1:mt=dt:=by rw [<- py.out,<- pA.out];unfold lj;rw [c1];rfl
   have e2:mb=db:=by rw [<- qT.out,<- pC.out];unfold pz;rw [c1];rfl
   have ND:Hid (∀ w',Calls Tryz.prog 144 #[.int .i64 c.no,.int .i64 c.cpu,.int .i64 c.a,.int .i64 c.b,.int .i64 s.now] w' fun e w''=>e = .returned (.tuple #[tk dt,.bool db]) /\ aa w' w''):=fun w'=>by
    have:=vS c.no c.cpu c.a c.b s.now w'
    rw [pA.out,pC.out] at this
    exact this
   go_wp2_with (go_at_call 144;refine (ND.out _).mono ?_;rintro e w5 ⟨rfl,k5⟩;obtain ⟨_,iz,iA⟩:=BN.out.keeps k5)
   go_meet
   exact ⟨by rw [e2],by rw [e1];exact (BN.out.keeps k5).putC (tc dt).toList rfl,aa.putC (b:=nb) hnb (tc dt).toList 0 (kx.trans k5)⟩
  cases c2:(c.kind==2)
  rotate_left
  ·obtain ⟨dt,pA⟩:∃ z,Hid (dV (fN c.no c.cpu c.a c.b (s.seq+1))=z):=⟨_,rfl⟩
   obtain ⟨db,pC⟩:∃ z,Hid (bN (fN c.no c.cpu c.a c.b (s.seq+1))=z):=⟨_,rfl⟩
   have e1:mt=dt:=by rw [<- py.out,<- pA.out];unfold lj;rw [c1,c2];rfl
   have e2:mb=db:=by rw [<- qT.out,<- pC.out];unfold pz;rw [c1,c2];rfl
   have ND:Hid (∀ w',Calls Tryz.prog 145 #[.int .i64 c.no,.int .i64 c.cpu,.int .i64 c.a,.int .i64 c.b,.int .i64 (s.seq+1)] w' fun e w''=>e = .returned (.tuple #[tk dt,.bool db]) /\ aa w' w''):=fun w'=>by
    have:=vT c.no c.cpu c.a c.b (s.seq+1) w'
    rw [pA.out,pC.out] at this
    exact this
   go_wp2_with (go_at_call 145;refine (ND.out _).mono ?_;rintro e w5 ⟨rfl,k5⟩;obtain ⟨_,iz,iA⟩:=BN.out.keeps k5)
   go_meet
   exact ⟨by rw [e2],by rw [e1];exact (BN.out.keeps k5).putC (tc dt).toList rfl,aa.putC (b:=nb) hnb (tc dt).toList 0 (kx.trans k5)⟩
  have e1:mt=ft:=by rw [<- py.out,<- sN.out,<- jz.out];unfold lj;rw [c1,c2];rfl
  have e2:mb=fb:=by rw [<- qT.out,<- sO.out,<- jz.out];unfold pz;rw [c1,c2];rfl
  go_wp2
  go_meet
  exact ⟨by rw [e2],by rw [e1];exact BN,kx⟩
 case rest =>
 obtain ⟨rfl,BM,ky⟩:=hcut
 generalize wc=wy at *
 clear hbx hcx BN kx jz sN sO hnb
 have hby:∀ w',aa wy w'->∀ j,w'.cell? ⟨w.heap.size,j,none⟩=_:=fun w' kk=>hb0 w' (ky.trans kk)
 have hcy:∀ w',aa wy w'->∀ j,w'.cell? ⟨w.heap.size+1,j,none⟩=_:=fun w' kk=>hc0 w' (ky.trans kk)
 have hty:∀ w',aa wy w'->∀ j,w'.cell? ⟨nb,j,none⟩=(tc mt)[j]?:=fun w' kk=>(BM.out.keeps kk).cells
 clear hb0 hc0
 have CY:Hid (aq wy (w.heap.size+1) (cc c)):=C0.out.keeps ky
 have AY:Hid (aQ w lo ⟨⟨ta,tn,ag⟩,⟨la,ln,ah⟩,⟨ga,gn,ai⟩,⟨fa,fn,aj⟩,⟨ra,rn,ao⟩⟩ vs wy w.heap.size (w.heap.size+2) ⟨⟨ta,tn,ag⟩,⟨la,ln,ah⟩,⟨ga,gn,ai⟩,⟨fa,fn,aj⟩,⟨ra,rn,ao⟩⟩ vs s):=A0.out.keeps ky
 have SY:Hid (aA wy ⟨⟨ta,tn,ag⟩,⟨la,ln,ah⟩,⟨ga,gn,ai⟩,⟨fa,fn,aj⟩,⟨ra,rn,ao⟩⟩ s):=HS.out.keeps ky
 clear A0 HS
 cases e1:decide (s.az <= c.cpu)
 rotate_left
 ·have HN:Hid (eJ s c=1):=by show _=_;rw [dJ.out,e1];rfl
  have AE:=AY.out
  obtain ⟨_,o1,o2⟩:=AE.g.var.box
  dsimp only [ae] at o1
  obtain ⟨_,r1,r2⟩:=AE.r
  go_wp2
  exact AE.ret HN.out (fun h=>absurd h (by decide)) rfl (fun Q D=>by simp [results,Tryz.results82,go_sem,D])
 cases mb
 ·have HN:Hid (eJ s c=1):=by show _=_;rw [dJ.out,e1];rfl
  have AE:=AY.out
  obtain ⟨_,o1,o2⟩:=AE.g.var.box
  dsimp only [ae] at o1
  obtain ⟨_,r1,r2⟩:=AE.r
  go_wp2
  exact AE.ret HN.out (fun h=>absurd h (by decide)) rfl (fun Q D=>by simp [results,Tryz.results82,go_sem,D])
 cases e3:decide (0 <= pa)
 rotate_left
 ·have HN:Hid (eJ s c=3):=by show _=_;rw [dJ.out,e1,e3];rfl
  go_wp2_with (go_at_call 71;refine (SY.out.gF.aU c.no eB.out (aa.refl _)).mono ?_;rintro e w3 ⟨rfl,k3⟩;have AE:=AY.out.keeps k3;obtain ⟨_,o1,o2⟩:=AE.g.var.box;dsimp only [ae] at o1;obtain ⟨_,r1,r2⟩:=AE.r)
  exact AE.ret HN.out (fun h=>absurd h (by decide)) rfl (fun Q D=>by simp [results,Tryz.results82,go_sem,D])
 go_upto_region 11 with (go_at_call 71;refine (SY.out.gF.aU c.no eB.out (aa.refl _)).mono ?_;rintro e w3 ⟨rfl,k3⟩)
 have PU:Hid (∀ w',aa wy w'->Calls Tryz.prog 99 #[.slice ta tn ag,tk mt] w' fun e w''=>∃ u,e = .returned (.tuple #[u,.bool pb]) /\ dr w'' w'.heap.size u (bY s.tasks mt) /\ aa w' w''):=fun w' kk=>SY.out.put kk mt vP.out
 go_upto_if 85 with (go_at_call 99;refine (PU.out _ (by first | assumption | exact k3)).mono ?_;rintro e w4 ⟨u4,rfl,o4,k4⟩;have K4:aa wy w4:=k3.trans k4)
 obtain ⟨a4,c4,e4⟩:=o4.form cF
 obtain ⟨n4,Cv⟩:∃ n,Hid ((bY s.tasks mt).length=n):=⟨_,rfl⟩
 rw [Cv.out] at e4
 subst e4
 have O4:Hid (dr w4 w3.heap.size (.slice a4 n4 c4) (bY s.tasks mt)):=o4
 clear o4 PU
 go_cut [9] (fun b wz=>b = .bool rm /\ aa w4 wz)
 case first =>
  have hb4:∀ w',aa w4 w'->∀ j,w'.cell? ⟨w.heap.size,j,none⟩=_:=fun w' kk=>hby w' (K4.trans kk)
  have hc4:∀ w',aa w4 w'->∀ j,w'.cell? ⟨w.heap.size+1,j,none⟩=_:=fun w' kk=>hcy w' (K4.trans kk)
  cases c1:(c.kind==1)
  ·have hr:rm=pb:=by rw [<- qU.out,c1];simp
   go_wp2
   go_meet
   exact ⟨by rw [hr],aa.refl _⟩
  cases pb
  ·have hr:rm=false:=by rw [<- qU.out];rfl
   go_upto_region 13 with fail
   refine wp_region_held_drew (S:=(fun w'=>aa w4 w')) (by kernel_rfl) ?_ (fun hHeld => ?_)
   ·exact (aa.refl w4).drew
   refine ad.go [0,1] ?_
   iterate 2 (refine aM (h := ?_);try simp only [au])
   refine ad.nil ?_
   refine ad.go [2,3,4,5,6,7,8,9,10,11,12,13] ?_
   iterate 12 (refine dK (h := ?_);try simp only [au])
   refine ad.nil ?_
   refine ad.go [14,15] ?_
   iterate 2 (refine aM (h := ?_);try simp only [au])
   refine ad.nil ?_
   refine wpAnyH_done (by kernel_rfl) ?_ _
   go_wp2
   go_meet
   exact ⟨by rw [hr],by first | assumption | exact (aa.refl _).drew⟩
  have hr:rm=sf:=by rw [<- qU.out,c1];simp
  go_upto_region 13 with fail
  have S4:Hid (aA w4 ⟨⟨ta,tn,ag⟩,⟨la,ln,ah⟩,⟨ga,gn,ai⟩,⟨fa,fn,aj⟩,⟨ra,rn,ao⟩⟩ s):=SY.out.keeps K4
  refine wp_region_held_drew (S:=fun w'=>aa w4 w') (by kernel_rfl) ?_ (fun hHeld => ?_)
  ·exact (aa.refl w4).drew
  refine ad.go [0,1,2,3,4,6,7,8,9,10] ?_
  iterate 10 (refine aM (h := ?_);try simp only [au])
  refine ad.nil ?_
  refine wpAnyH_ready (rs:=[5,11]) (by kernel_rfl) (by simp) ?_
  refine AllReadyH.cons (by simp only [List.getElem?_toArray,List.getElem?_cons_succ,List.getElem?_cons_zero];rfl) (fun K hK => ?_) (AllReadyH.cons (by simp only [List.getElem?_toArray,List.getElem?_cons_succ,List.getElem?_cons_zero];rfl) (fun K hK => ?_) AllReadyH.nil)
  ·go_simp
   (go_at_call 32;refine (sQ (S4.out.keeps (aa.refl _).drew) c.cpu).mono ?_;rintro e w6 ⟨u6,rfl,o6,k6⟩;obtain ⟨a6,c6,e6⟩:=o6.form iR;obtain ⟨n6,mq⟩:∃ n,Hid ((dH s c.cpu).length=n):=⟨_,rfl⟩;rw [mq.out] at e6;subst e6)
   try go_wp2_with fail
   refine hK.out _ _ ?_ fun hHeld => ?_
   ·exact aa.trans (by assumption) (by assumption)
   clear hK K
   try simp only [au]
   have K6:aa w4 w6:=hHeld
   refine aR 11 (h:=fun K hK => ?_)
   go_simp
   try go_wp2_with fail
   refine hK.out _ _ ?_ fun hHeld => ?_
   ·exact aa.alloc (by assumption) _
   clear hK K
   try simp only [au]
   refine aR 12 (h:=fun K hK => ?_)
   (refine vN (by rfl) (.tmp 91) (.tmp 97) 46 rfl w4.heap.size 51 (.agg (pc (0,0))) 2 16 pc Tryz.underlying46 (by kernel_rfl) rfl (by decide) iR nV (.slice a6 n6 c6) (dH s c.cpu) (by simp [Act.eval]) ((o6.base (by simp)).alloc _) (by have:=K6.size;simp;omega) (c.a,c.b) _ 1 (aq.new _ _ _) (by simp [Act.eval]) (by have:=hsl.out;unfold maxLen;omega) (by have:=hsl.out;omega) ?_)
   intro v7 w7 o7 g7 f7
   obtain ⟨a7,c7,e7⟩:=o7.form iR
   obtain ⟨n7,sR⟩:∃ n,Hid ((dH s c.cpu++[(c.a,c.b)]).length=n):=⟨_,rfl⟩
   rw [sR.out] at e7
   subst e7
   refine hK.out _ _ ?_ fun hHeld => ?_
   ·exact (K6.alloc _).grown g7 (fun q hq=>Nat.le_trans (by simp) (o6.cr q hq).1)
   clear hK K
   try simp only [au]
   refine aR 13 (h:=fun K hK => ?_)
   go_simp
   (go_at_call 31;refine (sS o7).mono ?_;rintro e w8 ⟨rfl,k8⟩;rw [sP.out])
   try go_wp2_with fail
   refine hK.out _ _ ?_ fun hHeld => ?_
   ·exact aa.trans (by assumption) (by assumption)
   clear hK K
   try simp only [au]
   refine ad.go [14,15] ?_
   iterate 2 (refine aM (h := ?_);try simp only [au])
   refine ad.nil ?_
   refine wpAnyH_done (by kernel_rfl) ?_ _
   go_wp2
   go_meet
   exact ⟨by rw [hr],by assumption⟩
  ·go_simp
   try go_wp2_with fail
   refine hK.out _ _ ?_ fun hHeld => ?_
   ·exact aa.alloc (by assumption) _
   clear hK K
   try simp only [au]
   refine aR 5 (h:=fun K hK => ?_)
   go_simp
   (go_at_call 32;refine (sQ (S4.out.keeps (by assumption)) c.cpu).mono ?_;rintro e w6 ⟨u6,rfl,o6,k6⟩;obtain ⟨a6,c6,e6⟩:=o6.form iR;obtain ⟨n6,mq⟩:∃ n,Hid ((dH s c.cpu).length=n):=⟨_,rfl⟩;rw [mq.out] at e6;subst e6)
   try go_wp2_with fail
   refine hK.out _ _ ?_ fun hHeld => ?_
   ·exact aa.trans (by assumption) (by assumption)
   clear hK K
   try simp only [au]
   have K6:aa w4 w6:=hHeld
   refine aR 12 (h:=fun K hK => ?_)
   (refine vN (by rfl) (.tmp 91) (.tmp 97) 46 rfl w4.heap.size 51 (.agg (pc (0,0))) 2 16 pc Tryz.underlying46 (by kernel_rfl) rfl (by decide) iR nV (.slice a6 n6 c6) (dH s c.cpu) (by simp [Act.eval]) (o6.base (by simp)) (by have:=K6.size;omega) (c.a,c.b) _ 1 (((aq.new _ _ _).keeps (aa.refl _).drew).keeps k6) (by simp [Act.eval]) (by have:=hsl.out;unfold maxLen;omega) (by have:=hsl.out;omega) ?_)
   intro v7 w7 o7 g7 f7
   obtain ⟨a7,c7,e7⟩:=o7.form iR
   obtain ⟨n7,sR⟩:∃ n,Hid ((dH s c.cpu++[(c.a,c.b)]).length=n):=⟨_,rfl⟩
   rw [sR.out] at e7
   subst e7
   refine hK.out _ _ ?_ fun hHeld => ?_
   ·exact K6.grown g7 (fun q hq=>Nat.le_trans (by simp) (o6.cr q hq).1)
   clear hK K
   try simp only [au]
   refine aR 13 (h:=fun K hK => ?_)
   go_simp
   (go_at_call 31;refine (sS o7).mono ?_;rintro e w8 ⟨rfl,k8⟩;rw [sP.out])
   try go_wp2_with fail
   refine hK.out _ _ ?_ fun hHeld => ?_
   ·exact aa.trans (by assumption) (by assumption)
   clear hK K
   try simp only [au]
   refine ad.go [14,15] ?_
   iterate 2 (refine aM (h := ?_);try simp only [au])
   refine ad.nil ?_
   refine wpAnyH_done (by kernel_rfl) ?_ _
   go_wp2
   go_meet
   exact ⟨by rw [hr],by assumption⟩
 case rest =>
 obtain ⟨rfl,kz⟩:=hcut
 generalize wc=wz at *
 have O5:Hid (dr wz wy.heap.size (.slice a4 n4 c4) (bY s.tasks mt)):=(O4.out.keeps kz).base k3.size
 have K5:aa wy wz:=K4.trans kz
 clear O4 kz
 have lr:∀ b:Bool,(!rm||(c.kind==2&&decide (900000 < s.seq)))=b->Hid (eJ s c=if b then 4 else 0):=fun b hb=>by
  show _=_
  rw [dJ.out,e1,e3,hb]
  rfl
 cases rm
 ·have HN:Hid (eJ s c=4):=lr true rfl
  have AE:=AY.out.keeps K5
  obtain ⟨_,o1,o2⟩:=AE.g.var.box
  dsimp only [ae] at o1
  obtain ⟨_,r1,r2⟩:=AE.r
  go_wp2
  exact AE.ret HN.out (fun h=>absurd h (by decide)) rfl (fun Q D=>by simp [results,Tryz.results82,go_sem,D])
 cases k2:(c.kind==2)
 ·have HN:Hid (eJ s c=0):=lr false (by rw [k2];rfl)
  have HC:Hid ({ (s:Sy) with tasks:=bY s.tasks mt }=im s c):=by show _=_;rw [kR.out,k2];rfl
  have AN:Hid (aQ w lo ⟨⟨ta,tn,ag⟩,⟨la,ln,ah⟩,⟨ga,gn,ai⟩,⟨fa,fn,aj⟩,⟨ra,rn,ao⟩⟩ vs (wz.setCell ⟨w.heap.size,2,none⟩ (.slice a4 n4 c4)) w.heap.size (w.heap.size+2) ⟨⟨a4,n4,c4⟩,⟨la,ln,ah⟩,⟨ga,gn,ai⟩,⟨fa,fn,aj⟩,⟨ra,rn,ao⟩⟩ vs { (s:Sy) with tasks:=bY s.tasks mt }):=AY.out.tasks K5 (x:=⟨a4,n4,c4⟩) O5.out
  obtain ⟨_,p1,p2⟩:=(AY.out.keeps K5).g.var.box
  dsimp only [ae] at p1
  obtain ⟨_,Cw,Cx⟩:=(CY.out.keeps K5).far (c:=w.heap.size) (by omega) (Value.slice a4 n4 c4) (o:=2)
  obtain ⟨_,Cy,Cz⟩:=(AY.out.keeps K5).r
  have hsz:w.heap.size+2≠w.heap.size:=by omega
  have hsz1:w.heap.size+1≠w.heap.size:=by omega
  have AE:=AN.out
  obtain ⟨_,o1,o2⟩:=AE.g.var.box
  dsimp only [ae] at o1
  obtain ⟨_,r1,r2⟩:=AE.r
  go_wp2
  exact AE.ret HN.out (fun _=>HC.out) rfl (fun Q D=>by simp [results,Tryz.results82,go_sem,D])
 cases q9:decide (900000 < s.seq)
 rotate_left
 ·have HN:Hid (eJ s c=4):=lr true (by rw [k2,q9];rfl)
  have Kb:900000 < s.seq:=by simpa using q9
  have AE:=AY.out.keeps K5
  obtain ⟨_,o1,o2⟩:=AE.g.var.box
  dsimp only [ae] at o1
  obtain ⟨_,r1,r2⟩:=AE.r
  go_wp2
  exact AE.ret HN.out (fun h=>absurd h (by decide)) rfl (fun Q D=>by simp [results,Tryz.results82,go_sem,D])
 have HN:Hid (eJ s c=0):=lr false (by rw [k2,q9];rfl)
 have HC:Hid ({ (s:Sy) with tasks:=bY s.tasks mt,seq:=s.seq+1 }=im s c):=by show _=_;rw [kR.out,k2];rfl
 have AN:Hid (aQ w lo ⟨⟨ta,tn,ag⟩,⟨la,ln,ah⟩,⟨ga,gn,ai⟩,⟨fa,fn,aj⟩,⟨ra,rn,ao⟩⟩ vs (wz.setCell ⟨w.heap.size,2,none⟩ (.slice a4 n4 c4)) w.heap.size (w.heap.size+2) ⟨⟨a4,n4,c4⟩,⟨la,ln,ah⟩,⟨ga,gn,ai⟩,⟨fa,fn,aj⟩,⟨ra,rn,ao⟩⟩ vs { (s:Sy) with tasks:=bY s.tasks mt }):=AY.out.tasks K5 (x:=⟨a4,n4,c4⟩) O5.out
 obtain ⟨_,p1,p2⟩:=(AY.out.keeps K5).g.var.box
 dsimp only [ae] at p1
 obtain ⟨_,Cw,Cx⟩:=(CY.out.keeps K5).far (c:=w.heap.size) (by omega) (Value.slice a4 n4 c4) (o:=2)
 obtain ⟨_,Cy,Cz⟩:=(AY.out.keeps K5).r
 have hsz:w.heap.size+2≠w.heap.size:=by omega
 have hsz1:w.heap.size+1≠w.heap.size:=by omega
 have CB:Hid (aQ w lo ⟨⟨ta,tn,ag⟩,⟨la,ln,ah⟩,⟨ga,gn,ai⟩,⟨fa,fn,aj⟩,⟨ra,rn,ao⟩⟩ vs ((wz.setCell ⟨w.heap.size,2,none⟩ (.slice a4 n4 c4)).setCell ⟨w.heap.size,6,none⟩ (.int .i64 (s.seq+1))) w.heap.size (w.heap.size+2) ⟨⟨a4,n4,c4⟩,⟨la,ln,ah⟩,⟨ga,gn,ai⟩,⟨fa,fn,aj⟩,⟨ra,rn,ao⟩⟩ vs { (s:Sy) with tasks:=bY s.tasks mt,seq:=s.seq+1 }):=AN.out.num s.now s.az (s.seq+1) s.missed (k:=6) rfl (by omega)
 obtain ⟨_,CC,Kc⟩:=AN.out.g.var.box
 dsimp only [ae] at CC
 have AE:=CB.out
 obtain ⟨_,o1,o2⟩:=AE.g.var.box
 dsimp only [ae] at o1
 obtain ⟨_,r1,r2⟩:=AE.r
 go_wp2
 exact AE.ret HN.out (fun _=>HC.out) rfl (fun Q D=>by simp [results,Tryz.results82,go_sem,D])
end Go.Proofs.YteagpjlgjfaclaaGreatDoor
