/-
  Calls: a task is moved.
  Drawn locks: the contract of the model's l7DrawRight.
  The judges as plain functions; of a right system two of the
  Drawn systems: a system of one's own beside the cursor.
  Calls: the codes of calls of a task, and what is stored of
  What three laws want of calls as plain functions: a part of
  Drawn locks that may be wrong in one place: the contract of
-/
import Derived.Test.YteagpjlgjfaclaaGreatDoorTaskDel
import Derived.Test.YteagpjlgjfaclaaGreatDoorFairList
import Derived.Test.YteagpjlgjfaclaaGreatDoorSysWake
import Derived.Test.YteagpjlgjfaclaaGreatDoorCur
import Derived.Deep.Cut
import Derived.Test.YteagpjlgjfaclaaGreatDoorPlain1
import Derived.Test.YteagpjlgjfaclaaGreatDoorImplLockA
import Derived.Test.YteagpjlgjfaclaaGreatDoorSysCopy
import Derived.Test.YteagpjlgjfaclaaGreatDoorCallSpec
import Derived.Test.YteagpjlgjfaclaaGreatDoorDrawTask
import Derived.Test.YteagpjlgjfaclaaGreatDoorSysTurn
import Derived.Test.YteagpjlgjfaclaaGreatDoorTaskList
import Derived.Deep.DeepCutAuto
import Derived.Deep.CutBlock
import Derived.Deep.RegionHeld3
namespace Go.Proofs.YteagpjlgjfaclaaGreatDoor
set_option maxRecDepth 100000
open Go.RowKit
section
attribute [local go_sem] aa.refl aa.alloc aa.drew aa.drewN
set_option linter.unusedSimpArgs false in
set_option maxHeartbeats 8000000 in
theorem Br {w:World} {lo:Nat} {v:Sv} {vs:List Lv} {s:Sy} (h:ay w lo v vs s) (hl:lo <= w.heap.size) (R:cx s) (c:Cl) {k:Nat} {t:ar} (ht:s.tasks[k]?=some t) :
  Calls Tryz.prog 89 #[.agg (ae s v),ck c,.int .i64 k] w (eQ w lo v vs (kT s c t) (oV s c k t)):=by
 obtain ⟨⟨ta,tn,ag⟩,⟨la,ln,ah⟩,⟨ga,gn,ai⟩,⟨fa,fn,aj⟩,⟨ra,rn,ao⟩⟩:=v
 have hk:k < s.tasks.length:=cZ ht
 obtain ⟨tb,htb⟩:=h.aW hk
 dsimp only at htb
 subst htb
 have HK:Hid (s.tasks[k]?=some t):=ht
 have Hk:Hid (k < s.tasks.length):=hk
 have fv:=R.jZ t (List.mem_of_getElem? ht)
 have hcs:=R.az
 have hfl:=R.ax
 have hwr:IntKind.i64.wrap (s.az - 1)=s.az - 1:=Go.IntWalk.i64_in _ (by omega)
 obtain ⟨oa,kv⟩:∃ z,Hid (gO s.ak t.no=z):=⟨_,rfl⟩
 obtain ⟨za,Hz⟩:∃ z,Hid (dS s.ak t.no=z):=⟨_,rfl⟩
 obtain ⟨bad,dy⟩:∃ z,Hid (((t.cls != 3)||(oa||decide (0 <= za)))=z):=⟨_,rfl⟩
 have dJ:Hid (kT s c t=if bad then 5 else if !aH c.cpu 0 (s.az - 1) then 1 else 0):=by
  show _=_
  have e1:(!decide (za < 0))=decide (0 <= za):=by rw [Bool.eq_iff_iff];simp
  unfold kT jV
  rw [kv.out,Hz.out,e1,dy.out]
 have hkn:(k:Int) < (tn:Int):=by have:=(h.t.row cF).1;dsimp only at this;omega
 obtain ⟨dj,dx,kZ⟩:=et h hl c
 have C0:Hid (aq (cO w ⟨⟨some ⟨tb,0,none⟩,tn,ag⟩,⟨la,ln,ah⟩,⟨ga,gn,ai⟩,⟨fa,fn,aj⟩,⟨ra,rn,ao⟩⟩ s c) (w.heap.size+1) (cc c)):=dx
 have T0:∀ w',aa (cO w ⟨⟨some ⟨tb,0,none⟩,tn,ag⟩,⟨la,ln,ah⟩,⟨ga,gn,ai⟩,⟨fa,fn,aj⟩,⟨ra,rn,ao⟩⟩ s c) w'->∀ i,i < 14->w'.cell? ⟨tb,k*14+i,none⟩=(tc t)[i]?:=fun w' kk i hi=>((kZ.trans kk).cells tb _ (h.aG (i:=0) (b:=tb) rfl).2).trans ((h.aJ (rb:=tb) rfl ht).1 i hi)
 have lf:∀ w',aa (cO w ⟨⟨some ⟨tb,0,none⟩,tn,ag⟩,⟨la,ln,ah⟩,⟨ga,gn,ai⟩,⟨fa,fn,aj⟩,⟨ra,rn,ao⟩⟩ s c) w'->w'.cell? ⟨tb,k*14,none⟩=some (.int .i64 t.no):=fun w' kk=>T0 w' kk 0 (by omega)
 have jf:Hid (aQ w lo ⟨⟨some ⟨tb,0,none⟩,tn,ag⟩,⟨la,ln,ah⟩,⟨ga,gn,ai⟩,⟨fa,fn,aj⟩,⟨ra,rn,ao⟩⟩ vs (cO w ⟨⟨some ⟨tb,0,none⟩,tn,ag⟩,⟨la,ln,ah⟩,⟨ga,gn,ai⟩,⟨fa,fn,aj⟩,⟨ra,rn,ao⟩⟩ s c) w.heap.size (w.heap.size+2) ⟨⟨some ⟨tb,0,none⟩,tn,ag⟩,⟨la,ln,ah⟩,⟨ga,gn,ai⟩,⟨fa,fn,aj⟩,⟨ra,rn,ao⟩⟩ vs s):=dj
 have pk:Hid (aA (cO w ⟨⟨some ⟨tb,0,none⟩,tn,ag⟩,⟨la,ln,ah⟩,⟨ga,gn,ai⟩,⟨fa,fn,aj⟩,⟨ra,rn,ao⟩⟩ s c) ⟨⟨some ⟨tb,0,none⟩,tn,ag⟩,⟨la,ln,ah⟩,⟨ga,gn,ai⟩,⟨fa,fn,aj⟩,⟨ra,rn,ao⟩⟩ s):=(h.on (by have:=R.small;omega)).keeps kZ
 clear dj dx h
 go_enter Tryz.func89,Tryz.ntmps89
 go_upto_region 1 with fail
 change Code.wp _ _ _ _ (cO w ⟨⟨some ⟨tb,0,none⟩,tn,ag⟩,⟨la,ln,ah⟩,⟨ga,gn,ai⟩,⟨fa,fn,aj⟩,⟨ra,rn,ao⟩⟩ s c)
 generalize cO w ⟨⟨some ⟨tb,0,none⟩,tn,ag⟩,⟨la,ln,ah⟩,⟨ga,gn,ai⟩,⟨fa,fn,aj⟩,⟨ra,rn,ao⟩⟩ s c=Z0 at *
 have jW:∀ w',aa Z0 w'->∀ q,w'.cell? ⟨w.heap.size,q,none⟩=(ae s ⟨⟨some ⟨tb,0,none⟩,tn,ag⟩,⟨la,ln,ah⟩,⟨ga,gn,ai⟩,⟨fa,fn,aj⟩,⟨ra,rn,ao⟩⟩)[q]?:=fun w' k=>(jf.out.g.var.box.keeps k).cells
 dsimp only [ae] at jW
 go_upto_region 2 with fail
 have TB:Hid (aq (Z0.alloc (.cells (tc t) 43)) Z0.heap.size (tc t)):=aq.new _ _ _
 have A0:Hid (aQ w lo ⟨⟨some ⟨tb,0,none⟩,tn,ag⟩,⟨la,ln,ah⟩,⟨ga,gn,ai⟩,⟨fa,fn,aj⟩,⟨ra,rn,ao⟩⟩ vs (Z0.alloc (.cells (tc t) 43)) w.heap.size (w.heap.size+2) ⟨⟨some ⟨tb,0,none⟩,tn,ag⟩,⟨la,ln,ah⟩,⟨ga,gn,ai⟩,⟨fa,fn,aj⟩,⟨ra,rn,ao⟩⟩ vs s):=jf.out.keeps ((aa.refl _).alloc _)
 have HS:Hid (aA (Z0.alloc (.cells (tc t) 43)) ⟨⟨some ⟨tb,0,none⟩,tn,ag⟩,⟨la,ln,ah⟩,⟨ga,gn,ai⟩,⟨fa,fn,aj⟩,⟨ra,rn,ao⟩⟩ s):=pk.out.keeps ((aa.refl _).alloc _)
 have Cd:Hid (∀ i,¬ aX ⟨⟨some ⟨tb,0,none⟩,tn,ag⟩,⟨la,ln,ah⟩,⟨ga,gn,ai⟩,⟨fa,fn,aj⟩,⟨ra,rn,ao⟩⟩ vs i Z0.heap.size):=fun i hi=>by have:=(jf.out.g.var.own.aG hi).2;omega
 have eS:w.heap.size≠Z0.heap.size:=by have:=jf.out.g.var.box.lt;omega
 have hrb:w.heap.size+2≠Z0.heap.size:=by have:=jf.out.r.lt;omega
 have C1:Hid (aq (Z0.alloc (.cells (tc t) 43)) (w.heap.size+1) (cc c)):=C0.out.keeps ((aa.refl _).alloc _)
 change Code.wp _ _ _ _ (Z0.alloc (.cells (tc t) 43))
 clear T0 lf jW jf pk kZ C0
 generalize Z0.alloc (.cells (tc t) 43)=Z at *
 generalize Z0.heap.size=eC at *
 have hb0:∀ w',aa Z w'->∀ q,w'.cell? ⟨w.heap.size,q,none⟩=(ae s ⟨⟨some ⟨tb,0,none⟩,tn,ag⟩,⟨la,ln,ah⟩,⟨ga,gn,ai⟩,⟨fa,fn,aj⟩,⟨ra,rn,ao⟩⟩)[q]?:=fun w' k=>(A0.out.g.var.box.keeps k).cells
 dsimp only [ae] at hb0
 have ht0:∀ w',aa Z w'->∀ j,w'.cell? ⟨eC,j,none⟩=(tc t)[j]?:=fun w' k=>(TB.out.keeps k).cells
 have hc0:∀ w',aa Z w'->∀ q,w'.cell? ⟨w.heap.size+1,q,none⟩=(cc c)[q]?:=fun w' k=>(C1.out.keeps k).cells
 have OA:Hid (∀ w',aa Z w'->Calls Tryz.prog 148 #[.slice la ln ah,.int .i64 t.no] w' fun e w''=>e = .returned (.bool oa) /\ aa w' w''):=fun w' kk=>HS.out.gx.gU t.no kv.out kk
 have WA:Hid (∀ w',aa Z w'->Calls Tryz.prog 84 #[.slice la ln ah,.int .i64 t.no] w' fun e w''=>e = .returned (.int .i64 za) /\ aa w' w''):=fun w' kk=>HS.out.gx.eK t.no Hz.out kk
 go_cut [14] (fun b wx=>b = .bool bad /\ aa Z wx)
 case first =>
  cases d1:(t.cls != 3)
  rotate_left
  ·have hr:bad=true:=by rw [<- dy.out,d1];rfl
   go_wp2
   go_meet
   exact ⟨by rw [hr],aa.refl _⟩
  cases oa
  rotate_left
  ·have hr:bad=true:=by rw [<- dy.out,d1];rfl
   go_wp2_with (go_at_call 148;refine (OA.out _ (by first | assumption | exact aa.refl _ | exact (aa.refl _).drew | exact aa.drew (by assumption))).mono ?_;rintro e w5 ⟨rfl,k5⟩)
   go_meet
   exact ⟨by rw [hr],k5⟩
  have hr:bad=decide (0 <= za):=by rw [<- dy.out,d1];rfl
  go_wp2_with (go_at_call 148;refine (OA.out _ (by first | assumption | exact aa.refl _ | exact (aa.refl _).drew | exact aa.drew (by assumption))).mono ?_;rintro e w5 ⟨rfl,k5⟩)
  have Ce:aa Z w5:=k5
  go_wp2_with (go_at_call 84;refine (WA.out _ (by first | assumption | exact aa.refl _ | exact (aa.refl _).drew | exact aa.drew (by assumption))).mono ?_;rintro e w6 ⟨rfl,k6⟩)
  go_meet
  exact ⟨by rw [hr],k5.trans k6⟩
 case rest =>
 obtain ⟨rfl,kx⟩:=hcut
 generalize wc=wx at *
 clear OA WA dy Hz kv
 cases bad
 rotate_left
 ·have HN:Hid (kT s c t=5):=dJ.out
  have AE:=A0.out.keeps kx
  obtain ⟨_,o1,o2⟩:=AE.g.var.box
  dsimp only [ae] at o1
  obtain ⟨_,r1,r2⟩:=AE.r
  go_wp2
  exact AE.ret HN.out (fun h=>absurd h (by decide)) rfl (fun Q D=>by simp [results,Tryz.results89,go_sem,D])
 cases c2:aH c.cpu 0 (s.az - 1)
 ·have HN:Hid (kT s c t=1):=by show _=_;rw [dJ.out,c2];rfl
  go_wp2_with fail
  refine (bq _ _ _ _).mono ?_
  rintro e w' ⟨rfl,hw'⟩
  have hw2:=hw'.symm
  subst hw2
  rw [c2]
  have AE:=A0.out.keeps kx
  obtain ⟨_,o1,o2⟩:=AE.g.var.box
  dsimp only [ae] at o1
  obtain ⟨_,r1,r2⟩:=AE.r
  go_wp2
  exact AE.ret HN.out (fun h=>absurd h (by decide)) rfl (fun Q D=>by simp [results,Tryz.results89,go_sem,D])
 have HN:Hid (kT s c t=0):=by show _=_;rw [dJ.out,c2];rfl
 obtain ⟨q0,q1⟩:=dq.1 c2
 obtain ⟨ck,cn,cp,ca,cb⟩:=c
 dsimp only at q0 q1 c2
 obtain ⟨q,rfl⟩:∃ q:Nat,cp=(q:Int):=⟨cp.toNat,by omega⟩
 obtain ⟨p,hp⟩:∃ p:Nat,t.cpu=(p:Int):=⟨t.cpu.toNat,by omega⟩
 obtain ⟨u,rfl⟩:∃ u:ar,t={ u with cpu:=(p:Int) }:=⟨t,by rw [<- hp]⟩
 dsimp only at fv
 obtain ⟨x1,hx1⟩:=cd (xs:=s.ax) (k:=p) (by omega)
 obtain ⟨x2,hx2⟩:=cd (xs:=s.ax) (k:=q) (by omega)
 obtain ⟨fb,pw⟩:=A0.out.g.var.own.gW (k:=p) (by omega)
 dsimp only at pw
 subst pw
 have hfn:=(A0.out.g.var.own.f.row fq).1
 dsimp only at hfn
 have hpn:(p:Int) < (fn:Int):=by omega
 have Ka:(q:Int) < (fn:Int):=by omega
 have F1:∀ w',aa Z w'->w'.cell? ⟨fb,p,none⟩=some (.int .i64 x1):=fun w' kk=>by
  obtain ⟨f1,-,f3,-⟩:=A0.out.g.var.own.eU (fb:=fb) rfl hx1
  exact (kk.cells fb _ f3).trans f1
 have F2:∀ w',aa Z w'->w'.cell? ⟨fb,q,none⟩=some (.int .i64 x2):=fun w' kk=>by
  obtain ⟨f1,-,f3,-⟩:=A0.out.g.var.own.eU (fb:=fb) rfl hx2
  exact (kk.cells fb _ f3).trans f1
 obtain ⟨NT,iQ⟩:∃ N,Hid (iy { u with cpu:=(p:Int) } q x1 x2=N):=⟨_,rfl⟩
 have HC:Hid ({ (s:Sy) with tasks:=s.tasks.set k NT }=oV s ⟨ck,cn,q,ca,cb⟩ k { u with cpu:=(p:Int) }):=by
  show _=_
  unfold oV
  dsimp only
  rw [Int.toNat_natCast,Int.toNat_natCast,List.getD_eq_getElem?_getD,List.getD_eq_getElem?_getD,hx1,hx2,Option.getD_some,Option.getD_some,iQ.out]
 clear hx1 hx2 hfn hp fv hfl
 go_upto_region 6 with (go_at_call 27;refine (bq _ _ _ _).mono ?_;rintro e w' ⟨rfl,hw'⟩;have hw2:=hw'.symm;subst hw2;rw [c2])
 refine kt 20 (S:=(fun w'=>aa Z w')) (by kernel_rfl) ?_ (fun hHeld => ?_)
 ·exact kx.drew
 refine ad.go [0,1,2,3,4,5,6,7,8,9,10,11,12,13,14,15,16,17] ?_
 iterate 18 (refine gN (h := ?_);try simp only [au])
 refine ad.nil ?_
 refine gy (i:=18) (h:=fun K hK => ?_)
 go_simp
 (go_at_call 153;refine (Cm { u with cpu:=(p:Int) } q x1 x2 _).mono ?_;rintro e w8 ⟨rfl,k8⟩;rw [iQ.out])
 try go_wp2_with fail
 refine hK.out _ _ ?_ fun hHeld => ?_
 ·first | assumption | exact aa.trans (by assumption) (by assumption)
 clear hK K
 try simp only [au]
 refine ad.go [19] ?_
 iterate 1 (refine gN (h := ?_);try simp only [au])
 refine ad.nil ?_
 refine ku (h:=fun K hK => ?_)
 have K8:aa Z w8:=(by assumption);have A8:=A0.out.keeps K8;obtain ⟨z1,z2⟩:=A8.g.var.own.aJ (rb:=tb) rfl (k:=k) HK.out;have y0:w8.cell? ⟨tb,k*14,none⟩=some (.int .i64 u.no):=z1 0 (by omega)
 go_simp
 try go_wp2_with fail
 refine hK.out _ _ ?_
 clear hK K
 try simp only [au]
 have AN:Hid (aQ w lo ⟨⟨some ⟨tb,0,none⟩,tn,ag⟩,⟨la,ln,ah⟩,⟨ga,gn,ai⟩,⟨some ⟨fb,0,none⟩,fn,aj⟩,⟨ra,rn,ao⟩⟩ vs (putC w8 tb (k*14) (tc NT).toList) w.heap.size (w.heap.size+2) ⟨⟨some ⟨tb,0,none⟩,tn,ag⟩,⟨la,ln,ah⟩,⟨ga,gn,ai⟩,⟨some ⟨fb,0,none⟩,fn,aj⟩,⟨ra,rn,ao⟩⟩ vs { (s:Sy) with tasks:=s.tasks.set k NT }):=A8.task (tb:=tb) rfl Hk.out NT
 clear z1 z2 y0 A8 K8 hb0 hc0 ht0 F1 F2 hHeld
 change Exit.then _ _ _ _ (putC w8 tb (k*14) (tc NT).toList)
 generalize putC w8 tb (k*14) (tc NT).toList=X9 at *
 have AE:=AN.out
 obtain ⟨_,o1,o2⟩:=AE.g.var.box
 dsimp only [ae] at o1
 obtain ⟨_,r1,r2⟩:=AE.r
 go_wp2
 exact AE.ret HN.out (fun _=>HC.out) rfl (fun Q D=>by simp [results,Tryz.results89,go_sem,D])
structure DK (w wr:World) (g:Nat) (v:Value) (ls:List Lk):Prop where
 mine:∃ vs,Mine wr w.heap.size wr.heap.size v vs ls
 cur:bf wr g
 kb:ab g w wr
theorem DK.but {w wr wr':World} {g:Nat} {v:Value} {ls:List Lk} (h:DK w wr g v ls) (hg:g < w.heap.size) (k:ab g wr wr') (hc:bf wr' g):DK w wr' g v ls:=by
 obtain ⟨vs,M⟩:=h.mine
 exact ⟨⟨vs,(M.same fun b h1 _ h3=>k.block b h3 (by omega)).widen (Nat.le_refl _) k.size⟩,hc,h.kb.trans k⟩
theorem DK.keeps {w wr wr':World} {g:Nat} {v:Value} {ls:List Lk} (h:DK w wr g v ls) (hg:g < w.heap.size) (k:aa wr wr'):DK w wr' g v ls:=h.but hg (.of k) (h.cur.keeps k)
theorem vH (n:Nat):bR (List.replicate n (⟨0,[]⟩:Lk))=n:=by
 have:bD (List.replicate n (⟨0,[]⟩:Lk))=0:=by
  induction n with
  | zero=>rfl
  | succ n ih=>rw [List.replicate_succ];simp only [bD,ih];rfl
 unfold bR
 rw [this]
 simp
theorem vI (n:Nat) (hn:n <= 1048576) (z:Int) (hz:z=(n:Int)):∀ w:World,(Instr.makeSlice 25 (.int .i64 z) (.int .i64 z)).run Tryz.prog w = .ok (.slice (some ⟨w.heap.size,0,none⟩) n n) (w.alloc (.cells (madeCells #[.int .i64 0,.slice none 0 0] (n*2)) 37)):=by
 subst hz
 have hmk:=qR (P:=Tryz.prog) 25 37 (.agg #[.int .i64 0,.slice none 0 0]) 2 32 Tryz.underlying25 (by kernel_rfl) n (by omega) (by omega)
 simp only [Value.cells] at hmk
 exact hmk
theorem DK.made {w wr:World} {g:Nat} (hc:bf wr g) (k:ab g w wr) (n:Nat) (hn:n <= 1048576):DK w (wr.alloc (.cells (madeCells #[.int .i64 0,.slice none 0 0] (n*2)) 37)) g (.slice (some ⟨wr.heap.size,0,none⟩) n n) (List.replicate n ⟨0,[]⟩) :=
 ⟨⟨_,(Mine.zero wr n (by unfold maxLen;omega)).widen k.size (by simp)⟩,hc.keeps ((aa.refl _).alloc _),k.alloc _⟩
set_option maxHeartbeats 8000000 in
theorem Cn (g:Nat) (w:World) (hc:bf w g) :
  Calls Tryz.prog 101 #[.pointer (some ⟨g,0,none⟩)] w fun e w'=>∃ (v:Value) (ls:List Lk),e = .returned v /\ DK w w' g v ls /\ 1 <= ls.length /\ ls.length <= 4 /\ bR ls <= 16:=by
 have hgl:=hc.lt
 go_enter Tryz.func101,Tryz.ntmps101
 go_wp2_with fail
 refine (cl g _ _ hc (by omega) (by omega)).mono ?_
 rintro e w1 ⟨m,rfl,hm0,hm1,hc1,k1⟩
 obtain ⟨n,Hn⟩:∃ n:Nat,Hid (1+m=(n:Int)):=⟨(1+m).toNat,by show _=_;omega⟩
 have hn1:1 <= n:=by have:=Hn.out;omega
 have ks:n <= 4:=by have:=Hn.out;omega
 have hmk:=vI n (by omega) (1+m) Hn.out
 have D0:Hid (DK w (w1.alloc (.cells (madeCells #[.int .i64 0,.slice none 0 0] (n*2)) 37)) g (.slice (some ⟨w1.heap.size,0,none⟩) n n) (List.replicate n ⟨0,[]⟩)):=DK.made hc1 k1 n (by omega)
 clear k1 hc hc1
 go_wp2_with fail
 clear hmk
 generalize w1.alloc (.cells (madeCells #[.int .i64 0,.slice none 0 0] (n*2)) 37)=W at *
 generalize hv0:Value.slice (some ⟨w1.heap.size,0,none⟩) n n=v0 at *
 clear hv0
 refine (cl g _ _ D0.out.cur (by omega) (by omega)).mono ?_
 rintro e w2 ⟨q,rfl,hq0,hq1,hc2,k2⟩
 have D2:Hid (DK w w2 g v0 (List.replicate n ⟨0,[]⟩)):=D0.out.but hgl k2 hc2
 clear D0 k2 hc2
 obtain ⟨r,rfl⟩:=Int.eq_ofNat_of_zero_le hq0
 have hr:r < 12:=by omega
 go_wp2
 go_loopw [3,5] (fun v i wr=>∃ (k:Nat) (ls:List Lk),k <= r /\ i = .int .i64 k /\ Hid (DK w wr g v ls) /\ Hid (Right ls) /\ Hid (ls.length=n) /\ Hid (bR ls <= n+k)) (fun _ i _=>r - (intOf i).toNat)
 case atStart=>exact ⟨0,_,Nat.zero_le _,rfl,D2,Co (by omega),by show _=_;simp,by show _ <= _;rw [vH];omega⟩
 case round =>
  obtain ⟨k,ls,hk,rfl,D,R,hl,hsz⟩:=hrel
  clear D2
  by_cases hlt:k < r
  ·have hlt':(k:Int) < (r:Int):=by omega
   obtain ⟨vs,M⟩:=D.out.mine
   obtain ⟨a,cap,rfl,-,-,-⟩:=M.args
   clear M vs
   rw [hl.out] at D ⊢
   go_wp2_with fail
   refine (cl g _ _ D.out.cur (by omega) (by omega)).mono ?_
   rintro e w3 ⟨x,rfl,hx0,hx1,hc3,k3⟩
   have D3:Hid (DK w w3 g (.slice a n cap) ls):=D.out.but hgl k3 hc3
   clear D hc3 k3
   go_wp2_with fail
   refine (cl g _ _ D3.out.cur (by omega) (by omega)).mono ?_
   rintro e w4 ⟨y,rfl,hy0,hy1,hc4,k4⟩
   have D4:Hid (DK w w4 g (.slice a n cap) ls):=D3.out.but hgl k4 hc4
   clear D3 hc4 k4
   have L4:Hid (dL true w4 a ls):=by
    obtain ⟨vs,M⟩:=D4.out.mine
    obtain ⟨a',cap',e,L,-,-⟩:=M.args
    simp only [Value.slice.injEq] at e
    obtain ⟨rfl,-,-⟩:=e
    exact L
   go_wp2_with fail
   have SA:=vF a cap ls x (1+y) w4 (by have:=hsz.out;omega) L4.out
   rw [hl.out] at SA
   refine SA.mono ?_
   rintro e w5 ⟨v5,eV,rfl,M5,k5⟩
   have hR:=Cp R.out x (1+y)
   have D5:Hid (DK w w5 g v5 (bM ls x (1+y))):=⟨⟨eV,M5.widen (D4.out.kb.size) (Nat.le_refl _)⟩,D4.out.cur.keeps k5,D4.out.kb.trans (.of k5)⟩
   have hs5:Hid (bR (bM ls x (1+y)) <= n+(k+1)):=by show _ <= _;have:=vJ ls x (1+y);have:=hsz.out;omega
   have hl5:Hid ((bM ls x (1+y)).length=n):=by show _=_;rw [hR.2];exact hl.out
   have R5:Hid (Right (bM ls x (1+y))):=hR.1
   clear SA M5 k5 hR D4 L4
   go_wp2
   exact ⟨⟨k+1,_,by omega,by go_num,D5,R5,hl5,hs5⟩,by simp only [intOf];omega⟩
  ·go_wp2
   go_ret
   exact ⟨_,ls,rfl,D.out,by rw [hl.out];exact hn1,by rw [hl.out];exact ks,by have:=hsz.out;omega⟩
end
theorem vK {ts:List ar} (h:dz ts=true) {i j:Nat} {a b:ar} (ha:ts[i]?=some a) (hb:ts[j]?=some b) (e:a.no=b.no):i=j:=by
 have hasc:f9 ts=true:=by
  simp only [dz,Bool.and_eq_true] at h
  exact h.1.2
 rcases Nat.lt_trichotomy i j with h1 | h1 | h1
 ·have:=sK hasc j i a b h1 ha hb;omega
 ·exact h1
 ·have:=sK hasc i j b a h1 hb ha;omega
section
attribute [local go_sem] aa.refl aa.alloc aa.drew aa.drewN
theorem ay.cy {g:Nat} {w w':World} {lo:Nat} {v:Sv} {vs:List Lv} {s:Sy} (h:ay w lo v vs s) (k:ab g w w') (hg:g < lo):ay w' lo v vs s :=
 h.aside k.size fun i b hb=>k.block b (h.aG hb).2 (by have:=(h.aG hb).1;omega)
def qL (c:Cl):Prop:=c.kind <= 3->1 <= c.no /\ c.no <= 12
def Bt (g:Nat) (w:World) (e:Ending) (w':World):Prop:=∃ z:Int,e = .returned (.int .i64 z) /\ bf w' g /\ ab g w w'
def Bu (g:Nat) (w:World) (e:Ending) (w':World):Prop:=∃ c:Cl,e = .returned (ck c) /\ qL c /\ bf w' g /\ ab g w w'
theorem ab.ir {g:Nat} {a:World} {b:Nat} (hb:a.heap.size <= b):∀ (L:List Value) {w:World} (k:Nat),ab g a w->ab g a (Go.Proofs.YteagpjlgjfaclaaGreatDoor.putC w b k L)
 | [],_,_,h=>h
 | u::r,_,k,h=>ab.ir hb r (k+1) (h.aI (p:=⟨b,k,none⟩) hb u)
theorem bf.putC {g b:Nat} (hb:g < b):∀ (L:List Value) {w:World} (k:Nat),bf w g->bf (Go.Proofs.YteagpjlgjfaclaaGreatDoor.putC w b k L) g
 | [],_,_,h=>h
 | u::r,_,k,h=>bf.putC hb r (k+1) (h.aI hb k u)
theorem ay.jU {w:World} {lo:Nat} {v:Sv} {vs:List Lv} {s:Sy} (h:ay w lo v vs s) {j:Nat} {l:Lk} (hl:s.ak[j]?=some l):∃ lb,v.l.a=some ⟨lb,0,none⟩ /\ w.cell? ⟨lb,j*2,none⟩=some (.int .i64 l.owner) /\ lo <= lb /\ lb < w.heap.size:=by
 have hj:=cZ hl
 have hv:=h.l.len
 obtain ⟨x,hx⟩:=cd (xs:=vs) (k:=j) (by rw [hv];exact hj)
 obtain ⟨b,cap,e,-,-,-⟩:=h.l.own.some gz (by omega)
 have O:=h.l.own
 rw [e] at O
 have h1:=O.cellAt gz (i:=j) (k:=0) hx (by omega)
 have h2:=O.cr b rfl
 have h3:=(h.l.rows j x l hx hl).1
 simp only [Rw.val,Value.slice.injEq] at e
 exact ⟨b,e.1,by rw [<- h3];simpa using h1,h2.1,h2.2⟩
abbrev dG:Array Value:=#[.int .i64 0,.int .i64 0,.int .i64 0,.int .i64 0,.int .i64 0]
theorem fV {g rb:Nat} {w Z wn:World} (R:aq Z rb dG) (hg:g < w.heap.size) (hr:w.heap.size <= rb) (kZ:ab g w Z) (hc:bf wn g) (k:ab g Z wn) (c:Cl) :
  aq (putC wn rb 0 (cc c).toList) rb (cc c) /\ bf (putC wn rb 0 (cc c).toList) g /\ ab g w (putC wn rb 0 (cc c).toList) :=
 ⟨(R.but k (by omega)).putC (cc c).toList rfl,bf.putC (by omega) _ 0 hc,ab.ir hr _ 0 (kZ.trans k)⟩
theorem mj {ts:List ar} {no:Int} (h:ct ts no=true):∃ k:Nat,dc ts no=(k:Int) /\ (∃ t,ts[k]?=some t) /\ ∀ t,ts[k]?=some t->dB ts no=t:=by
 obtain ⟨k,t,e,ht,-⟩:=lQ.1 h
 exact ⟨k,e,⟨t,ht⟩,fun t' ht'=>lR e ht'⟩
theorem ml {s:Sy} {c:Cl} (h4:decide (c.kind <= 3)=false) (h11:(c.kind==11)=false) (hth:ct s.tasks c.no=true):dv s c=kS s c (dB s.tasks c.no):=by
 unfold dv
 rw [if_neg (by simpa using h4),h11,hth]
 rfl
theorem Be {s:Sy} {c:Cl} (h4:decide (c.kind <= 3)=false) (h11:(c.kind==11)=false) (hth:ct s.tasks c.no=false):dv s c=2:=by
 unfold dv
 rw [if_neg (by simpa using h4),h11,hth]
 rfl
theorem mn {s:Sy} {c:Cl} (h4:decide (c.kind <= 3)=false) (h11:(c.kind==11)=false):ee s c=kq s c (dc s.tasks c.no).toNat (dB s.tasks c.no):=by
 unfold ee
 rw [if_neg (by simpa using h4),h11]
 rfl
section
variable {w0 w:World} {lo ob rb:Nat} {v0 v:Sv} {bX vs:List Lv} {s:Sy}
theorem aQ.qH (h:aQ w0 lo v0 bX w ob rb v vs s) {tb:Nat} (ha:v.t.a=some ⟨tb,0,none⟩):tb≠ob:=fun e=>h.g.var.far 0 (by show v.t.val.ownBlock=some ob;rw [Rw.val,ha,e];rfl)
theorem aQ.qI (h:aQ w0 lo v0 bX w ob rb v vs s) {tb:Nat} (ha:v.t.a=some ⟨tb,0,none⟩):tb≠rb:=fun e=>h.far 0 (by show v.t.val.ownBlock=some rb;rw [Rw.val,ha,e];rfl)
theorem aQ.fL (h:aQ w0 lo v0 bX w ob rb v vs s) {tb:Nat} (ha:v.t.a=some ⟨tb,0,none⟩) {k:Nat} {x y:ar} (hk:s.tasks[k]?=some x) {j:Nat} (hj:j < 14) {u:Value} (e:(tc x).setIfInBounds j u=tc y) :
  aQ w0 lo v0 bX (w.setCell ⟨tb,k*14+j,none⟩ u) ob rb v vs { s with tasks:=s.tasks.set k y }:=by
 have ho:aX v vs 0 tb:=by show v.t.val.ownBlock=some tb;rw [Rw.val,ha];rfl
 have h1:=h.qH ha
 have h2:=h.qI ha
 have hn:=(h.g.var.own.t.row cF).1
 have hv:v.t.val = .slice (some ⟨tb,0,none⟩) s.tasks.length v.t.cap:=by rw [Rw.val,ha,hn]
 have O:=h.g.var.own.t
 rw [hv] at O
 have O2:Own 43 14 tc (w.setCell ⟨tb,k*14+j,none⟩ u) lo v.t.val (s.tasks.set k y):=by
  rw [hv]
  have:=O.setAt cF (i:=k) (j:=j) (x:=x) (y:=y) (u:=u) hk hj (by rw [<- e];simp)
  simpa using this
 have G:w.grownBy (w.setCell ⟨tb,k*14+j,none⟩ u) (some tb):=px [u] w (k*14+j) (World.grownBy.refl w (some tb))
 have OS:ay (w.setCell ⟨tb,k*14+j,none⟩ u) lo v vs { s with tasks:=s.tasks.set k y }:=h.g.var.own.lg G.size (fun b hb hnn=>G.block b hb (fun e=>hnn (by cases e;exact ho))) v.t _ O2 (fun b e => .inl e)
 exact ⟨⟨⟨h.g.var.box.far h1 _,OS,h.g.var.fu,h.g.var.far⟩,h.g.goes.step OS ((aB.grown G).mono fun q e=>by cases e;exact .inl ⟨0,ho⟩) fun i _ hb => .inl ⟨i,hb⟩,h.g.new⟩,h.r.far h2 _,h.far,h.ne,h.new⟩
theorem aQ.pass (h:aQ w0 lo v0 bX w ob rb v vs s) {w3:World} {v3:Sv} {vs3:List Lv} {s3:Sy} (g:Goes w lo v vs w3 v3 vs3 s3):aq w3 rb zc /\ aq (putC w3 rb 0 (ae s3 v3).toList) rb (ae s3 v3) /\ Goes w0 lo v0 bX (putC w3 rb 0 (ae s3 v3).toList) v3 vs3 s3:=by
 have B:=g.blk h.r h.far
 have F:=g.far h.r.lt h.far
 refine ⟨B,B.putC (ae s3 v3).toList rfl,?_⟩
 exact (h.g.goes.trans g).step (ay.aT F _ _ g.own) (aB.putC (.inr h.new) _ 0 (aB.refl _ _)) fun i _ hb => .inl ⟨i,hb⟩
end
end
theorem Cq {s:Sy} {t:ar} (h:eH s t≠0):gO s.ak t.no=true∨¬ dS s.ak t.no < 0∨s.af.length=12:=by
 unfold eH at h
 split at h
 ·next hb =>
  unfold jV at hb
  rw [Bool.or_eq_true] at hb
  rcases hb with h1 | h1
  ·exact .inl h1
  ·exact .inr (.inl (by simpa using h1))
 ·split at h
  ·next hb =>
   rw [Bool.and_eq_true,beq_iff_eq] at hb
   exact .inr (.inr hb.2)
  ·exact absurd rfl h
theorem vL {α:Type} (p:α->Bool):∀ (l:List α) (k:Nat) (x:α),l[k]?=some x->p x=true->((l.eraseIdx k).filter p).length+1=(l.filter p).length
 | [],k,x,h,_=>by simp at h
 | y::l,0,x,h,hp=>by
  simp at h
  subst h
  rw [List.eraseIdx_cons_zero,List.filter_cons_of_pos hp,List.length_cons]
 | y::l,k+1,x,h,hp=>by
  have ih:=vL p l k x (by simpa using h) hp
  rw [List.eraseIdx_cons_succ]
  cases hy:p y
  ·rw [List.filter_cons_of_neg (by simp [hy]),List.filter_cons_of_neg (by simp [hy])]
   exact ih
  ·rw [List.filter_cons_of_pos hy,List.filter_cons_of_pos hy,List.length_cons,List.length_cons,ih]
theorem Cr {s:Sy} {k:Nat} {t:ar} (hk:s.tasks[k]?=some t) (hc:t.cls=1):(s.now < t.due->(dH (fk s k t) t.cpu).length=(dH s t.cpu).length) /\ (t.due <= s.now->(dH (fk s k t) t.cpu).length+1=(dH s t.cpu).length):=by
 have h1:=vL (eE t.cpu) s.tasks k t hk (by simp [eE,hc])
 have e:(dH (fk s k t) t.cpu).length=((s.tasks.eraseIdx k).filter (eE t.cpu)).length+((if je s t then s.af++[f8 t] else s.af).filter (df t.cpu)).length:=by
  unfold dH fk
  simp only [List.length_append,List.length_map]
 have e2:(dH s t.cpu).length=(s.tasks.filter (eE t.cpu)).length+(s.af.filter (df t.cpu)).length:=by
  unfold dH
  simp only [List.length_append,List.length_map]
 have hg:df t.cpu (f8 t)=true:=by simp [df,f8]
 refine ⟨fun h => ?_,fun h => ?_⟩
 ·have hl:je s t=true:=by simp [je,hc,h]
  rw [e,e2,hl,if_pos rfl,List.filter_append,List.length_append,List.filter_cons_of_pos hg,List.filter_nil,List.length_singleton]
  omega
 ·have hl:je s t=false:=by
   unfold je
   rw [Bool.and_eq_false_iff]
   right
   simpa using h
  rw [e,e2,hl,if_neg (by simp)]
  omega
theorem Cs {ts:List ar} {no:Int} (H:∀ (j:Nat) (x:ar),ts[j]?=some x->(x.no==no)=false):dc ts no = -1:=by
 unfold dc
 split
 ·rename_i i hi
  obtain ⟨hi',h1,-⟩:=List.findIdx?_eq_some_iff_getElem.1 hi
  rw [H i _ (List.getElem?_eq_getElem hi')] at h1
  cases h1
 ·rfl
theorem Ct {s:Sy} (R:cx s) {k:Nat} {t:ar} (hk:s.tasks[k]?=some t):dc (fk s k t).tasks t.no = -1:=by
 refine Cs fun j x hx => ?_
 have hx2:(s.tasks.eraseIdx k)[j]?=some x:=hx
 rw [List.getElem?_eraseIdx] at hx2
 cases hq:(x.no==t.no)
 ·rfl
 ·rw [beq_iff_eq] at hq
  split at hx2
  ·have:=vK R.tasks hx2 hk hq
   omega
  ·have:=vK R.tasks hx2 hk hq
   omega
section
attribute [local go_sem] aa.refl aa.alloc aa.drew aa.drewN ab.refl ab.drew ab.alloc ab.drewN
structure fw (w wr:World) (g:Nat) (b n cap:Nat) (vs:List Lv) (ls:List Lk) (j:Nat) (x:Lv) (l:Lk):Prop where
 mine:Mine wr w.heap.size wr.heap.size (.slice (some ⟨b,0,none⟩) n cap) vs ls
 mu:vs.length=n
 hx:vs[j]?=some x
 hl:ls[j]?=some l
 own:Own 37 2 fF wr w.heap.size (.slice (some ⟨b,0,none⟩) n cap) vs
 lo:w.heap.size <= b
 hi:b < wr.heap.size
 c0:wr.cell? ⟨b,j*2,none⟩=some (.int .i64 x.o)
 c1:wr.cell? ⟨b,j*2+1,none⟩=some x.row
 fz:∀ o,wr.frozen? ⟨b,o,none⟩=false
 xo:x.o=l.owner
 row:aS wr w.heap.size x.row l.waits
 far:∀ q,x.row.ownBlock=some q->q < wr.heap.size /\ q≠b
theorem DK.at {w wr:World} {g:Nat} {v:Value} {ls:List Lk} (h:DK w wr g v ls) {j:Nat} {l:Lk} (hl:ls[j]?=some l):∃ b cap vs x,v = .slice (some ⟨b,0,none⟩) ls.length cap /\ fw w wr g b ls.length cap vs ls j x l:=by
 obtain ⟨vs,M⟩:=h.mine
 have hj:=cZ hl
 have hv:vs.length=ls.length:=M.len
 obtain ⟨b,cap,e⟩:=M.own.blk (by omega)
 rw [hv] at e
 subst e
 obtain ⟨x,hx⟩:=cd (xs:=vs) (k:=j) (by omega)
 have O0:Own 37 2 fF wr w.heap.size (.slice (some ⟨b,0,none⟩) vs.length cap) vs:=by rw [hv];exact M.own
 have X1:=M.rows j x l hx hl
 exact ⟨b,cap,vs,x,rfl,M,hv,hx,hl,M.own,(O0.cr b rfl).1,(O0.cr b rfl).2,O0.cellAt gz (k:=0) hx (by omega),O0.cellAt gz (k:=1) hx (by omega),fun o=>O0.frozenAt o,X1.1,X1.2,
  fun q hq=>⟨(X1.2.cr q hq).2,fun e=>(M.fx j x q hx hq).2 (by rw [e];rfl)⟩⟩
theorem fw.but {w wr wr':World} {g b n cap:Nat} {vs:List Lv} {ls:List Lk} {j:Nat} {x:Lv} {l:Lk} (h:fw w wr g b n cap vs ls j x l) (hg:g < w.heap.size) (k:ab g wr wr'):fw w wr' g b n cap vs ls j x l:=by
 have hb:wr'.heap[b]?=wr.heap[b]?:=k.block b h.hi (by have:=h.lo;omega)
 exact ⟨(h.mine.same fun q h1 _ h3=>k.block q h3 (by omega)).widen (Nat.le_refl _) k.size,h.mu,h.hx,h.hl,h.own.same fun q hq=>k.block q (h.own.cr q hq).2 (by have:=(h.own.cr q hq).1;omega),h.lo,Nat.lt_of_lt_of_le h.hi k.size,
  (World.cell?_of_block (w:=wr) hb).trans h.c0,(World.cell?_of_block (w:=wr) hb).trans h.c1,fun o=>(World.frozen?_of_block (w:=wr) hb).trans (h.fz o),h.xo,h.row.same fun q hq=>k.block q (h.row.cr q hq).2 (by have:=(h.row.cr q hq).1;omega),
  fun q hq=>⟨Nat.lt_of_lt_of_le (h.far q hq).1 k.size,(h.far q hq).2⟩⟩
theorem fw.eL {w wr:World} {g b n cap:Nat} {vs:List Lv} {ls:List Lk} {j:Nat} {x:Lv} {l:Lk} (h:fw w wr g b n cap vs ls j x l) (hc:bf wr g) (kb:ab g w wr) (hg:g < w.heap.size) (c:Int) :
  DK w (wr.setCell ⟨b,j*2,none⟩ (.int .i64 c)) g (.slice (some ⟨b,0,none⟩) n cap) (ls.set j { l with owner:=c }):=by
 have m:=h.mine
 rw [<- h.mu] at m
 have:=m.eL h.hx h.hl c
 rw [List.length_set,h.mu] at this
 refine ⟨⟨_,this.widen (Nat.le_refl _) (by simp)⟩,hc.aI (Nat.lt_of_lt_of_le hg h.lo) _ _,kb.aI h.lo _⟩
theorem fw.waits {w w5 w6:World} {g b n cap:Nat} {vs:List Lv} {ls:List Lk} {j:Nat} {x:Lv} {l:Lk} (h:fw w w5 g b n cap vs ls j x l) (hc:bf w5 g) (kb:ab g w w5) (hg:g < w.heap.size) {ws:List Int} {a:Option Addr} {m c:Nat}
  (O6:aS w6 w.heap.size (.slice a m c) ws) (g6:w5.grownBy w6 x.row.ownBlock) (f6:∀ q,(Value.slice a m c).ownBlock=some q->x.row.ownBlock=some q∨w5.heap.size <= q) :
  DK w (w6.setCell ⟨b,j*2+1,none⟩ (.slice a m c)) g (.slice (some ⟨b,0,none⟩) n cap) (ls.set j { l with waits:=ws }):=by
 have key:∀ q,q < w5.heap.size->x.row.ownBlock≠some q->w6.heap[q]?=w5.heap[q]?:=fun q hq hne=>g6.block q hq (fun e=>hne e.symm)
 have lS:w6.heap[b]?=w5.heap[b]?:=key b h.hi (fun e=>(h.far b e).2 rfl)
 have sL:Own 37 2 fF w6 w.heap.size (.slice (some ⟨b,0,none⟩) n cap) vs:=h.own.same fun q hq=>by
  have:q=b:=by simp [Value.ownBlock] at hq;exact hq.symm
  rw [this];exact lS
 have hrow:∀ q,x.row.ownBlock=some q->w.heap.size <= q:=fun q hq=>(h.row.cr q hq).1
 refine ⟨⟨vs.set j ⟨x.o,a,m,c⟩,?_⟩,?_,?_⟩
 ·refine h.mine.swap (x:=x) (y:=⟨x.o,a,m,c⟩) h.hx (sL.setAt gz (i:=j) (j:=1) (x:=x) (y:=⟨x.o,a,m,c⟩) (u := .slice a m c) h.hx (by omega) rfl) (fun q h1 h2 h3 => ?_) h.xo ?_ (by have:=g6.size;simpa using this) (fun q hq => ?_)
  ·have:q≠b:=fun e=>h1 (by rw [e];rfl)
   rw [gA this]
   exact key q h3 h2
  ·refine Own.same O6 fun q hq=>gA ?_
   rcases f6 q hq with h1 | h1
   ·exact (h.far q h1).2
   ·have:=h.hi;omega
  ·rcases f6 q hq with h1 | h1
   ·exact .inr h1
   ·have:=O6.cr q hq
    exact .inl ⟨by omega,by simp;omega⟩
 ·exact (hc.grown g6 (fun k hk=>Nat.lt_of_lt_of_le hg (hrow k hk))).aI (Nat.lt_of_lt_of_le hg h.lo) _ _
 ·exact (kb.grown g6 (fun k hk=>hrow k hk)).aI h.lo _
theorem fw.still {w w5 w6:World} {g b n cap:Nat} {vs:List Lv} {ls:List Lk} {j:Nat} {x:Lv} {l:Lk} (h:fw w w5 g b n cap vs ls j x l) (g6:w5.grownBy w6 x.row.ownBlock):w6.cell? ⟨b,j*2+1,none⟩=some x.row /\ ∀ o,w6.frozen? ⟨b,o,none⟩=false:=by
 have lS:w6.heap[b]?=w5.heap[b]?:=g6.block b h.hi (fun e=>(h.far b e.symm).2 rfl)
 exact ⟨(World.cell?_of_block (w:=w5) lS).trans h.c1,fun o=>(World.frozen?_of_block (w:=w5) lS).trans (h.fz o)⟩
set_option maxHeartbeats 8000000 in
theorem Ca (g:Nat) (w:World) (hc:bf w g) :
  Calls Tryz.prog 52 #[.pointer (some ⟨g,0,none⟩)] w fun e w'=>∃ (v:Value) (ls:List Lk),e = .returned v /\ DK w w' g v ls /\ 1 <= ls.length /\ ls.length <= 6 /\ bR ls <= 17:=by
 have hgl:=hc.lt
 go_enter Tryz.func52,Tryz.ntmps52
 go_wp2_with fail
 refine (Cn g _ hc).mono ?_
 rintro e w1 ⟨v,ls,rfl,D1,h1,h4,hs⟩
 obtain ⟨vs,M⟩:=D1.mine
 obtain ⟨a,cap,rfl,-,-,-⟩:=M.args
 clear M vs hc
 obtain ⟨n,Hn⟩:∃ n:Nat,Hid (ls.length=n):=⟨_,rfl⟩
 rw [Hn.out] at h1 h4 D1 ⊢
 have Hs:Hid (bR ls <= 16):=hs
 clear hs
 go_wp2_with fail
 refine (cl g _ _ D1.cur (by omega) (by omega)).mono ?_
 rintro e w2 ⟨jj,rfl,hj0,hj1,hc2,k2⟩
 have D2:=D1.but hgl k2 hc2
 clear D1 hc2 k2
 obtain ⟨j,rfl⟩:=Int.eq_ofNat_of_zero_le hj0
 have hj:j < n:=by omega
 go_wp2_with fail
 refine (cl g _ _ D2.cur (by omega) (by omega)).mono ?_
 rintro e w3 ⟨c,rfl,hx0,hx1,hc3,k3⟩
 have D3:=D2.but hgl k3 hc3
 clear D2 hc3 k3
 obtain ⟨l,hl1⟩:=cd (xs:=ls) (k:=j) (by rw [Hn.out];exact hj)
 have Hl:Hid (ls[j]?=some l):=hl1
 clear hl1
 go_upto_block 0 with fail
 go_cut [3] (fun u wx=>∃ ls':List Lk,Hid (DK w wx g u ls') /\ 1 <= ls'.length /\ ls'.length <= 6 /\ bR ls' <= 17)
 case first =>
  obtain rfl | rfl | rfl | hc8:c=0∨c=1∨c=2∨3 <= c:=by omega
  ·go_wp2_with fail
   refine (iu (fun _=>True) g [-1,0,3,1000,1001] _ _ 5 5 _ _ rfl D3.cur rfl (by decide) (by decide) rfl (by simp)).mono ?_
   rintro e w4 ⟨x,rfl,-,hc4,k4⟩
   have D4:=D3.but hgl k4 hc4
   clear D3 k4
   obtain ⟨b,cap2,vs,y,e,A⟩:=D4.at Hl.out
   rw [Hn.out] at e A
   simp only [Value.slice.injEq] at e
   obtain ⟨rfl,-,rfl⟩:=e
   have S:=A.eL hc4 D4.kb hgl x
   have HS:Hid (DK w (w4.setCell ⟨b,j*2,none⟩ (.int .i64 x)) g (.slice (some ⟨b,0,none⟩) n cap) (ls.set j { l with owner:=x })):=S
   have q1:=A.c0
   have q2:=A.fz
   clear S A D4 hc4
   go_wp2_with fail
   go_meet
   refine ⟨_,HS,by rw [List.length_set,Hn.out];exact h1,by rw [List.length_set,Hn.out];omega,?_⟩
   have z1:=sM { l with owner:=x } Hl.out
   have z2:=Hs.out
   dsimp only at z1
   clear HS q1 q2
   omega
  ·obtain ⟨b,cap2,vs,y,e,A0⟩:=D3.at Hl.out
   rw [Hn.out] at e A0
   simp only [Value.slice.injEq] at e
   obtain ⟨rfl,-,rfl⟩:=e
   have A:Hid (fw w w3 g b n cap vs ls j y l):=A0
   have D:Hid (DK w w3 g (.slice (some ⟨b,0,none⟩) n cap) ls):=D3
   obtain ⟨yo,ya,yn,yc⟩:=y
   have hbg:b≠g:=by have:=A0.lo;omega
   have r1:∀ w',ab g w3 w'->w'.cell? ⟨b,j*2+1,none⟩=some (.slice ya yn yc):=ab.has hbg A0.c1
   clear A0 D3
   have hw1:Hid (l.waits.length <= 16):=by show _ <= _;have:=lh Hl.out;have:=Hs.out;unfold bR at this;omega
   go_wp2_with fail
   go_region_law (first
    | (go_simp;go_at_call 49;refine (cl g _ _ (D.out.cur.keeps (by first | exact aa.refl _ | exact (aa.refl _).drew)) (by omega) (by omega)).mono ?_;rintro e w4 ⟨x,rfl,hy0,hy1,hc4,k4⟩;have vM:ab g w3 w4:=ab.trans (by first | exact ab.refl _ _ | exact (ab.refl _ _).drew) k4;have A5:Hid (fw w (w4.alloc (.cells #[.int .i64 x] 3)) g b n cap vs ls j ⟨yo,ya,yn,yc⟩ l):=A.out.but hgl (vM.alloc _);have K5:Hid (ab g w (w4.alloc (.cells #[.int .i64 x] 3))):=D.out.kb.trans (vM.alloc _);have C5:Hid (bf (w4.alloc (.cells #[.int .i64 x] 3)) g):=hc4.keeps ((aa.refl _).alloc _))
    | (refine mr rfl (.tmp 30) (.tmp 33) 27 rfl w.heap.size 3 (.int .i64 0) 1 8 ic Tryz.underlying27 (by kernel_rfl) rfl (by decide) fq kV (.slice ya yn yc) l.waits (by simp [Act.eval]) A5.out.row K5.out.size [x] _ 0 1 (nS (aq.new _ _ _)) (by simp [Act.eval]) (by have:=hw1.out;simp [maxLen];omega) (by have:=hw1.out;simp;omega) ?_;intro v6 w6 o6 g6 f6;obtain ⟨a6,c7,e6,-,-,-⟩:=aS.ns o6;obtain ⟨m6,jg⟩:∃ m,Hid ((l.waits++[x]).length=m):=⟨_,rfl⟩;rw [jg.out] at e6;subst e6;obtain ⟨s3,s4⟩:=A5.out.still g6;have FIN:Hid (DK w (w6.setCell ⟨b,j*2+1,none⟩ (.slice a6 m6 c7)) g (.slice (some ⟨b,0,none⟩) n cap) (ls.set j { l with waits:=l.waits++[x] })):=A5.out.waits C5.out K5.out hgl o6 g6 (fun q hq=>(f6 q hq).imp id (fun e=>Nat.le_of_eq e.symm));clear o6 g6 f6))
   all_goals
    go_wp2_with fail
    go_meet
    refine ⟨_,FIN,by rw [List.length_set,Hn.out];exact h1,by rw [List.length_set,Hn.out];omega,?_⟩
    have z1:=sM { l with waits:=l.waits++[x] } Hl.out
    have z2:=Hs.out
    simp only [List.length_append,List.length_cons,List.length_nil] at z1
    clear FIN r1 s3 s4
    omega
  ·go_wp2_with fail
   refine (cl g _ _ D3.cur (by omega) (by omega)).mono ?_
   rintro e w4 ⟨m,rfl,hm0,hm1,hc4,k4⟩
   obtain ⟨n',kD⟩:∃ n:Nat,Hid (5+m=(n:Int)):=⟨(5+m).toNat,by show _=_;omega⟩
   have hn1:1 <= n':=by have:=kD.out;omega
   have ks:n' <= 6:=by have:=kD.out;omega
   have hmk:=vI n' (by omega) (5+m) kD.out
   have S:Hid (DK w (w4.alloc (.cells (madeCells #[.int .i64 0,.slice none 0 0] (n'*2)) 37)) g (.slice (some ⟨w4.heap.size,0,none⟩) n' n') (List.replicate n' ⟨0,[]⟩)):=DK.made hc4 (D3.kb.trans k4) n' (by omega)
   clear D3 k4 hc4
   go_wp2_with fail
   go_meet
   exact ⟨_,S,by simp;omega,by simp;omega,by rw [vH];omega⟩
  ·have n0:(c==0)=false:=by simp;omega
   have n1:(c==1)=false:=by simp;omega
   have n2:(c==2)=false:=by simp;omega
   have HD:Hid (DK w w3 g (.slice a n cap) ls):=D3
   clear D3
   go_wp2_with fail
   go_meet
   exact ⟨_,HD,by rw [Hn.out];omega,by rw [Hn.out];omega,by have:=Hs.out;omega⟩
 case rest =>
 obtain ⟨ls',D9,q1,q2,q3⟩:=hcut
 go_wp2
 go_ret
 exact ⟨_,ls',rfl,D9.out,q1,q2,q3⟩
end
end Go.Proofs.YteagpjlgjfaclaaGreatDoor
