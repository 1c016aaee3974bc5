/-
  Calls: a task is moved.
  The program's locks: copies of them, and what may be passed
-/
import Derived.Test.YteagpjlgjfaclaaGreatDoorDraw1
import Derived.Test.YteagpjlgjfaclaaGreatDoorFairList
import Derived.Test.YteagpjlgjfaclaaGreatDoorSysWake
import Derived.Test.YteagpjlgjfaclaaGreatDoorTaskBase
import Derived.Deep.Cut
import Derived.Test.YteagpjlgjfaclaaGreatDoorImplLockB
import Derived.Test.YteagpjlgjfaclaaGreatDoorDueSpec
namespace Go.Proofs.YteagpjlgjfaclaaGreatDoor
set_option maxRecDepth 100000
open Go.RowKit
attribute [local go_sem] Keeps.refl Keeps.alloc Keeps.drew Keeps.drewN
set_option linter.unusedSimpArgs false in
set_option maxHeartbeats 8000000 in
theorem qin {w:World} {lo:Nat} {v:Sv} {vs:List Lv} {s:Sy} (h:OwnS w lo v vs s) (hl:lo <= w.heap.size) (R:SysR s) (c:Cl) {k:Nat} {t:Tsk} (ht:s.tasks[k]?=some t) :
  Calls Tryz.prog 89 #[.agg (syc s v),ck c,.int .i64 k] w (Did w lo v vs (qcQ s c t) (qek s c k t)):=by
 obtain ⟨⟨ta,tn,tcap⟩,⟨la,ln,lcap⟩,⟨ga,gn,gcap⟩,⟨fa,fn,fcap⟩,⟨ra,rn,rcap⟩⟩:=v
 have hk:k < s.tasks.length:=qaw ht
 obtain ⟨tb,htb⟩:=h.tasksAt hk
 dsimp only at htb
 subst htb
 have HK:Hid (s.tasks[k]?=some t):=ht
 have Hk:Hid (k < s.tasks.length):=hk
 have hcpu:=R.onCpus t (List.mem_of_getElem? ht)
 have hcs:=R.cpus
 have hfl:=R.floors
 have hwr:IntKind.i64.wrap (s.cpus - 1)=s.cpus - 1:=Go.IntWalk.i64_in _ (by omega)
 obtain ⟨oa,Hoa⟩:∃ z,Hid (qck s.locks t.no=z):=⟨_,rfl⟩
 obtain ⟨za,Hz⟩:∃ z,Hid (qaJ s.locks t.no=z):=⟨_,rfl⟩
 obtain ⟨bad,Hbad⟩:∃ z,Hid (((t.cls != 3)||(oa||decide (0 <= za)))=z):=⟨_,rfl⟩
 have HN0:Hid (qcQ s c t=if bad then 5 else if !inB c.cpu 0 (s.cpus - 1) then 1 else 0):=by
  show _=_
  have e1:(!decide (za < 0))=decide (0 <= za):=by rw [Bool.eq_iff_iff];simp
  unfold qcQ qeO
  rw [Hoa.out,Hz.out,e1,Hbad.out]
 have hkn:(k:Int) < (tn:Int):=by have:=(h.t.row qao).1;dsimp only at this;omega
 obtain ⟨A0',C0',kZ⟩:=ask3 h hl c
 have C0:Hid (Blk (qat w ⟨⟨some ⟨tb,0,none⟩,tn,tcap⟩,⟨la,ln,lcap⟩,⟨ga,gn,gcap⟩,⟨fa,fn,fcap⟩,⟨ra,rn,rcap⟩⟩ s c) (w.heap.size+1) (cc c)):=C0'
 have T0:∀ w',Keeps (qat w ⟨⟨some ⟨tb,0,none⟩,tn,tcap⟩,⟨la,ln,lcap⟩,⟨ga,gn,gcap⟩,⟨fa,fn,fcap⟩,⟨ra,rn,rcap⟩⟩ s c) w'->∀ i,i < 14->w'.cell? ⟨tb,k*14+i,none⟩=(tc t)[i]?:=fun w' kk i hi=>((kZ.trans kk).cells tb _ (h.blkLt (i:=0) (b:=tb) rfl).2).trans ((h.taskCells (rb:=tb) rfl ht).1 i hi)
 have T00:∀ w',Keeps (qat w ⟨⟨some ⟨tb,0,none⟩,tn,tcap⟩,⟨la,ln,lcap⟩,⟨ga,gn,gcap⟩,⟨fa,fn,fcap⟩,⟨ra,rn,rcap⟩⟩ s c) w'->w'.cell? ⟨tb,k*14,none⟩=some (.int .i64 t.no):=fun w' kk=>T0 w' kk 0 (by omega)
 have A00:Hid (AskR w lo ⟨⟨some ⟨tb,0,none⟩,tn,tcap⟩,⟨la,ln,lcap⟩,⟨ga,gn,gcap⟩,⟨fa,fn,fcap⟩,⟨ra,rn,rcap⟩⟩ vs (qat w ⟨⟨some ⟨tb,0,none⟩,tn,tcap⟩,⟨la,ln,lcap⟩,⟨ga,gn,gcap⟩,⟨fa,fn,fcap⟩,⟨ra,rn,rcap⟩⟩ s c) w.heap.size (w.heap.size+2) ⟨⟨some ⟨tb,0,none⟩,tn,tcap⟩,⟨la,ln,lcap⟩,⟨ga,gn,gcap⟩,⟨fa,fn,fcap⟩,⟨ra,rn,rcap⟩⟩ vs s):=A0'
 have HS0:Hid (SysOn (qat w ⟨⟨some ⟨tb,0,none⟩,tn,tcap⟩,⟨la,ln,lcap⟩,⟨ga,gn,gcap⟩,⟨fa,fn,fcap⟩,⟨ra,rn,rcap⟩⟩ s c) ⟨⟨some ⟨tb,0,none⟩,tn,tcap⟩,⟨la,ln,lcap⟩,⟨ga,gn,gcap⟩,⟨fa,fn,fcap⟩,⟨ra,rn,rcap⟩⟩ s):=(h.on (by have:=R.small;omega)).keeps kZ
 clear A0' C0' h
 go_enter Tryz.func89,Tryz.ntmps89
 go_upto_region 1 with fail
 change Code.wp _ _ _ _ (qat w ⟨⟨some ⟨tb,0,none⟩,tn,tcap⟩,⟨la,ln,lcap⟩,⟨ga,gn,gcap⟩,⟨fa,fn,fcap⟩,⟨ra,rn,rcap⟩⟩ s c)
 generalize qat w ⟨⟨some ⟨tb,0,none⟩,tn,tcap⟩,⟨la,ln,lcap⟩,⟨ga,gn,gcap⟩,⟨fa,fn,fcap⟩,⟨ra,rn,rcap⟩⟩ s c=Z0 at *
 have hb00:∀ w',Keeps Z0 w'->∀ q,w'.cell? ⟨w.heap.size,q,none⟩=(syc s ⟨⟨some ⟨tb,0,none⟩,tn,tcap⟩,⟨la,ln,lcap⟩,⟨ga,gn,gcap⟩,⟨fa,fn,fcap⟩,⟨ra,rn,rcap⟩⟩)[q]?:=fun w' k=>(A00.out.g.var.box.keeps k).cells
 dsimp only [syc] at hb00
 go_upto_region 2 with fail
 have TB:Hid (Blk (Z0.alloc (.cells (tc t) 43)) Z0.heap.size (tc t)):=Blk.new _ _ _
 have A0:Hid (AskR w lo ⟨⟨some ⟨tb,0,none⟩,tn,tcap⟩,⟨la,ln,lcap⟩,⟨ga,gn,gcap⟩,⟨fa,fn,fcap⟩,⟨ra,rn,rcap⟩⟩ vs (Z0.alloc (.cells (tc t) 43)) w.heap.size (w.heap.size+2) ⟨⟨some ⟨tb,0,none⟩,tn,tcap⟩,⟨la,ln,lcap⟩,⟨ga,gn,gcap⟩,⟨fa,fn,fcap⟩,⟨ra,rn,rcap⟩⟩ vs s):=A00.out.keeps ((Keeps.refl _).alloc _)
 have HS:Hid (SysOn (Z0.alloc (.cells (tc t) 43)) ⟨⟨some ⟨tb,0,none⟩,tn,tcap⟩,⟨la,ln,lcap⟩,⟨ga,gn,gcap⟩,⟨fa,fn,fcap⟩,⟨ra,rn,rcap⟩⟩ s):=HS0.out.keeps ((Keeps.refl _).alloc _)
 have ftb:Hid (∀ i,¬ qaf ⟨⟨some ⟨tb,0,none⟩,tn,tcap⟩,⟨la,ln,lcap⟩,⟨ga,gn,gcap⟩,⟨fa,fn,fcap⟩,⟨ra,rn,rcap⟩⟩ vs i Z0.heap.size):=fun i hi=>by have:=(A00.out.g.var.own.blkLt hi).2;omega
 have hob:w.heap.size≠Z0.heap.size:=by have:=A00.out.g.var.box.lt;omega
 have hrb:w.heap.size+2≠Z0.heap.size:=by have:=A00.out.r.lt;omega
 have C1:Hid (Blk (Z0.alloc (.cells (tc t) 43)) (w.heap.size+1) (cc c)):=C0.out.keeps ((Keeps.refl _).alloc _)
 change Code.wp _ _ _ _ (Z0.alloc (.cells (tc t) 43))
 clear T0 T00 hb00 A00 HS0 kZ C0
 generalize Z0.alloc (.cells (tc t) 43)=Z at *
 generalize Z0.heap.size=tbx at *
 have hb0:∀ w',Keeps Z w'->∀ q,w'.cell? ⟨w.heap.size,q,none⟩=(syc s ⟨⟨some ⟨tb,0,none⟩,tn,tcap⟩,⟨la,ln,lcap⟩,⟨ga,gn,gcap⟩,⟨fa,fn,fcap⟩,⟨ra,rn,rcap⟩⟩)[q]?:=fun w' k=>(A0.out.g.var.box.keeps k).cells
 dsimp only [syc] at hb0
 have ht0:∀ w',Keeps Z w'->∀ j,w'.cell? ⟨tbx,j,none⟩=(tc t)[j]?:=fun w' k=>(TB.out.keeps k).cells
 have hc0:∀ w',Keeps Z w'->∀ q,w'.cell? ⟨w.heap.size+1,q,none⟩=(cc c)[q]?:=fun w' k=>(C1.out.keeps k).cells
 have OA:Hid (∀ w',Keeps Z w'->Calls Tryz.prog 148 #[.slice la ln lcap,.int .i64 t.no] w' fun e w''=>e = .returned (.bool oa) /\ Keeps w' w''):=fun w' kk=>HS.out.onL.sOwnsAny t.no Hoa.out kk
 have WA:Hid (∀ w',Keeps Z w'->Calls Tryz.prog 84 #[.slice la ln lcap,.int .i64 t.no] w' fun e w''=>e = .returned (.int .i64 za) /\ Keeps w' w''):=fun w' kk=>HS.out.onL.sWaitAt t.no Hz.out kk
 go_cut [14] (fun b wx=>b = .bool bad /\ Keeps Z wx)
 case first =>
  cases d1:(t.cls != 3)
  rotate_left
  ·have hr:bad=true:=by rw [<- Hbad.out,d1];rfl
   go_wp2
   go_meet
   exact ⟨by rw [hr],Keeps.refl _⟩
  cases oa
  rotate_left
  ·have hr:bad=true:=by rw [<- Hbad.out,d1];rfl
   go_wp2_with (go_at_call 148;refine (OA.out _ (by first | assumption | exact Keeps.refl _ | exact (Keeps.refl _).drew | exact Keeps.drew (by assumption))).mono ?_;rintro e w5 ⟨rfl,k5⟩)
   go_meet
   exact ⟨by rw [hr],k5⟩
  have hr:bad=decide (0 <= za):=by rw [<- Hbad.out,d1];rfl
  go_wp2_with (go_at_call 148;refine (OA.out _ (by first | assumption | exact Keeps.refl _ | exact (Keeps.refl _).drew | exact Keeps.drew (by assumption))).mono ?_;rintro e w5 ⟨rfl,k5⟩)
  have k5':Keeps Z w5:=k5
  go_wp2_with (go_at_call 84;refine (WA.out _ (by first | assumption | exact Keeps.refl _ | exact (Keeps.refl _).drew | exact Keeps.drew (by assumption))).mono ?_;rintro e w6 ⟨rfl,k6⟩)
  go_meet
  exact ⟨by rw [hr],k5.trans k6⟩
 case rest =>
 obtain ⟨rfl,kx⟩:=hcut
 generalize wc=wx at *
 clear OA WA Hbad Hz Hoa
 cases bad
 rotate_left
 ·have HN:Hid (qcQ s c t=5):=HN0.out
  have AE:=A0.out.keeps kx
  obtain ⟨_,o1,o2⟩:=AE.g.var.box
  dsimp only [syc] at o1
  obtain ⟨_,r1,r2⟩:=AE.r
  go_wp2
  exact AE.ret HN.out (fun h=>absurd h (by decide)) rfl (fun Q D=>by simp [results,Tryz.results89,go_sem,D])
 cases c2:inB c.cpu 0 (s.cpus - 1)
 ·have HN:Hid (qcQ s c t=1):=by show _=_;rw [HN0.out,c2];rfl
  go_wp2_with fail
  refine (qag _ _ _ _).mono ?_
  rintro e w' ⟨rfl,hw'⟩
  have hw2:=hw'.symm
  subst hw2
  rw [c2]
  have AE:=A0.out.keeps kx
  obtain ⟨_,o1,o2⟩:=AE.g.var.box
  dsimp only [syc] at o1
  obtain ⟨_,r1,r2⟩:=AE.r
  go_wp2
  exact AE.ret HN.out (fun h=>absurd h (by decide)) rfl (fun Q D=>by simp [results,Tryz.results89,go_sem,D])
 have HN:Hid (qcQ s c t=0):=by show _=_;rw [HN0.out,c2];rfl
 obtain ⟨q0,q1⟩:=qas.1 c2
 obtain ⟨ck,cn,cp,ca,cb⟩:=c
 dsimp only at q0 q1 c2
 obtain ⟨q,rfl⟩:∃ q:Nat,cp=(q:Int):=⟨cp.toNat,by omega⟩
 obtain ⟨p,hp⟩:∃ p:Nat,t.cpu=(p:Int):=⟨t.cpu.toNat,by omega⟩
 obtain ⟨u,rfl⟩:∃ u:Tsk,t={ u with cpu:=(p:Int) }:=⟨t,by rw [<- hp]⟩
 dsimp only at hcpu
 obtain ⟨x1,hx1⟩:=qal (xs:=s.floors) (k:=p) (by omega)
 obtain ⟨x2,hx2⟩:=qal (xs:=s.floors) (k:=q) (by omega)
 obtain ⟨fb,hfb⟩:=A0.out.g.var.own.floorsAt (k:=p) (by omega)
 dsimp only at hfb
 subst hfb
 have hfn:=(A0.out.g.var.own.f.row qaW).1
 dsimp only at hfn
 have hpn:(p:Int) < (fn:Int):=by omega
 have hqn:(q:Int) < (fn:Int):=by omega
 have F1:∀ w',Keeps Z w'->w'.cell? ⟨fb,p,none⟩=some (.int .i64 x1):=fun w' kk=>by
  obtain ⟨f1,-,f3,-⟩:=A0.out.g.var.own.floorCell (fb:=fb) rfl hx1
  exact (kk.cells fb _ f3).trans f1
 have F2:∀ w',Keeps Z w'->w'.cell? ⟨fb,q,none⟩=some (.int .i64 x2):=fun w' kk=>by
  obtain ⟨f1,-,f3,-⟩:=A0.out.g.var.own.floorCell (fb:=fb) rfl hx2
  exact (kk.cells fb _ f3).trans f1
 obtain ⟨NT,HNT⟩:∃ N,Hid (qbF { u with cpu:=(p:Int) } q x1 x2=N):=⟨_,rfl⟩
 have HC:Hid ({ (s:Sy) with tasks:=s.tasks.set k NT }=qek s ⟨ck,cn,q,ca,cb⟩ k { u with cpu:=(p:Int) }):=by
  show _=_
  unfold qek
  dsimp only
  rw [Int.toNat_natCast,Int.toNat_natCast,List.getD_eq_getElem?_getD,List.getD_eq_getElem?_getD,hx1,hx2,Option.getD_some,Option.getD_some,HNT.out]
 clear hx1 hx2 hfn hp hcpu hfl
 go_upto_region 6 with (go_at_call 27;refine (qag _ _ _ _).mono ?_;rintro e w' ⟨rfl,hw'⟩;have hw2:=hw'.symm;subst hw2;rw [c2])
 refine qcs 20 (S:=(fun w'=>Keeps Z w')) (by kernel_rfl) ?_ (fun hHeld => ?_)
 ·exact kx.drew
 refine Plan.go [0,1,2,3,4,5,6,7,8,9,10,11,12,13,14,15,16,17] ?_
 iterate 18 (refine qbp (by simp only [qab];rfl) (by kernel_rfl) (by exact fun _ _ _ h=>h) (by rfl) (by assumption) (fun w _=>by go_simp;try (with_reducible rfl)) ?_;try simp only [qaa])
 refine Plan.nil ?_
 refine qbh (i:=18) (by kernel_rfl) (by simp only [List.getElem?_toArray,List.getElem?_cons_succ,List.getElem?_cons_zero];rfl) (fun K hK => ?_)
 go_simp
 (go_at_call 153;refine (qjg { u with cpu:=(p:Int) } q x1 x2 _).mono ?_;rintro e w8 ⟨rfl,k8⟩;rw [HNT.out])
 try go_wp2_with fail
 refine hK.out _ _ ?_ (fun hHeld => ?_)
 ·first | assumption | exact Keeps.trans (by assumption) (by assumption)
 clear hK K
 try simp only [qaa]
 refine Plan.go [19] ?_
 iterate 1 (refine qbp (by simp only [qab];rfl) (by kernel_rfl) (by exact fun _ _ _ h=>h) (by rfl) (by assumption) (fun w _=>by go_simp;try (with_reducible rfl)) ?_;try simp only [qaa])
 refine Plan.nil ?_
 refine qcr (by kernel_rfl) (by simp only [List.getElem?_toArray,List.getElem?_cons_succ,List.getElem?_cons_zero];rfl) (by kernel_rfl) (fun K hK => ?_)
 have K8:Keeps Z w8:=(by assumption);have A8:=A0.out.keeps K8;obtain ⟨z1,z2⟩:=A8.g.var.own.taskCells (rb:=tb) rfl (k:=k) HK.out;have y0:w8.cell? ⟨tb,k*14,none⟩=some (.int .i64 u.no):=z1 0 (by omega)
 go_simp
 try go_wp2_with fail
 refine hK.out _ _ ?_
 clear hK K
 try simp only [qaa]
 have AN:Hid (AskR w lo ⟨⟨some ⟨tb,0,none⟩,tn,tcap⟩,⟨la,ln,lcap⟩,⟨ga,gn,gcap⟩,⟨some ⟨fb,0,none⟩,fn,fcap⟩,⟨ra,rn,rcap⟩⟩ vs (putC w8 tb (k*14) (tc NT).toList) w.heap.size (w.heap.size+2) ⟨⟨some ⟨tb,0,none⟩,tn,tcap⟩,⟨la,ln,lcap⟩,⟨ga,gn,gcap⟩,⟨some ⟨fb,0,none⟩,fn,fcap⟩,⟨ra,rn,rcap⟩⟩ vs { (s:Sy) with tasks:=s.tasks.set k NT }):=A8.task (tb:=tb) rfl Hk.out NT
 clear z1 z2 y0 A8 K8 hb0 hc0 ht0 F1 F2 hHeld
 change Exit.then _ _ _ _ (putC w8 tb (k*14) (tc NT).toList)
 generalize putC w8 tb (k*14) (tc NT).toList=X9 at *
 have AE:=AN.out
 obtain ⟨_,o1,o2⟩:=AE.g.var.box
 dsimp only [syc] at o1
 obtain ⟨_,r1,r2⟩:=AE.r
 go_wp2
 exact AE.ret HN.out (fun _=>HC.out) rfl (fun Q D=>by simp [results,Tryz.results89,go_sem,D])
end Go.Proofs.YteagpjlgjfaclaaGreatDoor
namespace Go.Proofs.YteagpjlgjfaclaaGreatDoor
set_option maxRecDepth 100000
open Go.RowKit
attribute [local go_sem] Keeps.refl Keeps.alloc Keeps.drew Keeps.drewN
theorem qjU (a:Option Addr) (cap n:Nat) (i:Int) (w:World) (hl:n <= maxLen) :
  Calls Tryz.prog 186 #[.slice a n cap,.int .i64 i] w fun e w'=>e = .returned (.bool (inB i 0 ((n:Int) - 1))) /\ w'=w:=by
 unfold maxLen at hl
 have ewrap:IntKind.i64.wrap ((n:Int) - 1)=(n:Int) - 1:=Go.IntWalk.i64_in _ (by omega)
 obtain ⟨q,Hq⟩:∃ q,Hid (inB i 0 ((n:Int) - 1)=q):=⟨_,rfl⟩
 rw [Hq.out]
 go_enter Tryz.func186,Tryz.ntmps186
 go_wp2_with (go_at_call 105;refine (qaN _ _ _ _).mono ?_;rintro e w' ⟨rfl,hw'⟩;have hw2:=hw'.symm;subst hw2;rw [Hq.out])
 go_ret
 exact ⟨rfl,rfl⟩
set_option maxHeartbeats 1000000 in
theorem qgn (a:Option Addr) (cap:Nat) (xs:List Int) (w:World) (hl:xs.length <= 2097152) (hs:Ns w a xs) :
  Calls Tryz.prog 128 #[.slice a xs.length cap] w fun e w'=>e = .returned (.slice (some ⟨w.heap.size,0,none⟩) xs.length xs.length) /\ OwnN w' w.heap.size (.slice (some ⟨w.heap.size,0,none⟩) xs.length xs.length) xs /\ Keeps w w':=by
 generalize hn:xs.length=n at hl
 have Hn:Hid (xs.length=n):=hn
 clear hn
 obtain ⟨C,hC,hmk⟩:=qdH (P:=Tryz.prog) 27 3 (.int .i64 0) 1 8 Tryz.underlying27 (by kernel_rfl) n (by omega) (by omega)
 have hr0:=Row.new w C 3
 have hs0:=hs.lies.keeps ((Keeps.refl w).alloc (.cells C 3))
 have HC:Hid (C.size=n*1):=hC
 clear hC
 go_enter Tryz.func128,Tryz.ntmps128
 go_upto_region 2 with fail
 have kW:=blkK w (.cells C 3)
 clear hmk hs
 generalize w.alloc (.cells C 3)=W at *
 have hrun:∀ ty,(Builtin.copy_ #[27,27] ty #[.slice (some ⟨w.heap.size,0,none⟩) n n,.slice a n cap]).run Tryz.prog W = .ok (goInt n) (W.setRow w.heap.size (setL C 0 (qae ic xs))):=fun ty=>by
  have:=qdo (P:=Tryz.prog) ic 1 qaW (by decide) qcH W 27 27 ty 3 (some ⟨w.heap.size,0,none⟩) a n n n cap C 3 w.heap.size 0 xs Tryz.underlying27 (by kernel_rfl) hr0 (by rw [Hn.out];simp) (fun _=>rfl) hs0 (by rw [Hn.out,HC.out];omega)
  rwa [Hn.out] at this
 have R1:Hid (Row (W.setRow w.heap.size (setL C 0 (qae ic xs))) w.heap.size 3 (qae ic xs).toArray):=by
  have e:=qdQ (L:=qae ic xs) (C:=C) (by rw [qa7 qaW,Hn.out,HC.out])
  have:=hr0.setRow (setL C 0 (qae ic xs))
  show Row _ _ _ _
  rw [<- e];exact this
 have K1:Hid (Keeps w (W.setRow w.heap.size (setL C 0 (qae ic xs)))):=kW.setRow (Nat.le_refl _) _
 clear hr0 hs0 kW
 generalize W.setRow w.heap.size (setL C 0 (qae ic xs))=X at *
 go_wp2
 go_ret
 refine ⟨rfl,?_,K1.out⟩
 have:=R1.out.own (sz:=1) qaW (base:=w.heap.size) (Nat.le_refl _) (by rw [Hn.out];unfold maxLen;omega)
 rwa [Hn.out] at this
set_option maxHeartbeats 4000000 in
theorem qjV (a:Option Addr) (cap:Nat) (ls:List Lk) (w:World) (hl:qaj ls <= 2097152) (hs:Lks true w a ls) :
  Calls Tryz.prog 126 #[.slice a ls.length cap] w fun e w'=>∃ b vs,e = .returned (.slice (some ⟨b,0,none⟩) ls.length ls.length) /\ Mine w' w.heap.size w'.heap.size (.slice (some ⟨b,0,none⟩) ls.length ls.length) vs ls /\ Keeps w w':=by
 have hl0:ls.length <= 2097152:=by unfold qaj at hl;omega
 have HL:Hid (qaj ls <= 2097152):=hl
 clear hl
 generalize hn:ls.length=n at hl0
 have Hn:Hid (ls.length=n):=hn
 clear hn
 have hmk:=qeE (P:=Tryz.prog) 25 37 (.agg #[.int .i64 0,.slice none 0 0]) 2 32 Tryz.underlying25 (by kernel_rfl) n (by omega) (by omega)
 simp only [Value.cells] at hmk
 have M0:Hid (Mine (w.alloc (.cells (madeCells #[.int .i64 0,.slice none 0 0] (n*2)) 37)) w.heap.size (w.heap.size+1) (.slice (some ⟨w.heap.size,0,none⟩) n n) (List.replicate n Lv.zero) (List.replicate n ⟨0,[]⟩)):=Mine.zero w n (by unfold maxLen;omega)
 go_enter Tryz.func126,Tryz.ntmps126
 go_wp2
 go_loopw [11] (fun i wr=>∃ (k:Nat) (vs:List Lv) (P:List Lk),k <= n /\ i = .int .i64 k /\ Keeps w wr /\ Hid (Mine wr w.heap.size wr.heap.size (.slice (some ⟨w.heap.size,0,none⟩) n n) vs P) /\ Hid (P.length=n) /\ Hid (∀ (j:Nat) (l:Lk),j < k->ls[j]?=some l->P[j]?=some l)) (fun i _=>n - (intOf i).toNat)
 case atStart=>exact ⟨0,_,_,Nat.zero_le _,rfl,(Keeps.refl _).alloc _,M0.out.widen (Nat.le_refl _) (by simp),by show _=_;simp,fun j _ hj=>by omega⟩
 case round =>
  obtain ⟨k,vs,P,hk,rfl,hK,M,hP,hf⟩:=hrel
  clear hmk M0
  by_cases hlt:k < n
  ·obtain ⟨l,hl1⟩:=qal (xs:=ls) (k:=k) (by rw [Hn.out];exact hlt)
   obtain ⟨b,off,a',cap',rfl,r0,r1,hle,hns⟩:=hs.at hl1
   have hlt':(k:Int) < (n:Int):=by omega
   have Hl:Hid (ls[k]?=some l):=hl1
   have N1:Hid (Ns w a' l.waits):=hns
   have hw:Hid (l.waits.length <= 2097152):=by show _ <= _;have:=qcM hl1;have:=HL.out;unfold qaj at this;omega
   clear hs hl1 hns hle
   have hvl:Hid (k < vs.length):=by show _ < _;rw [M.out.len,hP.out];exact hlt
   obtain ⟨x,hx⟩:=qal hvl.out
   have Hx:Hid (vs[k]?=some x):=hx
   have hvn:vs.length=n:=M.out.len.trans hP.out
   have O0:=M.out.own
   rw [<- hvn] at O0
   have s0:Hid (∀ w',Keeps wr w'->w'.cell? ⟨w.heap.size,k*2,none⟩=some (.int .i64 x.o)):=Keeps.has (O0.cellAt qbj (k:=0) hx (by omega))
   have s1:Hid (∀ w',Keeps wr w'->w'.cell? ⟨w.heap.size,k*2+1,none⟩=some x.row):=Keeps.has (O0.cellAt qbj (k:=1) hx (by omega))
   have bl:Hid (w.heap.size < wr.heap.size):=(O0.ltb _ rfl).2
   have s2:Hid (∀ w',Keeps wr w'->∀ o,w'.frozen? ⟨w.heap.size,o,none⟩=false):=fun w' h o=>(h.frozens _ _ bl.out).trans (O0.frozenAt o)
   clear O0 hx hvn
   obtain ⟨m,Hm⟩:∃ m,Hid (l.waits.length=m):=⟨_,rfl⟩
   rw [Hm.out] at r1
   go_wp2_with fail
   have kX:Hid (Keeps wr (wr.alloc (.cells #[.int .i64 l.owner,.slice a' m cap'] 37))):=(Keeps.refl wr).alloc _
   have B0:Hid (Blk (wr.alloc (.cells #[.int .i64 l.owner,.slice a' m cap'] 37)) wr.heap.size #[.int .i64 l.owner,.slice a' m cap']):=Blk.new _ _ _
   generalize wr.alloc (.cells #[.int .i64 l.owner,.slice a' m cap'] 37)=X at *
   have H0:Hid (Has w wr.heap.size #[.int .i64 l.owner,.slice a' m cap'] X):=⟨hK.trans kX.out,B0.out⟩
   have q0:∀ w',Has w wr.heap.size #[.int .i64 l.owner,.slice a' m cap'] w'->w'.cell? ⟨wr.heap.size,0,none⟩=some (.int .i64 l.owner):=fun w' h=>h.box.cells 0
   have q1:∀ w',Has w wr.heap.size #[.int .i64 l.owner,.slice a' m cap'] w'->w'.cell? ⟨wr.heap.size,1,none⟩=some (.slice a' m cap'):=fun w' h=>h.box.cells 1
   have C1:Hid (∀ w',Keeps w w'->Calls Tryz.prog 128 #[.slice a' m cap'] w' fun e w''=>∃ b',e = .returned (.slice (some ⟨b',0,none⟩) m m) /\ OwnN w'' w'.heap.size (.slice (some ⟨b',0,none⟩) m m) l.waits /\ Keeps w' w''):=fun w' h=>by
    have:=qgn a' cap' l.waits w' hw.out (N1.out.keeps h)
    rw [Hm.out] at this
    exact this.mono fun e w'' h=>⟨_,h.1,h.2.1,h.2.2⟩
   have hbx:wr.heap.size≠w.heap.size:=by have:=bl.out;omega
   clear r0 r1
   refine wp_region_held_drew (S:=(fun w'=>Has w wr.heap.size #[.int .i64 l.owner,.slice a' m cap'] w')) (by kernel_rfl) ?_ (fun hHeld => ?_)
   ·exact H0.out.go (Keeps.refl _).drew
   refine Plan.go [0,1,2,3,4,5] ?_
   iterate 6 (refine qac (by simp only [qab];rfl) (by kernel_rfl) (by exact fun _ _ _ h=>h) (by rfl) (by assumption) (fun w _=>by go_simp;try (with_reducible rfl)) ?_;try simp only [qaa])
   refine Plan.nil ?_
   refine qad 6 (by kernel_rfl) (by simp only [qab];rfl) (fun K hK => ?_)
   go_simp
   first
    | (go_at_call 128;refine (C1.out _ H0.out.keeps.drew).mono ?_;rintro e w6 ⟨b',rfl,o6,k6⟩;have O6:Hid (OwnN w6 X.heap.size (.slice (some ⟨b',0,none⟩) m m) l.waits):=o6;have K6:Hid (Keeps X w6):=(Keeps.refl X).drew.trans k6;clear o6)
   try go_wp2_with fail
   refine hK.out _ _ ?_ (fun hHeld => ?_)
   ·first | exact Has.go (by assumption) (by assumption) | assumption
   clear hK K
   try simp only [qaa]
   refine Plan.go [7,8] ?_
   iterate 2 (refine qac (by simp only [qab];rfl) (by kernel_rfl) (by exact fun _ _ _ h=>h) (by rfl) (by assumption) (fun w _=>by go_simp;try (with_reducible rfl)) ?_;try simp only [qaa])
   refine Plan.nil ?_
   refine qad 9 (by kernel_rfl) (by simp only [qab];rfl) (fun K hK => ?_)
   have z0:=s0.out w6 (kX.out.trans K6.out);have z1:=s1.out w6 (kX.out.trans K6.out);have z2:=s2.out w6 (kX.out.trans K6.out)
   go_simp
   try go_wp2_with fail
   refine hK.out _ _ ?_ (fun hHeld => ?_)
   ·exact Has.put (by assumption) (r:=w.heap.size) (Nat.le_refl _) (by omega) (k*2) [.int .i64 l.owner,.slice (some ⟨b',0,none⟩) m m]
   clear hK K
   try simp only [qaa]
   refine wpAnyH_done (by kernel_rfl) ?_ _
   go_wp2
   have M1:=M.out.keeps (kX.out.trans K6.out)
   have hb':=O6.out.ltb b' rfl
   have sz:=kX.out.size
   have hne:b'≠w.heap.size:=by have:=bl.out;omega
   refine ⟨⟨k+1,vs.set k ⟨l.owner,some ⟨b',0,none⟩,m,m⟩,P.set k l,by omega,by go_num,((hK.trans (kX.out.trans K6.out)).setCell (p:=⟨w.heap.size,k*2,none⟩) (Nat.le_refl _) _).setCell (p:=⟨w.heap.size,k*2+1,none⟩) (Nat.le_refl _) _,?_,by show _=_;simpa using hP.out,?_⟩,by simp only [intOf];omega⟩
   ·refine M1.swap (x:=x) (y:=⟨l.owner,some ⟨b',0,none⟩,m,m⟩) (l:=l) Hx.out (M1.own.setTwo Hx.out ⟨l.owner,some ⟨b',0,none⟩,m,m⟩) (fun b2 h1 h2 h3 => ?_) rfl ?_ (by have:=K6.out.size;simp;omega) (fun b2 e => ?_)
    ·have:b2≠w.heap.size:=fun e=>h1 (by rw [e];rfl)
     rw [qa2 this,qa2 this]
    ·refine Own.base (Own.same O6.out fun b2 e => ?_) (by have:=bl.out;omega)
     have e2:b2=b':=by simpa [Value.ownBlock] using e.symm
     rw [qa2 (by omega),qa2 (by omega)]
    ·have e2:b2=b':=by simpa [Value.ownBlock] using e.symm
     subst e2
     exact .inl ⟨by omega,by simpa using hb'.2⟩
   ·intro j m2 hj hm2
    by_cases e:j=k
    ·subst e
     rw [Hl.out] at hm2
     cases hm2
     exact List.getElem?_set_self (by rw [hP.out];exact hlt)
    ·rw [List.getElem?_set_ne (Ne.symm e)]
     exact hf.out j m2 (by omega) hm2
  ·have e:k=n:=by omega
   subst e
   have e2:Hid (P=ls):=by
    show _=_
    apply List.ext_getElem?
    intro j
    rcases Nat.lt_or_ge j k with hj | hj
    ·obtain ⟨m,hm⟩:=qal (xs:=ls) (k:=j) (by rw [Hn.out];exact hj)
     rw [hm];exact hf.out j m hj hm
    ·rw [List.getElem?_eq_none (by rw [hP.out];exact hj),List.getElem?_eq_none (by rw [Hn.out];exact hj)]
   go_wp2
   go_ret
   exact ⟨w.heap.size,vs,rfl,by have:=M.out;rw [e2.out] at this;exact this,hK⟩
end Go.Proofs.YteagpjlgjfaclaaGreatDoor
