/-
  The program's calls: a task with a part of time is put into
-/
import Derived.Test.YteagpjlgjfaclaaGreatDoorSysLaws
import Derived.Test.YteagpjlgjfaclaaGreatDoorImplSysOk
import Derived.Test.YteagpjlgjfaclaaGreatDoorImplSys
import Derived.Test.YteagpjlgjfaclaaGreatDoorLaidErrs
import Derived.Test.YteagpjlgjfaclaaGreatDoorLockDraw2
import Derived.Test.YteagpjlgjfaclaaGreatDoorImplLockB
import Derived.Test.YteagpjlgjfaclaaGreatDoorDrawTask2
namespace Go.Proofs.YteagpjlgjfaclaaGreatDoor
set_option maxRecDepth 100000
open Go.RowKit
attribute [local go_sem] Keeps.refl Keeps.alloc Keeps.drew Keeps.drewN
def addN (s:Sy) (t:Tsk) (r:Bool):Nat:=if !r || !qbc s t.cpu then 1 else if qak s.tasks t.no then 3 else if !putB s.tasks t then 4 else 0
set_option linter.unusedSimpArgs false in
set_option maxHeartbeats 8000000 in
theorem qgj {w:World} {lo ob:Nat} {v:Sv} {vs:List Lv} {s:Sy} {er:Nat->Addr} (h:VarS w lo ob v vs s) (hlo:lo <= w.heap.size) (E:Errs w er) (hsz:qai s <= 1048576) (hta:∃ tb,v.t.a=some ⟨tb,0,none⟩) (t:Tsk) (r:Bool) :
  Calls Tryz.prog 161 #[.pointer (some ⟨ob,0,none⟩),tk t,.bool r] w (qd1 lo ob v vs s er (addN s t r) { s with tasks:=putL s.tasks t } w):=by
 obtain ⟨⟨ta,tn,tcap⟩,⟨la,ln,lcap⟩,⟨ga,gn,gcap⟩,⟨fa,fn,fcap⟩,⟨ra,rn,rcap⟩⟩:=v
 obtain ⟨tb,hta⟩:=hta
 dsimp only at hta
 subst hta
 have kX:=blkK w (.cells (tc t) 43)
 have BT:Hid (Blk (w.alloc (.cells (tc t) 43)) w.heap.size (tc t)):=Blk.new _ _ _
 have VX:Hid (VarS (w.alloc (.cells (tc t) 43)) lo ob ⟨⟨some ⟨tb,0,none⟩,tn,tcap⟩,⟨la,ln,lcap⟩,⟨ga,gn,gcap⟩,⟨fa,fn,fcap⟩,⟨ra,rn,rcap⟩⟩ vs s):=h.keeps kX
 have HE:Hid (Errs (w.alloc (.cells (tc t) 43)) er):=E.keeps kX
 have HL:Hid (lo <= (w.alloc (.cells (tc t) 43)).heap.size):=by show _ <= _;simp;omega
 clear h E hlo
 go_enter Tryz.func161,Tryz.ntmps161
 go_upto_region 1 with fail
 change Code.wp _ _ _ _ (w.alloc (.cells (tc t) 43))
 generalize (w.alloc (.cells (tc t) 43))=X at *
 have HS:Hid (SysOn X ⟨⟨some ⟨tb,0,none⟩,tn,tcap⟩,⟨la,ln,lcap⟩,⟨ga,gn,gcap⟩,⟨fa,fn,fcap⟩,⟨ra,rn,rcap⟩⟩ s):=VX.out.own.on (by omega)
 have Htn:Hid (s.tasks.length=tn):=HS.out.lay.tl
 have htm:tn <= 1048576:=by rw [<- Htn.out];unfold qai at hsz;omega
 have rT:∀ w',Keeps X w'->∀ q,w'.cell? ⟨w.heap.size,q,none⟩=(tc t)[q]?:=fun w' k=>(BT.out.keeps k).cells
 have rB:∀ w',Keeps X w'->∀ q,w'.cell? ⟨ob,q,none⟩=(syc s ⟨⟨some ⟨tb,0,none⟩,tn,tcap⟩,⟨la,ln,lcap⟩,⟨ga,gn,gcap⟩,⟨fa,fn,fcap⟩,⟨ra,rn,rcap⟩⟩)[q]?:=fun w' k=>(VX.out.box.keeps k).cells
 dsimp only [syc] at rB
 cases r
 ·have HN:Hid (addN s t false=1):=rfl
  have e1:∀ w',Keeps X w'->w'.cell? ⟨1,0,none⟩=some (.iface 284 (.pointer (some (er 1)))):=fun w' k=>(HE.out.keeps k).var 1 (by omega) (by omega)
  refine wp_region_held_drew (S:=(fun w'=>Keeps X w')) (by kernel_rfl) ?_ (fun hHeld => ?_)
  ·exact (Keeps.refl X).drew
  refine Plan.go [0,1,2] ?_
  iterate 3 (refine qac (by simp only [qab];rfl) (by kernel_rfl) (by exact fun _ _ _ h=>h) (by rfl) (by assumption) (fun w _=>by go_simp;try (with_reducible rfl)) ?_;try simp only [qaa])
  refine Plan.nil ?_
  refine Plan.go [3,4,5,6,7,8,9] ?_
  iterate 7 (refine qaA (by simp only [qab];rfl) (by kernel_rfl) (by exact fun _ _ _ h=>h) (by rfl) (by assumption) ?_;try simp only [qaa])
  refine Plan.nil ?_
  refine qar 10 (v := ?_) (by simp only [qab];rfl) (by kernel_rfl) (by exact fun _ _ _ h=>h) (by rfl) (by assumption) ?_ ?_
  rotate_left
  ·(intro w _;go_simp;try (with_reducible rfl))
  try simp only [qaa]
  refine wpAnyH_done (by kernel_rfl) ?_ _
  go_wp2
  go_ret
  exact qeu VX.out kX (Keeps.refl X).drew HN.out (by omega)
 obtain ⟨z1,Hz1⟩:∃ z,Hid (qbc s t.cpu=z):=⟨_,rfl⟩
 refine wp_region_held_drew (S:=(fun w'=>Keeps X w')) (by kernel_rfl) ?_ (fun hHeld => ?_)
 ·exact (Keeps.refl X).drew
 refine Plan.go [0,1,2,3,4,5,6,7] ?_
 iterate 8 (refine qac (by simp only [qab];rfl) (by kernel_rfl) (by exact fun _ _ _ h=>h) (by rfl) (by assumption) (fun w _=>by go_simp;try (with_reducible rfl)) ?_;try simp only [qaa])
 refine Plan.nil ?_
 refine qad 8 (by kernel_rfl) (by simp only [qab];rfl) (fun K hK => ?_)
 go_simp
 (go_at_call 106;refine (qfa s ⟨⟨some ⟨tb,0,none⟩,tn,tcap⟩,⟨la,ln,lcap⟩,⟨ga,gn,gcap⟩,⟨fa,fn,fcap⟩,⟨ra,rn,rcap⟩⟩ t.cpu _).mono ?_;rintro e w2 ⟨rfl,k2⟩;rw [Hz1.out])
 try go_wp2_with fail
 refine hK.out _ _ ?_ (fun hHeld => ?_)
 ·exact Keeps.trans (by assumption) (by assumption)
 clear hK K
 try simp only [qaa]
 refine Plan.go [9,10] ?_
 iterate 2 (refine qac (by simp only [qab];rfl) (by kernel_rfl) (by exact fun _ _ _ h=>h) (by rfl) (by assumption) (fun w _=>by go_simp;try (with_reducible rfl)) ?_;try simp only [qaa])
 refine Plan.nil ?_
 refine wpAnyH_done (by kernel_rfl) ?_ _
 have K2:Keeps X w2:=by assumption
 clear k2 hHeld
 cases z1
 ·have HN:Hid (addN s t true=1):=by show addN s t true=1;unfold addN;rw [Hz1.out];rfl
  have e1:w2.cell? ⟨1,0,none⟩=some (.iface 284 (.pointer (some (er 1)))):=(HE.out.keeps K2).var 1 (by omega) (by omega)
  go_wp2
  go_ret
  exact qeu VX.out kX K2 HN.out (by omega)
 obtain ⟨n2,Hn2⟩:∃ n,Hid (qau s.tasks t.no=n):=⟨_,rfl⟩
 have cA:∀ w',Keeps w2 w'->Calls Tryz.prog 17 #[.slice (some ⟨tb,0,none⟩) tn tcap,.int .i64 t.no] w' fun e w''=>e = .returned (.int .i64 n2) /\ Keeps w' w'':=fun w' k=>by
  have:=qew (some ⟨tb,0,none⟩) tcap s.tasks t.no w' (by rw [Htn.out];unfold maxLen;omega) (HS.out.keeps (K2.trans k)).lay.t
  rw [Htn.out,Hn2.out] at this
  exact this
 have rT2:∀ w',Keeps w2 w'->∀ q,w'.cell? ⟨w.heap.size,q,none⟩=(tc t)[q]?:=fun w' k=>rT w' (K2.trans k)
 have rB2:=fun w' (k:Keeps w2 w')=>rB w' (K2.trans k)
 clear rT rB
 go_upto_region 3 with fail
 refine wp_region_held_drew (S:=(fun w'=>Keeps w2 w')) (by kernel_rfl) ?_ (fun hHeld => ?_)
 ·exact (Keeps.refl w2).drew
 refine Plan.go [0,1,2,3,4,5] ?_
 iterate 6 (refine qac (by simp only [qab];rfl) (by kernel_rfl) (by exact fun _ _ _ h=>h) (by rfl) (by assumption) (fun w _=>by go_simp;try (with_reducible rfl)) ?_;try simp only [qaa])
 refine Plan.nil ?_
 refine qad 6 (by kernel_rfl) (by simp only [qab];rfl) (fun K hK => ?_)
 go_simp
 (go_at_call 17;refine (cA _ (by assumption)).mono ?_;rintro e w3 ⟨rfl,k3⟩;clear cA)
 try go_wp2_with fail
 refine hK.out _ _ ?_ (fun hHeld => ?_)
 ·exact Keeps.trans (by assumption) (by assumption)
 clear hK K
 try simp only [qaa]
 refine qar 7 (v := ?_) (by simp only [qab];rfl) (by kernel_rfl) (by exact fun _ _ _ h=>h) (by rfl) (by assumption) ?_ ?_
 rotate_left
 ·(intro w _;go_simp;try (with_reducible rfl))
 try simp only [qaa]
 refine wpAnyH_done (by kernel_rfl) ?_ _
 have K3:Keeps X w3:=K2.trans (by assumption)
 have rT3:∀ w',Keeps w3 w'->∀ q,w'.cell? ⟨w.heap.size,q,none⟩=(tc t)[q]?:=fun w' k=>(BT.out.keeps (K3.trans k)).cells
 have rB3:∀ w',Keeps w3 w'->∀ q,w'.cell? ⟨ob,q,none⟩=(syc s ⟨⟨some ⟨tb,0,none⟩,tn,tcap⟩,⟨la,ln,lcap⟩,⟨ga,gn,gcap⟩,⟨fa,fn,fcap⟩,⟨ra,rn,rcap⟩⟩)[q]?:=fun w' k=>(VX.out.box.keeps (K3.trans k)).cells
 dsimp only [syc] at rB3
 have Hth:Hid (qak s.tasks t.no = !decide (n2 < 0)):=by show _=_;rw [<- Hn2.out];rfl
 clear k3 hHeld rT2 rB2 K2
 by_cases h2:n2 < 0
 rotate_left
 ·have h2':decide (0 <= n2)=true:=by simp;omega
  have HN:Hid (addN s t true=3):=by show addN s t true=3;unfold addN;rw [Hz1.out,Hth.out];simp [h2]
  have e3:w3.cell? ⟨3,0,none⟩=some (.iface 284 (.pointer (some (er 3)))):=(HE.out.keeps K3).var 3 (by omega) (by omega)
  go_wp2
  go_ret
  exact qeu VX.out kX K3 HN.out (by omega)
 have h2':decide (0 <= n2)=false:=by simp;omega
 have cP:∀ w',Keeps w3 w'->Calls Tryz.prog 187 #[.slice (some ⟨tb,0,none⟩) tn tcap,tk t] w' fun e w''=>∃ v,e = .returned (.tuple #[v,.bool (putB s.tasks t)]) /\ OwnT w'' w'.heap.size v (putL s.tasks t) /\ Keeps w' w'':=fun w' k=>by
  have h1:s.tasks.length <= tcap:=by rw [Htn.out];exact Plain.le HS.out.tc
  have:=qj4 tb 0 tcap s.tasks t w' (by rw [Htn.out];unfold maxLen;omega) h1 (HS.out.keeps (K3.trans k)).lay.t
  rw [Htn.out] at this
  exact this
 obtain ⟨pb,Hpb⟩:∃ b,Hid (putB s.tasks t=b):=⟨_,rfl⟩
 rw [Hpb.out] at cP
 go_upto_region 5 with fail
 refine wp_region_held_drew (S:=(fun w'=>Keeps w3 w')) (by kernel_rfl) ?_ (fun hHeld => ?_)
 ·exact (Keeps.refl w3).drew
 refine Plan.go [0,1,2,3,4] ?_
 iterate 5 (refine qac (by simp only [qab];rfl) (by kernel_rfl) (by exact fun _ _ _ h=>h) (by rfl) (by assumption) (fun w _=>by go_simp;try (with_reducible rfl)) ?_;try simp only [qaa])
 refine Plan.nil ?_
 refine qad 5 (by kernel_rfl) (by simp only [qab];rfl) (fun K hK => ?_)
 go_simp
 (go_at_call 187;refine (cP _ (by assumption)).mono ?_;rintro e w5 ⟨u,rfl,o5,k5⟩;clear cP;obtain ⟨a5,c5,e5⟩:=Own.form o5 qao;obtain ⟨m5,Hm5⟩:∃ m,Hid ((putL s.tasks t).length=m):=⟨_,rfl⟩;rw [Hm5.out] at e5;subst e5)
 try go_wp2_with fail
 refine hK.out _ _ ?_ (fun hHeld => ?_)
 ·exact Keeps.trans (by assumption) (by assumption)
 clear hK K
 try simp only [qaa]
 refine Plan.go [6,7,8,9,10] ?_
 iterate 5 (refine qac (by simp only [qab];rfl) (by kernel_rfl) (by exact fun _ _ _ h=>h) (by rfl) (by assumption) (fun w _=>by go_simp;try (with_reducible rfl)) ?_;try simp only [qaa])
 refine Plan.nil ?_
 refine wpAnyH_done (by kernel_rfl) ?_ _
 have K5:Keeps w3 w5:=by assumption
 clear k5 hHeld rT3 rB3
 cases pb
 ·have HN:Hid (addN s t true=4):=by show addN s t true=4;unfold addN;rw [Hz1.out,Hth.out,Hpb.out];simp [h2]
  have e4:w5.cell? ⟨4,0,none⟩=some (.iface 284 (.pointer (some (er 4)))):=(HE.out.keeps (K3.trans K5)).var 4 (by omega) (by omega)
  go_wp2
  go_ret
  exact qeu VX.out kX (K3.trans K5) HN.out (by omega)
 ·have HN:Hid (addN s t true=0):=by show addN s t true=0;unfold addN;rw [Hz1.out,Hth.out,Hpb.out];simp [h2]
  have o6:Own 43 14 tc w5 w3.heap.size (.slice a5 m5 c5) (putL s.tasks t):=o5
  have hl3:lo <= w3.heap.size:=Nat.le_trans HL.out K3.size
  have hw3:w.heap.size <= w3.heap.size:=(kX.trans K3).size
  have G:=VarG.tasks (VX.out.keeps K3).g (x:=⟨a5,m5,c5⟩) (Keeps.refl w3) (w2:=w5) (o6.base hl3) (qjw K5 _) (fun q e => .inr (o6.ltb q e).1)
  have HG:Hid (VarS (w5.setCell ⟨ob,2,none⟩ (.slice a5 m5 c5)) lo ob ⟨⟨a5,m5,c5⟩,⟨la,ln,lcap⟩,⟨ga,gn,gcap⟩,⟨fa,fn,fcap⟩,⟨ra,rn,rcap⟩⟩ vs { s with tasks:=putL s.tasks t }):=G.var
  have H6:Hid (∀ b,(Value.slice a5 m5 c5).ownBlock=some b->w.heap.size <= b):=fun b e=>Nat.le_trans hw3 (o6.ltb b e).1
  obtain ⟨_,g1,g2⟩:=VX.out.box.keeps (K3.trans K5)
  dsimp only [syc] at g1
  clear G o5 o6
  go_wp2
  go_ret
  refine ⟨by rw [HN.out];rfl,TurnsB.putC (.inl rfl) [.slice a5 m5 c5] 2 (TurnsB.of (kX.trans (K3.trans K5))),fun _=>⟨_,vs,HG.out,?_⟩,_,_,HG.out.box,rfl⟩
  intro i b hb
  match i,hb with
  | 0,hb=>exact .inr (H6.out b hb)
  | 1,hb=>exact .inl ⟨1,hb⟩
  | 2,hb=>exact .inl ⟨2,hb⟩
  | 3,hb=>exact .inl ⟨3,hb⟩
  | 4,hb=>exact .inl ⟨4,hb⟩
theorem qju (s:Sy) (no cpu a b:Int):(newN s ⟨1,no,cpu,a,b⟩).toNat=if addN s (qaV no cpu a b s.now) (qaY no cpu a b s.now)=0 then (if qaL (qan (newC s ⟨1,no,cpu,a,b⟩) cpu) then 0 else 4) else addN s (qaV no cpu a b s.now) (qaY no cpu a b s.now):=by
 have hN:newN s ⟨1,no,cpu,a,b⟩=if decide (s.cpus <= cpu) || !qaY no cpu a b s.now then 1 else if qak s.tasks no then 3 else if !(putB s.tasks (qaV no cpu a b s.now)&&qaL (qan s cpu++[(a,b)])) then 4 else 0:=by
  unfold newN qeh qdv qbY
  simp
 cases hr:qaY no cpu a b s.now
 ·rw [hN,hr]
  simp [addN]
 have ht:qaV no cpu a b s.now=dueT no cpu a b s.now:=by unfold qaV;rw [if_pos hr]
 have htb:qah (dueT no cpu a b s.now)=true:=by
  unfold qaY at hr
  simp only [Bool.and_eq_true] at hr
  exact hr.2
 have hcp:0 <= cpu:=by
  unfold qah at htb
  simp [dueT,qas] at htb
  omega
 have hC:(newC s ⟨1,no,cpu,a,b⟩)={ s with tasks:=putL s.tasks (dueT no cpu a b s.now) }:=by
  unfold newC qbY
  simp [ht]
 have hA:addN s (dueT no cpu a b s.now) true=if !qbc s cpu then 1 else if qak s.tasks no then 3 else if !putB s.tasks (dueT no cpu a b s.now) then 4 else 0:=rfl
 rw [hN,hr,ht,hA,hC]
 have hh:qbc s cpu = !decide (s.cpus <= cpu):=by
  rw [qfB,Bool.eq_iff_iff,qas]
  simp
  omega
 rw [hh]
 cases h1:decide (s.cpus <= cpu)
 rotate_left
 ·simp
 cases h2:qak s.tasks no
 rotate_left
 ·simp
 cases h3:putB s.tasks (dueT no cpu a b s.now)
 ·simp
 have hp:putL s.tasks (dueT no cpu a b s.now)=ins (dueT no cpu a b s.now) s.tasks:=by
  unfold putB at h3
  rw [Bool.and_eq_true] at h3
  unfold putL
  rw [if_pos h3.1,if_pos h3.2]
 have hf:qaL (qan { s with tasks:=putL s.tasks (dueT no cpu a b s.now) } cpu)=qaL (qan s cpu++[(a,b)]):=by
  rw [hp]
  exact qjn (qjo (t:=dueT no cpu a b s.now) (by simp [qaI,dueT]))
 rw [hf]
 cases qaL (qan s cpu++[(a,b)]) <;> simp
def qdA (cb ob:Nat) (c:Cl) (now:Int) (w:World):Prop:=Blk w cb (cc c) /\ w.cell? ⟨ob,0,none⟩=some (.int .i64 now)
set_option linter.unusedSimpArgs false in
set_option maxHeartbeats 8000000 in
theorem qjv {w:World} {lo ob:Nat} {v:Sv} {vs:List Lv} {s:Sy} {er:Nat->Addr} (h:VarS w lo ob v vs s) (hlo:lo <= w.heap.size) (E:Errs w er) (EB:qd2 lo er) (hsz:qai s <= 1000000) (hta:∃ tb,v.t.a=some ⟨tb,0,none⟩) (no cpu a b:Int) :
  Calls Tryz.prog 130 #[.pointer (some ⟨ob,0,none⟩),ck ⟨1,no,cpu,a,b⟩] w (qd1 lo ob v vs s er (newN s ⟨1,no,cpu,a,b⟩).toNat (newC s ⟨1,no,cpu,a,b⟩) w):=by
 have kX:=blkK w (.cells (cc ⟨1,no,cpu,a,b⟩) 32)
 have BC:Hid (Blk (w.alloc (.cells (cc ⟨1,no,cpu,a,b⟩) 32)) w.heap.size (cc ⟨1,no,cpu,a,b⟩)):=Blk.new _ _ _
 have VX:Hid (VarS (w.alloc (.cells (cc ⟨1,no,cpu,a,b⟩) 32)) lo ob v vs s):=h.keeps kX
 have HE:Hid (Errs (w.alloc (.cells (cc ⟨1,no,cpu,a,b⟩) 32)) er):=E.keeps kX
 have HL:Hid (lo <= (w.alloc (.cells (cc ⟨1,no,cpu,a,b⟩) 32)).heap.size):=by show _ <= _;simp;omega
 have i1:ob≠w.heap.size:=by have:=h.box.lt;omega
 have i2:Hid (∀ i,¬ qaf v vs i w.heap.size):=fun i hi=>by have:=(h.own.blkLt hi).2;omega
 have NA:=qju s no cpu a b
 clear h E hlo
 go_enter Tryz.func130,Tryz.ntmps130
 go_upto_region 1 with fail
 change Code.wp _ _ _ _ (w.alloc (.cells (cc ⟨1,no,cpu,a,b⟩) 32))
 generalize (w.alloc (.cells (cc ⟨1,no,cpu,a,b⟩) 32))=X at *
 have e0:∀ w',qdA w.heap.size ob ⟨1,no,cpu,a,b⟩ s.now w'->∀ q,w'.cell? ⟨w.heap.size,q,none⟩=(cc ⟨1,no,cpu,a,b⟩)[q]?:=fun w' k=>k.1.cells
 have e1:∀ w',qdA w.heap.size ob ⟨1,no,cpu,a,b⟩ s.now w'->w'.cell? ⟨ob,0,none⟩=some (.int .i64 s.now):=fun w' k=>k.2
 have hnow:X.cell? ⟨ob,0,none⟩=some (.int .i64 s.now):=VX.out.box.cells 0
 have N0:Hid (∀ w',Keeps X w'->qdA w.heap.size ob ⟨1,no,cpu,a,b⟩ s.now w'):=fun w' k=>⟨BC.out.keeps k,(VX.out.box.keeps k).cells 0⟩
 generalize hdt:qaV no cpu a b s.now=dt at NA
 generalize hdb:qaY no cpu a b s.now=db at NA
 have Hdt:Hid (qaV no cpu a b s.now=dt /\ qaY no cpu a b s.now=db):=⟨hdt,hdb⟩
 have HNA:Hid _:=NA
 clear NA hdt hdb hnow
 refine wp_region_held_drew (S:=(fun w'=>qdA w.heap.size ob ⟨1,no,cpu,a,b⟩ s.now w')) (by kernel_rfl) ?_ (fun hHeld => ?_)
 ·exact N0.out _ (Keeps.refl X).drew
 refine Plan.go [0,1,2,3,4,5,6,7,8,9,10,11,12] ?_
 iterate 13 (refine qac (by simp only [qab];rfl) (by kernel_rfl) (by exact fun _ _ _ h=>h) (by rfl) (by assumption) (fun w _=>by go_simp;try (with_reducible rfl)) ?_;try simp only [qaa])
 refine Plan.nil ?_
 refine qad 13 (by kernel_rfl) (by simp only [qab];rfl) (fun K hK => ?_)
 go_simp
 first
  | (go_at_call 162;refine (qgx no cpu a b s.now _).mono ?_;rintro e w2 ⟨rfl,k2⟩;rw [Hdt.out.1,Hdt.out.2];have K2:Keeps X w2:=(Keeps.refl X).drew.trans k2;have N2:=N0.out _ K2)
  | (go_at_call 161;refine (qgj (VX.out.keeps K2) (Nat.le_trans HL.out K2.size) (HE.out.keeps K2) (by omega) hta dt db).mono ?_;rintro e w3 ⟨rfl,t3,n3,s3,v3,b3,hs3⟩;have N3:qdA w.heap.size ob ⟨1,no,cpu,a,b⟩ s.now w3:=⟨qcq t3 N2.1 (by rintro (hh | ⟨i,hi⟩);exact absurd hh.symm i1;exact i2.out i hi),(b3.cells 0).trans (by simp [hs3])⟩)
 try go_wp2_with fail
 refine hK.out _ _ ?_ (fun hHeld => ?_)
 ·assumption
 clear hK K
 try simp only [qaa]
 refine Plan.go [14,15] ?_
 iterate 2 (refine qac (by simp only [qab];rfl) (by kernel_rfl) (by exact fun _ _ _ h=>h) (by rfl) (by assumption) (fun w _=>by go_simp;try (with_reducible rfl)) ?_;try simp only [qaa])
 refine Plan.nil ?_
 refine qad 16 (by kernel_rfl) (by simp only [qab];rfl) (fun K hK => ?_)
 go_simp
 first
  | (go_at_call 162;refine (qgx no cpu a b s.now _).mono ?_;rintro e w2 ⟨rfl,k2⟩;rw [Hdt.out.1,Hdt.out.2];have K2:Keeps X w2:=(Keeps.refl X).drew.trans k2;have N2:=N0.out _ K2)
  | (go_at_call 161;refine (qgj (VX.out.keeps K2) (Nat.le_trans HL.out K2.size) (HE.out.keeps K2) (by omega) hta dt db).mono ?_;rintro e w3 ⟨rfl,t3,n3,s3,v3,b3,hs3⟩;have N3:qdA w.heap.size ob ⟨1,no,cpu,a,b⟩ s.now w3:=⟨qcq t3 N2.1 (by rintro (hh | ⟨i,hi⟩);exact absurd hh.symm i1;exact i2.out i hi),(b3.cells 0).trans (by simp [hs3])⟩)
 try go_wp2_with fail
 refine hK.out _ _ ?_ (fun hHeld => ?_)
 ·assumption
 clear hK K
 try simp only [qaa]
 refine qar 17 (v := ?_) (by simp only [qab];rfl) (by kernel_rfl) (by exact fun _ _ _ h=>h) (by rfl) (by assumption) ?_ ?_
 rotate_left
 ·(intro w _;go_simp;try (with_reducible rfl))
 try simp only [qaa]
 refine wpAnyH_done (by kernel_rfl) ?_ _
 have HNC:Hid (newC s ⟨1,no,cpu,a,b⟩={ s with tasks:=putL s.tasks dt }):=by
  show _=_
  rw [<- Hdt.out.1]
  rfl
 have T3:Hid (TurnsB (fun b=>b=ob∨∃ i,qaf v vs i b) w w3):=(TurnsB.of (kX.trans K2)).trans t3
 have D3:Hid (Blk w3 w.heap.size (cc ⟨1,no,cpu,a,b⟩)):=N3.1
 have E3:Hid (Errs w3 er):=qjx (HE.out.keeps K2) EB t3 (by rintro q (hh | ⟨i,hi⟩);rw [hh];exact VX.out.lob;exact (VX.out.own.blkLt hi).1)
 clear e0 e1 N0 N2 N3 t3 HE kX hHeld
 by_cases hn1:addN s dt db=0
 rotate_left
 ·have hev:errV er (addN s dt db) = .iface 284 (.pointer (some (er (addN s dt db)))):=if_neg hn1
  have HN:Hid ((newN s ⟨1,no,cpu,a,b⟩).toNat=addN s dt db):=by show _=_;rw [HNA.out,if_neg hn1]
  have HB3:Hid (Blk w3 ob (syc s3 v3) /\ s3.now=s.now):=⟨b3,hs3⟩
  clear HNA n3 b3 hs3
  rw [hev]
  go_wp2
  go_ret
  exact ⟨by rw [HN.out,hev];rfl,T3.out,fun e=>absurd (HN.out.symm.trans e) hn1,s3,v3,HB3.out⟩
 obtain ⟨v4,vs4,V4,old4⟩:=n3 hn1
 have hev:errV er (addN s dt db) = .nilIface:=if_pos hn1
 rw [hev]
 go_upto_region 4 with fail
 have HV4:Hid (VarS w3 lo ob v4 vs4 { s with tasks:=putL s.tasks dt }):=V4
 have HO4:Hid (∀ i b,qaf v4 vs4 i b->(∃ j,qaf v vs j b)∨w2.heap.size <= b):=old4
 have hpl:=qfO s.tasks dt
 have SO:Hid (SysOn w3 v4 { s with tasks:=putL s.tasks dt }):=V4.own.on (by unfold qai at hsz;show (putL s.tasks dt).length+qaj s.locks+s.ghosts.length+s.floors.length+s.trace.length <= 2000000;omega)
 have e0:∀ w',Keeps w3 w'->∀ q,w'.cell? ⟨w.heap.size,q,none⟩=(cc ⟨1,no,cpu,a,b⟩)[q]?:=fun w' k=>(D3.out.keeps k).cells
 have e1:∀ w',Keeps w3 w'->∀ q,w'.cell? ⟨ob,q,none⟩=(syc { s with tasks:=putL s.tasks dt } v4)[q]?:=fun w' k=>(HV4.out.box.keeps k).cells
 dsimp only [syc] at e1
 have HF:Hid ((newN s ⟨1,no,cpu,a,b⟩).toNat=if qaL (qan { s with tasks:=putL s.tasks dt } cpu) then 0 else 4):=by show _=_;rw [HNA.out,if_pos hn1,HNC.out]
 obtain ⟨z,Hz⟩:∃ z,Hid (qaL (qan { s with tasks:=putL s.tasks dt } cpu)=z):=⟨_,rfl⟩
 rw [Hz.out] at HF
 clear V4 old4 n3 b3 hs3 HNA hev hpl
 refine wp_region_held_drew (S:=(fun w'=>Keeps w3 w')) (by kernel_rfl) ?_ (fun hHeld => ?_)
 ·exact (Keeps.refl w3).drew
 refine Plan.go [0,1,2,3,4] ?_
 iterate 5 (refine qac (by simp only [qab];rfl) (by kernel_rfl) (by exact fun _ _ _ h=>h) (by rfl) (by assumption) (fun w _=>by go_simp;try (with_reducible rfl)) ?_;try simp only [qaa])
 refine Plan.nil ?_
 refine qad 5 (by kernel_rfl) (by simp only [qab];rfl) (fun K hK => ?_)
 go_simp
 first
  | (go_at_call 16;refine (qc4 _ v4 { s with tasks:=putL s.tasks dt } cpu (SO.out.keeps (Keeps.refl w3).drew)).mono ?_;rintro e w5 ⟨u,rfl,o5,k5⟩)
  | (go_at_call 19;refine (qca o5).mono ?_;rintro e w6 ⟨rfl,k6⟩;rw [Hz.out])
 try go_wp2_with fail
 refine hK.out _ _ ?_ (fun hHeld => ?_)
 ·exact Keeps.trans (by assumption) (by assumption)
 clear hK K
 try simp only [qaa]
 refine qad 6 (by kernel_rfl) (by simp only [qab];rfl) (fun K hK => ?_)
 go_simp
 first
  | (go_at_call 16;refine (qc4 _ v4 { s with tasks:=putL s.tasks dt } cpu (SO.out.keeps (Keeps.refl w3).drew)).mono ?_;rintro e w5 ⟨u,rfl,o5,k5⟩)
  | (go_at_call 19;refine (qca o5).mono ?_;rintro e w6 ⟨rfl,k6⟩;rw [Hz.out])
 try go_wp2_with fail
 refine hK.out _ _ ?_ (fun hHeld => ?_)
 ·exact Keeps.trans (by assumption) (by assumption)
 clear hK K
 try simp only [qaa]
 refine qar 7 (v := ?_) (by simp only [qab];rfl) (by kernel_rfl) (by exact fun _ _ _ h=>h) (by rfl) (by assumption) ?_ ?_
 rotate_left
 ·(intro w _;go_simp;try (with_reducible rfl))
 try simp only [qaa]
 refine wpAnyH_done (by kernel_rfl) ?_ _
 have K6:Keeps w3 w6:=by assumption
 clear e0 e1 k5 k6 o5 hHeld
 cases z
 ·have e4:w6.cell? ⟨4,0,none⟩=some (.iface 284 (.pointer (some (er 4)))):=(E3.out.keeps K6).var 4 (by omega) (by omega)
  go_wp2
  go_ret
  exact ⟨by rw [HF.out];rfl,T3.out.trans (TurnsB.of K6),(fun e=>by rw [HF.out] at e;cases e),_,v4,HV4.out.box.keeps K6,rfl⟩
 ·have kw2:w.heap.size <= w2.heap.size:=Nat.le_trans (by have:=BC.out.lt;omega) K2.size
  go_wp2
  go_ret
  refine ⟨by rw [HF.out];rfl,T3.out.trans (TurnsB.of K6),fun _=>⟨v4,vs4,by rw [HNC.out];exact HV4.out.keeps K6,fun i b hb => ?_⟩,_,v4,HV4.out.box.keeps K6,rfl⟩
  rcases HO4.out i b hb with hh | hh
  ·exact .inl hh
  ·exact .inr (Nat.le_trans kw2 hh)
end Go.Proofs.YteagpjlgjfaclaaGreatDoor
