/-
  The program's system: floors, whether a task is of the same
  The program's system: what is counted on a processor.
  Fair shares, the program's side: who is before whom.
-/
import Derived.Test.YteagpjlgjfaclaaGreatDoorCallDo0
import Derived.Test.YteagpjlgjfaclaaGreatDoorImplTaskOk
import Derived.Test.YteagpjlgjfaclaaGreatDoorFixHeap2
import Derived.Deep.RegionHeld3
import Derived.RegionTactic
import Derived.BigRegion
import Derived.Test.YteagpjlgjfaclaaGreatDoorFairHeap
import Derived.Laws.StructEq
namespace Go.Proofs.YteagpjlgjfaclaaGreatDoor
set_option maxRecDepth 100000
open Go.RowKit
attribute [local go_sem] aa.refl aa.alloc aa.drew aa.drewN
theorem fk.jC {w w':World} {a:Option Addr} {n cap:Nat} {ts:List ag} (h:fk w a n cap ts) (x:Int) {z:Int} (hz:dA ts x=z) (k:aa w w'):Calls Tryz.prog 17 #[.slice a n cap,.int .i64 x] w' fun e w''=>e = .returned (.int .i64 z) /\ aa w' w'':=by
 have:=vM a cap ts x w' h.small (h.keeps k).lies
 rw [h.len,hz] at this
 exact this
set_option maxHeartbeats 8000000 in
theorem KG:EG:=by
 intro w v s i no h
 have hm:v.t.n <= 2000000 /\ v.l.n <= 2000000:=by have:=h.size;have:=h.lay.ll;have:=h.lay.tl;have:=nr s.af;unfold bV at *;omega
 obtain ⟨hm1,hm2⟩:=hm
 have kW:=cZ w (.cells (ae s v) 30)
 have hb:=dE w (ae s v) 30
 have hT:Hid (fk (w.alloc (.cells (ae s v) 30)) v.t.a v.t.n v.t.cap s.tasks):=h.gM.keeps kW
 have hL:Hid (On (w.alloc (.cells (ae s v) 30)) v.l.a v.l.n v.l.cap s.af):=h.gL.keeps kW
 have HE:Hid (eS s i no=(aF i 0 ((v.l.n:Int) - 1)&&(bF s.tasks no&&(d7 s.af i.toNat==0||(bF s.tasks (d7 s.af i.toNat)&&(de s.tasks (d7 s.af i.toNat)).cpu==(de s.tasks no).cpu))))):=by show _=_;unfold eS;rw [hL.out.len]
 clear h
 obtain ⟨pa,eY⟩:∃ pa,Hid (dA s.tasks no=pa):=⟨_,rfl⟩
 go_enter Tryz.func156,Tryz.ntmps156
 go_wp2_with fail
 generalize w.alloc (.cells (ae s v) 30)=W at *
 refine (hT.out.jC no eY.out (aa.refl _)).mono ?_
 rintro e w1 ⟨rfl,k1⟩
 cases c2:decide (pa < 0)
 rotate_left
 ·have Hr:Hid (eS s i no=false):=by show _=_;rw [HE.out];unfold bF;rw [eY.out,c2];simp
  go_wp2
  go_ret
  exact ⟨by rw [Hr.out];rfl,kW.trans k1⟩
 have hth:bF s.tasks no=true:=by unfold bF;rw [eY.out,c2];rfl
 obtain ⟨ka,ta,ea,jD,-⟩:=jL.1 hth
 have fX:Hid (de s.tasks no=ta):=kh ea jD
 obtain rfl:pa=(ka:Int):=by rw [<- eY.out];exact ea
 have p5:Hid (∀ w',Calls Tryz.prog 186 #[.slice v.l.a v.l.n v.l.cap,.int .i64 i] w' fun e w''=>e = .returned (.bool (aF i 0 ((v.l.n:Int) - 1))) /\ w''=w'):=fun w'=>vI v.l.a v.l.cap v.l.n i w' (by unfold maxLen;omega)
 cases c1:aF i 0 ((v.l.n:Int) - 1)
 ·have Hr:Hid (eS s i no=false):=by show _=_;rw [HE.out,c1];rfl
  rw [c1] at p5
  go_wp2_with (go_at_call 186;refine (p5.out _).mono ?_;rintro e w' ⟨rfl,hw'⟩;have hw2:=hw'.symm;subst hw2)
  go_ret
  exact ⟨by rw [Hr.out];rfl,kW.trans k1⟩
 rw [c1] at p5
 have hka:ka < v.t.n:=by have:=da jD;rw [hT.out.len] at this;exact this
 have vX:(ka:Int) < (v.t.n:Int):=by omega
 obtain ⟨bt,ot,hat,rt⟩:=hT.out.all (by omega)
 have ra:∀ w',aa W w'->w'.cell? ⟨bt,ot+ka*14+2,none⟩=some (.int .i64 ta.cpu):=fun w' h=>(rt ka ta jD).2 w' h 2 (by omega)
 have RT:Hid (∀ (i:Nat) (t:ag),s.tasks[i]?=some t->∀ w',aa W w'->w'.cell? ⟨bt,ot+i*14+2,none⟩=some (.int .i64 t.cpu)):=fun i t ht w' h=>(rt i t ht).2 w' h 2 (by omega)
 obtain ⟨i0,i1⟩:=dq.1 c1
 obtain ⟨k,rfl⟩:∃ k:Nat,i=(k:Int):=⟨i.toNat,by omega⟩
 obtain ⟨l,hl⟩:=bW (xs:=s.af) (k:=k) (by rw [hL.out.len];omega)
 obtain ⟨hkn,b,off,a',cap',ha,r0,-,-,-⟩:=hL.out.at hl
 have hki:(k:Int) < (v.l.n:Int):=by omega
 rw [ha] at p5
 have HE2:Hid (eS s k no=(l.owner==0||(bF s.tasks l.owner&&(de s.tasks l.owner).cpu==ta.cpu))):=by
  show _=_
  rw [HE.out,c1,hth,Int.toNat_natCast,gO hl,fX.out]
  rfl
 obtain ⟨po,lz⟩:∃ po,Hid (dA s.tasks l.owner=po):=⟨_,rfl⟩
 have TA:Hid (∀ w',aa W w'->Calls Tryz.prog 17 #[.slice v.t.a v.t.n v.t.cap,.int .i64 l.owner] w' fun e w''=>e = .returned (.int .i64 po) /\ aa w' w''):=fun w' h=>hT.out.jC l.owner lz.out h
 rw [hat] at TA
 clear hth ea jD rt eY hl HE
 cases c3:(l.owner==0)
 rotate_left
 ·have Hr:Hid (eS s k no=true):=by show _=_;rw [HE2.out,c3];rfl
  go_wp2_with (go_at_call 186;refine (p5.out _).mono ?_;rintro e w' ⟨rfl,hw'⟩;have hw2:=hw'.symm;subst hw2)
  go_ret
  exact ⟨by rw [Hr.out];rfl,kW.trans k1⟩
 go_wp2_with (first
  | (go_at_call 186;refine (p5.out _).mono ?_;rintro e w' ⟨rfl,hw'⟩;have hw2:=hw'.symm;subst hw2)
  | (go_at_call 17;refine (TA.out _ k1).mono ?_;rintro e w5 ⟨rfl,k5⟩;have K5:=k1.trans k5))
 clear TA
 cases c4:decide (0 <= po)
 ·have Hr:Hid (eS s k no=false):=by
   have:bF s.tasks l.owner=false:=by unfold bF;rw [lz.out];simp only [decide_eq_false_iff_not] at c4;simp;omega
   show _=_
   rw [HE2.out,c3,this];rfl
  refine wp_region_held_drew (S:=(fun w'=>aa W w')) (by kernel_rfl) ?_ (fun hHeld => ?_)
  ·exact K5.drew
  refine ad.go [0,1,2] ?_
  iterate 3 (refine aJ (h := ?_);try simp only [ar])
  refine ad.nil ?_
  refine ad.go [3,4,5,6,7,8,9,10,11,12,13,14,15] ?_
  iterate 13 (refine dB (h := ?_);try simp only [ar])
  refine ad.nil ?_
  refine ad.go [16,17] ?_
  iterate 2 (refine aJ (h := ?_);try simp only [ar])
  refine ad.nil ?_
  refine wpAnyH_done (by kernel_rfl) ?_ _
  go_wp2
  go_ret
  exact ⟨by rw [Hr.out];rfl,kW.trans K5.drew⟩
 have jr:bF s.tasks l.owner=true:=by unfold bF;rw [lz.out];simp only [decide_eq_true_eq] at c4;simp;omega
 obtain ⟨kx,tx,ex,htx,-⟩:=jL.1 jr
 have rG:Hid (de s.tasks l.owner=tx):=kh ex htx
 obtain rfl:po=(kx:Int):=by rw [<- lz.out];exact ex
 have hkx:kx < v.t.n:=by have:=da htx;rw [hT.out.len] at this;exact this
 have rH:(kx:Int) < (v.t.n:Int):=by omega
 have rx:∀ w',aa W w'->w'.cell? ⟨bt,ot+kx*14+2,none⟩=some (.int .i64 tx.cpu):=fun w' h=>RT.out kx tx htx w' h
 have Hr:Hid (eS s k no=(tx.cpu==ta.cpu)):=by show _=_;rw [HE2.out,c3,jr,rG.out];rfl
 clear jr ex htx lz
 refine wp_region_held_drew (S:=(fun w'=>aa W w')) (by kernel_rfl) ?_ (fun hHeld => ?_)
 ·exact K5.drew
 refine ad.go [0,1,2,3,4,5,6,7,8,9,10,11,12,13,14,15,16,17] ?_
 iterate 18 (refine aJ (h := ?_);try simp only [ar])
 refine ad.nil ?_
 refine wpAnyH_done (by kernel_rfl) ?_ _
 go_wp2
 go_ret
 exact ⟨by rw [Hr.out];rfl,kW.trans K5.drew⟩
theorem Lh (t:ag) (w:World):(Instr.field 84 (.agg (bg t)) 1).run Tryz.prog w = .ok (.agg #[.int .i64 t.q,.int .i64 t.p,.int .i64 t.left,.int .i64 t.due]) w:=by kernel_rfl
theorem Li (q p l d:Int) (w:World):(Instr.field 82 (.agg #[.int .i64 q,.int .i64 p,.int .i64 l,.int .i64 d]) 0).run Tryz.prog w = .ok (.agg #[.int .i64 q,.int .i64 p]) w:=by kernel_rfl
attribute [local go_sem] Lh Li
set_option maxHeartbeats 4000000 in
theorem KO:EK:=by
 intro w v s cpu h
 obtain ⟨⟨ta,tn,ak⟩,vl,⟨ga,gn,ao⟩,vf,vr⟩:=v
 have hm1:tn <= 2000000:=by have h1:=h.size;have h2:s.tasks.length=tn:=h.lay.tl;unfold bV at h1;omega
 have hm2:gn <= 2000000:=by have h1:=h.size;have h2:s.ah.length=gn:=h.lay.gl;unfold bV at h1;omega
 have Hn:Hid (s.tasks.length=tn):=h.lay.tl
 have Hg:Hid (s.ah.length=gn):=h.lay.gl
 have kW:=cZ w (.cells (ae s ⟨⟨ta,tn,ak⟩,vl,⟨ga,gn,ao⟩,vf,vr⟩) 30)
 have hb:=dE w (ae s ⟨⟨ta,tn,ak⟩,vl,⟨ga,gn,ao⟩,vf,vr⟩) 30
 have hs1:Hid (Ts (w.alloc (.cells (ae s ⟨⟨ta,tn,ak⟩,vl,⟨ga,gn,ao⟩,vf,vr⟩) 30)) ta s.tasks):=h.lay.t.keeps kW
 have hs2:Hid (Gs (w.alloc (.cells (ae s ⟨⟨ta,tn,ak⟩,vl,⟨ga,gn,ao⟩,vf,vr⟩) 30)) ga s.ah):=h.lay.g.keeps kW
 clear h
 have HE:Hid (fe s cpu=(s.tasks.filter (fY cpu)).map gW++(s.ah.filter (ef cpu)).map iP):=rfl
 go_enter Tryz.func16,Tryz.ntmps16
 go_wp2
 have HW:Hid (w.heap.size <= (w.alloc (.cells (ae s ⟨⟨ta,tn,ak⟩,vl,⟨ga,gn,ao⟩,vf,vr⟩) 30)).heap.size):=kW.size
 generalize w.alloc (.cells (ae s ⟨⟨ta,tn,ak⟩,vl,⟨ga,gn,ao⟩,vf,vr⟩) 30)=W at *
 go_loopw [5,13] (fun o i wr=>∃ (k:Nat) (xs:List (Int × Int)),k <= tn /\ i = .int .i64 k /\ xs.length <= k /\ Hid (xs=((s.tasks.take k).filter (fY cpu)).map gW) /\ Hid (eb wr W.heap.size o xs) /\ aa W wr) (fun _ i _=>tn - (intOf i).toNat)
 case atStart=>exact ⟨0,[],Nat.zero_le _,rfl,by simp,by show _=_;simp,World.ownsRow_nil _ _ _ _,aa.refl _⟩
 case round =>
  obtain ⟨k,xs,hk,rfl,hxl,HX,O,hK⟩:=hrel
  by_cases hlt:k < tn
  ·obtain ⟨t,ht⟩:=bW (xs:=s.tasks) (k:=k) (by rw [Hn.out];exact hlt)
   obtain ⟨b,off,rfl,r0,r1⟩:=hs1.out.at ht (by omega)
   have hlt':(k:Int) < (tn:Int):=by omega
   have cW:=tP (fY cpu) gW ht
   rw [<- HX.out] at cW
   have HS:Hid (((s.tasks.take (k+1)).filter (fY cpu)).map gW=xs++(if fY cpu t then [gW t] else [])):=cW
   clear ht cW
   cases c1:(t.cls==1)
   ·have Hx:Hid (xs=((s.tasks.take (k+1)).filter (fY cpu)).map gW):=by show _=_;rw [HS.out];simp [fY,c1]
    go_wp2
    exact ⟨⟨k+1,xs,by omega,by go_num,by omega,Hx,O.out.keeps ((aa.refl _).alloc _),hK.alloc _⟩,by simp only [intOf];omega⟩
   cases c2:(t.cpu==cpu)
   ·have Hx:Hid (xs=((s.tasks.take (k+1)).filter (fY cpu)).map gW):=by show _=_;rw [HS.out];simp [fY,c1,c2]
    go_wp2
    exact ⟨⟨k+1,xs,by omega,by go_num,by omega,Hx,O.out.keeps ((aa.refl _).alloc _),hK.alloc _⟩,by simp only [intOf];omega⟩
   have Hx:Hid (xs++[(t.q,t.p)]=((s.tasks.take (k+1)).filter (fY cpu)).map gW):=by show _=_;rw [HS.out];simp [fY,c1,c2,gW]
   go_wp2_with (first
    | (go_at_call 43;refine (pO t _).mono ?_;rintro e w4 ⟨rfl,k4⟩;have K4:aa wr w4:=((aa.refl wr).alloc _).trans k4;clear k4)
    | (at_builtin;(refine iE rfl _ _ 46 rfl W 51 (.agg (pc (0,0))) 2 16 pc Tryz.underlying46 (by kernel_rfl) rfl (by decide) kl pH _ xs rfl wr O.out hK (K4.alloc _) (t.q,t.p) _ 1 (ai.new _ _ _) rfl ?c1 ?c2 ?_)))
   case c1=>unfold maxLen;omega
   case c2=>omega
   intro v' w5 cP k5 _
   have HO:Hid (eb w5 W.heap.size v' (xs++[(t.q,t.p)])):=cP
   clear cP O
   go_wp2
   exact ⟨⟨k+1,xs++[(t.q,t.p)],by omega,by go_num,by simp;omega,Hx,HO,k5⟩,by simp only [intOf];omega⟩
  ·have hlt':decide ((k:Int) < (tn:Int))=false:=by simp;omega
   have HP:Hid ((s.tasks.filter (fY cpu)).map gW=xs):=by
    have h1:=HX.out
    rw [List.take_of_length_le (by have:=Hn.out;omega)] at h1
    exact h1.symm
   clear HX
   go_wp2
   generalize wr=V at *
   go_loopw [5,37] (fun o i wr=>∃ (j:Nat) (ys:List (Int × Int)),j <= gn /\ i = .int .i64 j /\ ys.length <= tn+j /\ Hid (ys=xs++((s.ah.take j).filter (ef cpu)).map iP) /\ Hid (eb wr W.heap.size o ys) /\ aa W wr) (fun _ i _=>gn - (intOf i).toNat)
   case atStart=>exact ⟨0,xs,Nat.zero_le _,rfl,by omega,by show _=_;simp,O,hK⟩
   case round =>
    obtain ⟨j,ys,hj,rfl,hyl,HY,O2,hK2⟩:=hrel
    clear O hK
    by_cases hjt:j < gn
    ·obtain ⟨g,hg⟩:=bW (xs:=s.ah) (k:=j) (by rw [Hg.out];exact hjt)
     obtain ⟨b,off,rfl,r0,r1⟩:=hs2.out.at hg (by omega)
     have iK:(j:Int) < (gn:Int):=by omega
     have HS:Hid (xs++((s.ah.take (j+1)).filter (ef cpu)).map iP=ys++(if ef cpu g then [iP g] else [])):=by
      show _=_
      rw [tP (ef cpu) iP hg,HY.out,List.append_assoc]
     clear hg
     cases c1:(g.cpu==cpu)
     ·have Hx:Hid (ys=xs++((s.ah.take (j+1)).filter (ef cpu)).map iP):=by show _=_;rw [HS.out];simp [ef,c1]
      go_wp2
      exact ⟨⟨j+1,ys,by omega,by go_num,by omega,Hx,O2.out.keeps ((aa.refl _).alloc _),hK2.alloc _⟩,by simp only [intOf];omega⟩
     have Hx:Hid (ys++[(g.q,g.p)]=xs++((s.ah.take (j+1)).filter (ef cpu)).map iP):=by show _=_;rw [HS.out];simp [ef,c1,iP]
     go_wp2_with (at_builtin;(refine iE rfl _ _ 46 rfl W 51 (.agg (pc (0,0))) 2 16 pc Tryz.underlying46 (by kernel_rfl) rfl (by decide) kl pH _ ys rfl wr O2.out hK2 (((aa.refl _).alloc _).alloc _) (g.q,g.p) (wr.heap.size+1) 1 (by have:=ai.new (wr.alloc (.cells (dM g) 87)) (pc (g.q,g.p)) 51;simpa using this) rfl ?c1 ?c2 ?_))
     case c1=>unfold maxLen;omega
     case c2=>omega
     intro v' w5 cP k5 _
     have HO:Hid (eb w5 W.heap.size v' (ys++[(g.q,g.p)])):=cP
     clear cP O2
     go_wp2
     exact ⟨⟨j+1,ys++[(g.q,g.p)],by omega,by go_num,by simp;omega,Hx,HO,k5⟩,by simp only [intOf];omega⟩
    ·have iK:decide ((j:Int) < (gn:Int))=false:=by simp;omega
     have HQ:Hid (fe s cpu=ys):=by
      have h1:=HY.out
      rw [List.take_of_length_le (by have:=Hg.out;omega)] at h1
      show _=_
      rw [HE.out,h1,HP.out]
     go_wp2
     go_ret
     exact ⟨_,rfl,by rw [HQ.out];exact O2.out.base HW.out,kW.trans hK2⟩
def oN (a b:ag):Bool:=a.no==b.no&&(a.cls==b.cls&&(a.cpu==b.cpu&&(a.st==b.st&&(a.idle==b.idle&&(a.nice==b.nice&&(a.v==b.v))))))
theorem Lj (d:Nat) (w:World) (a b:ag):(Op.equalIn (d+4) 176 (.agg (aV a)) (.agg (aV b))).run Tryz.prog w = .ok (oN a b) w:=by
 rw [run_equalIn_agg _ _ _ _ _ (by kernel_rfl) (by kernel_rfl)]
 go_simp
 unfold oN
 by_cases h0:a.no=b.no
 case neg=>simp only [if_neg h0,beq_eq_false_iff_ne.2 h0,Bool.false_and]
 simp only [if_pos h0,beq_iff_eq.2 h0,Bool.true_and]
 by_cases h1:a.cls=b.cls
 case neg=>simp only [if_neg h1,beq_eq_false_iff_ne.2 h1,Bool.false_and]
 simp only [if_pos h1,beq_iff_eq.2 h1,Bool.true_and]
 by_cases h2:a.cpu=b.cpu
 case neg=>simp only [if_neg h2,beq_eq_false_iff_ne.2 h2,Bool.false_and]
 simp only [if_pos h2,beq_iff_eq.2 h2,Bool.true_and]
 by_cases h3:a.st=b.st
 case neg=>simp only [if_neg h3,beq_eq_false_iff_ne.2 h3,Bool.false_and]
 simp only [if_pos h3,beq_iff_eq.2 h3,Bool.true_and]
 by_cases h4:a.idle=b.idle
 case neg=>simp only [if_neg h4,beq_eq_false_iff_ne.2 h4,Bool.false_and]
 simp only [if_pos h4,beq_iff_eq.2 h4,Bool.true_and]
 by_cases h5:a.nice=b.nice
 case neg=>simp only [if_neg h5,beq_eq_false_iff_ne.2 h5,Bool.false_and]
 simp only [if_pos h5,beq_iff_eq.2 h5,Bool.true_and]
 by_cases h6:a.v=b.v
 ·simp only [if_pos h6,beq_iff_eq.2 h6]
 ·simp only [if_neg h6,beq_eq_false_iff_ne.2 h6]
theorem Ll (w:World) (a b:ag):(binOp .neq 176 (.agg (aV a)) (.agg (aV b))).run Tryz.prog w = .ok (.bool (!oN a b)) w:=by
 rw [run_neq_struct,Lj 9996];rfl
theorem Lm (x y:ag):(!oN (if cY x y then x else y) y)=cY x y:=by
 cases h:cY x y
 ·simp [oN]
 ·simp only [if_true]
  rw [Bool.not_eq_true',Bool.eq_false_iff]
  intro e
  simp only [oN,Bool.and_eq_true,beq_iff_eq] at e
  rw [ui] at h
  omega
theorem Ln (w:World) (a b:ag) (T:TypeId):Ts (w.alloc (.cells (tc b++tc a) T)) (some ⟨w.heap.size,0,none⟩) [b,a]:=by
 have B:=ai.new w (tc b++tc a) T
 refine .inr ⟨_,_,rfl,B.lt,fun i x hx k hk => ?_⟩
 rw [B.cells]
 match i,hx with
 | 0,hx =>
  simp at hx;subst hx
  rw [Array.getElem?_append_left (by simp;omega)]
  simp
 | 1,hx =>
  simp at hx;subst hx
  rw [Array.getElem?_append_right (by simp)]
  simp
attribute [local go_sem high] Ll
set_option maxHeartbeats 4000000 in
theorem vS:Lo:=by
 intro a b w
 go_enter Tryz.func330,Tryz.ntmps330
 go_wp2_with fail
 have kW:aa w ((w.alloc (.cells (tc a) 43)).alloc (.cells (tc b) 43)):=((aa.refl w).alloc _).alloc _
 have r1:∀ w',aa ((w.alloc (.cells (tc a) 43)).alloc (.cells (tc b) 43)) w'->∀ k,w'.cell? ⟨w.heap.size,k,none⟩=(tc a)[k]?:=fun w' h=>(((ai.new w (tc a) 43).alloc _).keeps h).cells
 have r2:∀ w',aa ((w.alloc (.cells (tc a) 43)).alloc (.cells (tc b) 43)) w'->∀ k,w'.cell? ⟨w.heap.size+1,k,none⟩=(tc b)[k]?:=fun w' h=>by
  have:=(ai.new (w.alloc (.cells (tc a) 43)) (tc b) 43).keeps h
  simp only [World.size_alloc] at this
  exact this.cells
 generalize (w.alloc (.cells (tc a) 43)).alloc (.cells (tc b) 43)=W at *
 refine (vA a _).mono ?_
 rintro e w1 ⟨rfl,k1⟩
 cases ha:dY a
 ·have Hr:Hid (fO a b=false):=by show _=_;simp [fO,ha]
  go_wp2
  go_ret
  exact ⟨by rw [Hr.out];rfl,kW.trans k1⟩
 ·go_wp2_with fail
  refine (vA b _).mono ?_
  rintro e w2 ⟨rfl,k2⟩
  have K2:=k1.trans k2
  cases hb:dY b
  ·have Hr:Hid (fO a b=false):=by show _=_;simp [fO,hb]
   go_wp2
   go_ret
   exact ⟨by rw [Hr.out];rfl,kW.trans K2⟩
  ·have Hr:Hid (fO a b=cY a b):=by show _=_;simp only [fO,cY,ha,hb,Bool.true_and]
   clear k1 k2
   go_wp2_with fail
   have TL:=Ln w2 a b 43
   have WH:=I9 (some ⟨w2.heap.size,0,none⟩) 2 [b,a] _ (by simp) TL
   have K3:aa W (w2.alloc (.cells (tc b++tc a) 43)):=K2.alloc _
   clear TL
   change Calls _ _ _ (w2.alloc (.cells (tc b++tc a) 43)) _
   generalize w2.alloc (.cells (tc b++tc a) 43)=W3 at *
   refine WH.mono ?_
   rintro e w4 ⟨⟨xs,hO,h⟩,k4⟩
   have h2:=hO.two ha hb
   have HF:Hid ((!oN (if cY a b then a else b) b)=cY a b):=Lm a b
   rcases h with ⟨rfl,-⟩ | ⟨f,hf,rfl⟩
   ·simp at h2
   rw [hf] at h2
   simp only [Option.some.injEq] at h2
   rw [<- h2] at HF
   clear h2 hf hO WH
   have K4:aa W w4:=K3.trans k4
   go_wp2_with fail
   have K5:Hid (aa W (w4.alloc (.cells (aV f) 176))):=K4.alloc _
   have r3:=dE w4 (aV f) 176
   have r4:∀ w',aa (w4.alloc (.cells (aV f) 176)) w'->∀ k,w'.cell? ⟨w.heap.size+1,k,none⟩=(tc b)[k]?:=fun w' h=>r2 w' (K5.out.trans h)
   clear r1 r2 K2 K3 K4 k4
   generalize w4.alloc (.cells (aV f) 176)=X at *
   have K0:=aa.refl X
   refine wp_region_held_drew (S:=(fun w'=>aa X w')) (by kernel_rfl) ?_ (fun hHeld => ?_)
   ·exact K0.drew
   refine ad.go [0,1] ?_
   iterate 2 (refine aJ (h := ?_);try simp only [ar])
   refine ad.nil ?_
   refine aO 2 (h:=fun K hK => ?_)
   go_simp
   first
    | (go_at_call 119;refine (tw b _).mono ?_;rintro e w6 ⟨rfl,k6⟩)
   try go_wp2_with fail
   refine hK.out _ _ ?_ fun hHeld => ?_
   ·exact aa.trans (by assumption) (by assumption)
   clear hK K
   try simp only [ar]
   refine ad.go [3,4] ?_
   iterate 2 (refine aJ (h := ?_);try simp only [ar])
   refine ad.nil ?_
   refine wpAnyH_done (by kernel_rfl) ?_ _
   have K6:aa X w6:=by assumption
   go_wp2
   go_ret
   exact ⟨by rw [Hr.out,<- HF.out];rfl,(kW.trans K5.out).trans K6⟩
end Go.Proofs.YteagpjlgjfaclaaGreatDoor
