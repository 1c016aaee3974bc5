/-
  Deadlines: contracts of the model's functions.
  errors.As of a mistake, or of none, into a variable for mis
-/
import Derived.Test.YteagpjlgjfaclaaGreatDoorTaskSpec
import Derived.Test.YteagpjlgjfaclaaGreatDoorLate
import Derived.LaidEql
import Derived.Stop.Asserts
import Derived.RowKitTokens
namespace Go.Proofs.YteagpjlgjfaclaaGreatDoor
set_option maxRecDepth 100000
attribute [local go_sem] aa.refl aa.alloc aa.drew aa.drewN
section
open Go.RowKit
theorem rh (t:ag) (w:World) :
  Calls Tryz.prog 198 #[tk t] w fun e w'=>e = .returned (.bool (dh t)) /\ aa w w':=by
 go_enter Tryz.func198,Tryz.ntmps198
 go_wp2_with fail
 refine (lW t _).mono ?_
 rintro e w1 ⟨rfl,k1⟩
 have B1:=(ai.new w (tc t) 43).keeps k1
 have K1:aa w w1:=((aa.refl w).alloc _).trans k1
 obtain ⟨_,b1,b2⟩:=B1
 clear k1
 cases hb:aY t
 ·have Hr:Hid (dh t=false):=by show _=_;simp [dh,hb]
  go_wp2
  go_ret
  exact ⟨by rw [Hr.out];rfl,K1⟩
 ·have Hr:Hid (dh t=(t.cls==1)):=by show _=_;simp [dh,hb]
  go_wp2
  go_ret
  exact ⟨by rw [Hr.out];rfl,K1⟩
set_option maxHeartbeats 2000000 in
theorem Ak (t:ag) (w:World) :
  Calls Tryz.prog 206 #[tk t] w fun e w'=>e = .returned (tk (lX t)) /\ aa w w':=by
 go_enter Tryz.func206,Tryz.ntmps206
 go_wp2_with fail
 refine (rh t _).mono ?_
 rintro e w1 ⟨rfl,k1⟩
 have B1:=((ai.new w (tc t) 43).alloc (.cells (tc ag.zero) 43)).keeps k1
 have B2:=(ai.new (w.alloc (.cells (tc t) 43)) (tc ag.zero) 43).keeps k1
 have K1:Hid (aa w w1):=(((aa.refl w).alloc _).alloc _).trans k1
 simp only [World.size_alloc] at B2
 have R:Hid (ai w1 (w.heap.size+1) (tc ag.zero)):=B2
 obtain ⟨_,b1,b2⟩:=B1
 obtain ⟨_,c1,c2⟩:=B2
 clear k1
 cases hd:dh t
 ·have Hn:Hid (lX t=t):=by show _=_;simp [lX,tv,hd]
  go_wp2
  have D:=R.out.putC (tc (t)).toList rfl
  have K:=aa.putC (b:=w.heap.size+1) (by omega) (tc (t)).toList 0 K1.out
  change bodyPost _ _ _ _ _ (putC w1 (w.heap.size+1) 0 (tc (t)).toList)
  generalize putC w1 (w.heap.size+1) 0 (tc (t)).toList=X at D K ⊢
  exact bodyPost_ret (v:=tk (t)) (by simp [results,Tryz.results206,go_sem,D.cells]) rfl ⟨by rw [Hn.out],K⟩
 ·have H:=(vx t).1 hd
  obtain ⟨p0,p1⟩:=H.p
  obtain ⟨q0,q1⟩:=H.q
  obtain ⟨l0,l1⟩:=H.left
  clear H
  cases hl:decide (0 < t.left)
  ·have Hn:Hid (lX t=t):=by show _=_;simp only [lX,tv,hl,Bool.and_false,Bool.false_eq_true,if_false]
   go_wp2
   have D:=R.out.putC (tc (t)).toList rfl
   have K:=aa.putC (b:=w.heap.size+1) (by omega) (tc (t)).toList 0 K1.out
   change bodyPost _ _ _ _ _ (putC w1 (w.heap.size+1) 0 (tc (t)).toList)
   generalize putC w1 (w.heap.size+1) 0 (tc (t)).toList=X at D K ⊢
   exact bodyPost_ret (v:=tk (t)) (by simp [results,Tryz.results206,go_sem,D.cells]) rfl ⟨by rw [Hn.out],K⟩
  ·have Hn:Hid (lX t={ t with left:=t.left - 1 }):=by show _=_;simp only [lX,tv,hl,hd,Bool.and_true,if_true]
   go_wp2
   have D:=(R.out.far (c:=w.heap.size) (o:=7) (by omega) (.int .i64 (t.left - 1))).putC (tc ({ t with left:=t.left - 1 })).toList rfl
   have K:=aa.putC (b:=w.heap.size+1) (by omega) (tc ({ t with left:=t.left - 1 })).toList 0 (K1.out.setCell (p:=⟨w.heap.size,7,none⟩) (Nat.le_refl _) (.int .i64 (t.left - 1)))
   change bodyPost _ _ _ _ _ (putC (w1.setCell ⟨w.heap.size,7,none⟩ (.int .i64 (t.left - 1))) (w.heap.size+1) 0 (tc ({ t with left:=t.left - 1 })).toList)
   generalize putC (w1.setCell ⟨w.heap.size,7,none⟩ (.int .i64 (t.left - 1))) (w.heap.size+1) 0 (tc ({ t with left:=t.left - 1 })).toList=X at D K ⊢
   exact bodyPost_ret (v:=tk ({ t with left:=t.left - 1 })) (by simp [results,Tryz.results206,go_sem,D.cells]) rfl ⟨by rw [Hn.out],K⟩
set_option maxHeartbeats 2000000 in
theorem Im (a b:ag) (w:World) :
  Calls Tryz.prog 207 #[tk a,tk b] w fun e w'=>e = .returned (.bool (fQ a b)) /\ aa w w':=by
 go_enter Tryz.func207,Tryz.ntmps207
 go_wp2_with fail
 have kW:aa w ((w.alloc (.cells (tc a) 43)).alloc (.cells (tc b) 43)):=((aa.refl w).alloc _).alloc _
 have r1:∀ w',aa ((w.alloc (.cells (tc a) 43)).alloc (.cells (tc b) 43)) w'->∀ k,w'.cell? ⟨w.heap.size,k,none⟩=(tc a)[k]?:=fun w' h=>(((ai.new w (tc a) 43).alloc _).keeps h).cells
 have r2:∀ w',aa ((w.alloc (.cells (tc a) 43)).alloc (.cells (tc b) 43)) w'->∀ k,w'.cell? ⟨w.heap.size+1,k,none⟩=(tc b)[k]?:=fun w' h=>by
  have:=(ai.new (w.alloc (.cells (tc a) 43)) (tc b) 43).keeps h
  simp only [World.size_alloc] at this
  exact this.cells
 generalize (w.alloc (.cells (tc a) 43)).alloc (.cells (tc b) 43)=W at *
 refine (rh a _).mono ?_
 rintro e w1 ⟨rfl,k1⟩
 cases ha:dh a
 ·have Hr:Hid (fQ a b=false):=by show _=_;simp [fQ,ha]
  go_wp2
  go_ret
  exact ⟨by rw [Hr.out];rfl,kW.trans k1⟩
 ·go_wp2_with fail
  refine (rh b _).mono ?_
  rintro e w2 ⟨rfl,k2⟩
  have K2:=k1.trans k2
  cases hb:dh b
  ·have Hr:Hid (fQ a b=false):=by show _=_;simp [fQ,hb]
   go_wp2
   go_ret
   exact ⟨by rw [Hr.out];rfl,kW.trans K2⟩
  ·cases h1:decide (a.due < b.due)
   ·cases h2:(a.due==b.due)
    ·have Hr:Hid (fQ a b=false):=by show _=_;simp only [fQ,h1,h2,Bool.false_and,Bool.or_false,Bool.and_false]
     go_wp2
     go_ret
     exact ⟨by rw [Hr.out];rfl,kW.trans K2⟩
    ·have Hr:Hid (fQ a b=decide (a.no < b.no)):=by show _=_;simp only [fQ,ha,hb,h1,h2,Bool.true_and,Bool.false_or]
     go_wp2
     go_ret
     exact ⟨by rw [Hr.out];rfl,kW.trans K2⟩
   ·have Hr:Hid (fQ a b=true):=by show _=_;simp only [fQ,ha,hb,h1,Bool.true_or,Bool.and_true]
    go_wp2
    go_ret
    exact ⟨by rw [Hr.out];rfl,kW.trans K2⟩
end
section
open Go.RowKit Go.Extern.Stop Go.Stop Go.Extern
def dF (w:World):Prop:=w.cell? ⟨0,0,none⟩=some (.iface 152 (.agg #[.pointer (some ⟨7,63,none⟩)]))
theorem dF.lt {w:World} (h:dF w):0 < w.heap.size:=by
 rcases Nat.eq_zero_or_pos w.heap.size with h0 | h0
 ·unfold dF at h
  simp [World.cell?,h0] at h
 ·exact h0
theorem dF.keeps {w w':World} (h:dF w) (k:aa w w'):dF w':=by
 unfold dF
 rw [k.cells 0 0 h.lt]
 exact h
theorem Io (t:Value) (w:World) :
  Calls Tryz.prog 25 #[.nilIface,t] w fun e w'=>e = .returned (.bool false) /\ w'=w:=by
 go_enter Tryz.func25,Tryz.ntmps25
 go_wp2
 go_ret
 exact ⟨rfl,rfl⟩
theorem Ip (t:Addr) (w:World):(ReflectliteValue.unpack (.iface 65 (.pointer (some t)))).run Tryz.prog w
  = .ok (.agg #[.pointer (some ⟨7,65,none⟩),.pointer (some ⟨w.heap.size,0,none⟩),.int .u64 150]) (w.alloc (.cells #[.pointer (some t)] 65)):=by kernel_rfl
theorem Iq (a:Addr) (w:World):(ReflectliteValue.methodAny (ReflectliteValue.valueError "reflectlite.Value.Type" 0) (fun t _ _ _=>ReflectliteType.toType t) #[.agg #[.pointer (some ⟨7,65,none⟩),.pointer (some a),.int .u64 150]]).run Tryz.prog w
  = .ok (.iface 152 (.agg #[.pointer (some ⟨7,65,none⟩)])) w:=by kernel_rfl
theorem Ir (h:Value) (w:World):(Go.method 436 152 (.agg #[h]) "Kind").run Tryz.prog w = .ok (297,h) w:=by kernel_rfl
theorem Is (w:World):((ReflectliteType.abiMethod fun t=>(fun a:Nat=>Value.int IntKind.u8 (a:Int)) <$> Rtype.kind t) #[.pointer (some ⟨7,65,none⟩)]).run Tryz.prog w = .ok (.int .u8 22) w:=by kernel_rfl
theorem It (w:World):((ReflectliteType.abiMethod fun t=>(fun a:Nat=>Value.int IntKind.u8 (a:Int)) <$> Rtype.kind t) #[.pointer (some ⟨7,60,none⟩)]).run Tryz.prog w = .ok (.int .u8 25) w:=by kernel_rfl
theorem Al (a:Addr) (w:World):(ReflectliteValue.parts (.agg #[.pointer (some ⟨7,65,none⟩),.pointer (some a),.int .u64 150])).run Tryz.prog w = .ok (some (65,a,150)) w:=by kernel_rfl
theorem Iu (a p:Addr) (W:World) (ha:W.cell? a=some (.pointer (some p))) :
  (ReflectliteValue.method (ReflectliteValue.valueError "reflectlite.Value.IsNil" 0) ReflectliteValue.isNil #[.agg #[.pointer (some ⟨7,65,none⟩),.pointer (some a),.int .u64 150]]).run Tryz.prog W = .ok (.bool false) W:=by
 refine Eq.trans (b:=Sem.run Tryz.prog (ReflectliteValue.parts (.agg #[.pointer (some ⟨7,65,none⟩),.pointer (some a),.int .u64 150]) >>= _) W) rfl ?_
 simp only [Sem.run_bind,Al,Result.andThen]
 simp [ReflectliteValue.isNil,loadVar,isAgg,underlying,Tryz.underlying65,ha,Result.andThen]
theorem Iv (h:Value) (w:World):(Go.method 436 152 (.agg #[h]) "Elem").run Tryz.prog w = .ok (313,.agg #[h]) w:=by kernel_rfl
theorem Iw (h:Value) (w:World):(Go.method 436 152 (.agg #[h]) "Implements").run Tryz.prog w = .ok (314,.agg #[h]) w:=by kernel_rfl
theorem Ix (h:Value) (w:World):(Go.method 436 152 (.agg #[h]) "AssignableTo").run Tryz.prog w = .ok (311,.agg #[h]) w:=by kernel_rfl
theorem Iy (w:World):(ReflectliteType.method ReflectliteType.elem #[.agg #[.pointer (some ⟨7,65,none⟩)]]).run Tryz.prog w = .ok (.iface 152 (.agg #[.pointer (some ⟨7,60,none⟩)])) w:=by kernel_rfl
theorem Iz (w:World):(ReflectliteType.relation "Implements" ReflectliteType.implements_ #[.agg #[.pointer (some ⟨7,60,none⟩)],.iface 152 (.agg #[.pointer (some ⟨7,63,none⟩)])]).run Tryz.prog w = .ok (.bool true) w:=by kernel_rfl
theorem IA (v:Value) (w:World):(ReflectliteType.typeOf #[.iface 60 v]).run Tryz.prog w = .ok (.iface 152 (.agg #[.pointer (some ⟨7,60,none⟩)])) w:=by kernel_rfl
theorem IB (w:World):(ReflectliteType.relation "AssignableTo" ReflectliteType.assignableTo #[.agg #[.pointer (some ⟨7,60,none⟩)],.iface 152 (.agg #[.pointer (some ⟨7,60,none⟩)])]).run Tryz.prog w = .ok (.bool true) w:=by kernel_rfl
theorem IC (x:Int) (w:World):(ReflectliteValue.unpack (.iface 60 (.agg #[.int .i64 x]))).run Tryz.prog w
  = .ok (.agg #[.pointer (some ⟨7,60,none⟩),.pointer (some ⟨w.heap.size,0,none⟩),.int .u64 153]) (w.alloc (.cells #[.int .i64 x] 60)):=by kernel_rfl
theorem ID (w:World):(Rtype.elem? 65).run Tryz.prog w = .ok (some 60) w:=by kernel_rfl
theorem IE (p:Addr) (w:World):(ReflectliteValue.mk 60 p ReflectliteValue.flagAddr).run Tryz.prog w = .ok (.agg #[.pointer (some ⟨7,60,none⟩),.pointer (some p),.int .u64 409]) w:=by kernel_rfl
theorem IF (a p:Addr) (W:World) (ha:W.cell? a=some (.pointer (some p))) :
  (ReflectliteValue.method (ReflectliteValue.valueError "reflectlite.Value.Elem" 0) ReflectliteValue.elem #[.agg #[.pointer (some ⟨7,65,none⟩),.pointer (some a),.int .u64 150]]).run Tryz.prog W
   = .ok (.agg #[.pointer (some ⟨7,60,none⟩),.pointer (some p),.int .u64 409]) W:=by
 refine Eq.trans (b:=Sem.run Tryz.prog (ReflectliteValue.parts (.agg #[.pointer (some ⟨7,65,none⟩),.pointer (some a),.int .u64 150]) >>= _) W) rfl ?_
 simp only [Sem.run_bind,Al,Result.andThen]
 simp [ReflectliteValue.elem,loadVar,isAgg,underlying,Tryz.underlying65,ha,Result.andThen,ID,IE]
theorem IG (a:Addr) (w:World):(ReflectliteValue.parts (.agg #[.pointer (some ⟨7,60,none⟩),.pointer (some a),.int .u64 409])).run Tryz.prog w = .ok (some (60,a,409)) w:=by kernel_rfl
theorem IH (a:Addr) (w:World):(ReflectliteValue.parts (.agg #[.pointer (some ⟨7,60,none⟩),.pointer (some a),.int .u64 153])).run Tryz.prog w = .ok (some (60,a,153)) w:=by kernel_rfl
theorem II (w:World):(Rtype.directlyAssignable 60 60).run Tryz.prog w = .ok true w:=by kernel_rfl
theorem IJ (ta b:Addr) (x:Int) (old:Value) (W:World) (hb:W.cell? b=some (.int .i64 x)) (ht:W.cell? ta=some old) (hf:W.frozen? ta=false) (hsb:b.spot=none) (hst:ta.spot=none) :
  (ReflectliteValue.set #[.agg #[.pointer (some ⟨7,60,none⟩),.pointer (some ta),.int .u64 409],.agg #[.pointer (some ⟨7,60,none⟩),.pointer (some b),.int .u64 153]]).run Tryz.prog W
   = .ok (.tuple #[]) (W.setCell ta (.int .i64 x)):=by
 have hl:(loadCells b 1).run Tryz.prog W = .ok #[.int .i64 x] W:=by
  have:=run_loadCells_list (P:=Tryz.prog) (w:=W) b [.int .i64 x] (fun j v hj=>by
   rcases j with _ | j
   ·simp only [List.getElem?_cons_zero,Option.some.injEq] at hj
    subst hj
    have:b.add 0=b:=by obtain ⟨bb,bo,bs⟩:=b;cases hsb;simp [Addr.add]
    rw [this];exact hb
   ·simp at hj)
  simpa using this
 have hs:(storeCells ta [.int .i64 x]).run Tryz.prog W = .ok () (W.setCell ta (.int .i64 x)):=by
  have h0:ta.add 0=ta:=by obtain ⟨bb,bo,bs⟩:=ta;cases hst;simp [Addr.add]
  simp only [storeCells,h0,Sem.run_bind]
  rw [run_store Tryz.prog W ta _ _ (by rfl)]
  simp [ht,hf,Result.andThen]
 have hv:(loadVar 60 b).run Tryz.prog W = .ok (.agg #[.int .i64 x]) W:=by
  simp [loadVar,isAgg,underlying,Tryz.underlying60,Result.andThen,hl]
 have hw:(storeVar 60 ta (.agg #[.int .i64 x])).run Tryz.prog W = .ok () (W.setCell ta (.int .i64 x)):=by
  simp [storeVar,Result.andThen,Value.cells,hs]
 refine Eq.trans (b:=Sem.run Tryz.prog (ReflectliteValue.parts (.agg #[.pointer (some ⟨7,60,none⟩),.pointer (some ta),.int .u64 409]) >>= fun _=>ReflectliteValue.parts (.agg #[.pointer (some ⟨7,60,none⟩),.pointer (some b),.int .u64 153]) >>= _) W) rfl ?_
 simp only [Sem.run_bind,IG,IH,Result.andThen]
 simp [ReflectliteValue.flagAddr,Result.andThen,II,hv,hw]
set_option maxHeartbeats 4000000 in
theorem IK (x:Int) (b:Nat) (old:Value) (w:World) (hg:dF w) (ht0:w.cell? ⟨b,0,none⟩=some old) (hf0:w.frozen? ⟨b,0,none⟩=false) :
  Calls Tryz.prog 25 #[.iface 60 (.agg #[.int .i64 x]),.iface 65 (.pointer (some ⟨b,0,none⟩))] w fun ev w'=>ev = .returned (.bool true) /\ w'=((((w.alloc (.cells #[.pointer (some ⟨b,0,none⟩)] 65)).alloc (.cells #[.pointer (some ⟨7,65,none⟩),.pointer (some ⟨w.heap.size,0,none⟩),.int .u64 150] 112)).alloc (.cells #[.pointer (some ⟨7,65,none⟩),.pointer (some ⟨w.heap.size,0,none⟩),.int .u64 150] 112)).alloc (.cells #[.int .i64 x] 60)).setCell ⟨b,0,none⟩ (.int .i64 x):=by
 have h6 := @run_callFunc_extern Tryz.prog 58 _ (fun args=>ReflectliteValue.unpack (args.getD 0 (.tuple #[]))) Tryz.func58 (by kernel_rfl) (by kernel_rfl) (by kernel_rfl) (by kernel_rfl)
 have h7 := @run_callFunc_extern Tryz.prog 59 _ (ReflectliteValue.methodAny (ReflectliteValue.valueError "reflectlite.Value.Type" 0) (fun t _ _ _=>ReflectliteType.toType t)) Tryz.func59 (by kernel_rfl) (by kernel_rfl) (by kernel_rfl) (by kernel_rfl)
 have h8 := @run_callFunc_extern Tryz.prog 60 _ (ReflectliteValue.method (ReflectliteValue.valueError "reflectlite.Value.IsNil" 0) ReflectliteValue.isNil) Tryz.func60 (by kernel_rfl) (by kernel_rfl) (by kernel_rfl) (by kernel_rfl)
 have h27 := @run_callFunc_extern Tryz.prog 297 _ (ReflectliteType.abiMethod fun t=>do pure (.int .u8 (<- Rtype.kind t))) Tryz.func297 (by kernel_rfl) (by kernel_rfl) (by kernel_rfl) (by kernel_rfl)
 have h37 := @run_callFunc_extern Tryz.prog 313 _ (ReflectliteType.method ReflectliteType.elem) Tryz.func313 (by kernel_rfl) (by kernel_rfl) (by kernel_rfl) (by kernel_rfl)
 have Pv := @run_callFunc_extern Tryz.prog 314 _ (ReflectliteType.relation "Implements" ReflectliteType.implements_) Tryz.func314 (by kernel_rfl) (by kernel_rfl) (by kernel_rfl) (by kernel_rfl)
 have h10 := @run_callFunc_extern Tryz.prog 102 _ ReflectliteType.typeOf Tryz.func102 (by kernel_rfl) (by kernel_rfl) (by kernel_rfl) (by kernel_rfl)
 have Pw := @run_callFunc_extern Tryz.prog 311 _ (ReflectliteType.relation "AssignableTo" ReflectliteType.assignableTo) Tryz.func311 (by kernel_rfl) (by kernel_rfl) (by kernel_rfl) (by kernel_rfl)
 have h11 := @run_callFunc_extern Tryz.prog 103 _ (ReflectliteValue.method (ReflectliteValue.valueError "reflectlite.Value.Elem" 0) ReflectliteValue.elem) Tryz.func103 (by kernel_rfl) (by kernel_rfl) (by kernel_rfl) (by kernel_rfl)
 have h12 := @run_callFunc_extern Tryz.prog 104 _ ReflectliteValue.set Tryz.func104 (by kernel_rfl) (by kernel_rfl) (by kernel_rfl) (by kernel_rfl)
 have tO:=IA
 have mA:=Ix
 have a25:=IB
 have v25:=IC
 have f6:=Ip
 have f7:=Iq
 have mK:=Ir
 have mE:=Iv
 have mI:=Iw
 have k27:=Is
 have k25:=It
 have e27:=Iy
 have i25:=Iz
 have n8:=Iu ⟨w.heap.size,0,none⟩ ⟨b,0,none⟩ ((w.alloc (.cells #[.pointer (some ⟨b,0,none⟩)] 65)).alloc (.cells #[.pointer (some ⟨7,65,none⟩),.pointer (some ⟨w.heap.size,0,none⟩),.int .u64 150] 112)) (by simp)
 have hlt:0 < w.heap.size:=hg.lt
 have hg2:((w.alloc (.cells #[.pointer (some ⟨b,0,none⟩)] 65)).alloc (.cells #[.pointer (some ⟨7,65,none⟩),.pointer (some ⟨w.heap.size,0,none⟩),.int .u64 150] 112)).cell? ⟨0,0,none⟩=some (.iface 152 (.agg #[.pointer (some ⟨7,63,none⟩)])):=hg.keeps (((aa.refl w).alloc _).alloc _)
 have htl:b < w.heap.size:=World.block_lt_of_cell? w _ ht0
 have el:=IF ⟨w.heap.size,0,none⟩ ⟨b,0,none⟩ (((w.alloc (.cells #[.pointer (some ⟨b,0,none⟩)] 65)).alloc (.cells #[.pointer (some ⟨7,65,none⟩),.pointer (some ⟨w.heap.size,0,none⟩),.int .u64 150] 112)).alloc (.cells #[.pointer (some ⟨7,65,none⟩),.pointer (some ⟨w.heap.size,0,none⟩),.int .u64 150] 112)) (by rw [World.cell?_alloc_lt _ _ ⟨w.heap.size,0,none⟩ (by simp;omega)];simp)
 have kk:=((((aa.refl w).alloc (.cells #[.pointer (some ⟨b,0,none⟩)] 65)).alloc (.cells #[.pointer (some ⟨7,65,none⟩),.pointer (some ⟨w.heap.size,0,none⟩),.int .u64 150] 112)).alloc (.cells #[.pointer (some ⟨7,65,none⟩),.pointer (some ⟨w.heap.size,0,none⟩),.int .u64 150] 112)).alloc (.cells #[.int .i64 x] 60)
 have st:=IJ ⟨b,0,none⟩ ⟨w.heap.size+1+1+1,0,none⟩ x old ((((w.alloc (.cells #[.pointer (some ⟨b,0,none⟩)] 65)).alloc (.cells #[.pointer (some ⟨7,65,none⟩),.pointer (some ⟨w.heap.size,0,none⟩),.int .u64 150] 112)).alloc (.cells #[.pointer (some ⟨7,65,none⟩),.pointer (some ⟨w.heap.size,0,none⟩),.int .u64 150] 112)).alloc (.cells #[.int .i64 x] 60))
  (by rw [World.cell?_alloc_at _ _ _ _ (by simp)];rfl) (by rw [kk.cells b 0 htl];exact ht0) (by rw [kk.aM b 0 htl];exact hf0) rfl rfl
 clear kk hg
 go_enter Tryz.func25,Tryz.ntmps25
 go_wp2
 refine wp_loop_rounds 1 ?_
 rw [rounds_succ]
 go_wp2
 go_ret
 exact ⟨rfl,rfl⟩
end
end Go.Proofs.YteagpjlgjfaclaaGreatDoor
