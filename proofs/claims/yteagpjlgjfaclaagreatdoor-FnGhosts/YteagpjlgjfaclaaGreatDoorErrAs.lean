/-
  errors.As of a mistake, or of none, into a variable for mis
-/
import Derived.Test.YteagpjlgjfaclaaGreatDoorBase
import Derived.LaidEql
import Derived.Stop.Asserts
import Derived.RowKitTokens
namespace Go.Proofs.YteagpjlgjfaclaaGreatDoor
set_option maxRecDepth 100000
open Go.RowKit Go.Extern.Stop Go.Stop Go.Extern
attribute [local go_sem] aa.refl aa.alloc aa.drew aa.drewN
def dm (w:World):Prop:=w.cell? ⟨0,0,none⟩=some (.iface 152 (.agg #[.pointer (some ⟨7,63,none⟩)]))
theorem dm.lt {w:World} (h:dm w):0 < w.heap.size:=by
 rcases Nat.eq_zero_or_pos w.heap.size with h0 | h0
 ·unfold dm at h
  simp [World.cell?,h0] at h
 ·exact h0
theorem dm.keeps {w w':World} (h:dm w) (k:aa w w'):dm w':=by
 unfold dm
 rw [k.cells 0 0 h.lt]
 exact h
theorem Dl (t:Value) (w:World) :
  Calls Tryz.prog 25 #[.nilIface,t] w fun e w'=>e = .returned (.bool false) /\ w'=w:=by
 go_enter Tryz.func25,Tryz.ntmps25
 go_wp2
 go_ret
 exact ⟨rfl,rfl⟩
theorem Dm (t:Addr) (w:World):(ReflectliteValue.unpack (.iface 65 (.pointer (some t)))).run Tryz.prog w
  = .ok (.agg #[.pointer (some ⟨7,65,none⟩),.pointer (some ⟨w.heap.size,0,none⟩),.int .u64 150]) (w.alloc (.cells #[.pointer (some t)] 65)):=by kernel_rfl
theorem Dn (a:Addr) (w:World):(ReflectliteValue.methodAny (ReflectliteValue.valueError "reflectlite.Value.Type" 0) (fun t _ _ _=>ReflectliteType.toType t) #[.agg #[.pointer (some ⟨7,65,none⟩),.pointer (some a),.int .u64 150]]).run Tryz.prog w
  = .ok (.iface 152 (.agg #[.pointer (some ⟨7,65,none⟩)])) w:=by kernel_rfl
theorem Dp (h:Value) (w:World):(Go.method 436 152 (.agg #[h]) "Kind").run Tryz.prog w = .ok (297,h) w:=by kernel_rfl
theorem Dq (w:World):((ReflectliteType.abiMethod fun t=>(fun a:Nat=>Value.int IntKind.u8 (a:Int)) <$> Rtype.kind t) #[.pointer (some ⟨7,65,none⟩)]).run Tryz.prog w = .ok (.int .u8 22) w:=by kernel_rfl
theorem Dr (w:World):((ReflectliteType.abiMethod fun t=>(fun a:Nat=>Value.int IntKind.u8 (a:Int)) <$> Rtype.kind t) #[.pointer (some ⟨7,60,none⟩)]).run Tryz.prog w = .ok (.int .u8 25) w:=by kernel_rfl
theorem wP (a:Addr) (w:World):(ReflectliteValue.parts (.agg #[.pointer (some ⟨7,65,none⟩),.pointer (some a),.int .u64 150])).run Tryz.prog w = .ok (some (65,a,150)) w:=by kernel_rfl
theorem Ds (a p:Addr) (W:World) (ha:W.cell? a=some (.pointer (some p))) :
  (ReflectliteValue.method (ReflectliteValue.valueError "reflectlite.Value.IsNil" 0) ReflectliteValue.isNil #[.agg #[.pointer (some ⟨7,65,none⟩),.pointer (some a),.int .u64 150]]).run Tryz.prog W = .ok (.bool false) W:=by
 refine Eq.trans (b:=Sem.run Tryz.prog (ReflectliteValue.parts (.agg #[.pointer (some ⟨7,65,none⟩),.pointer (some a),.int .u64 150]) >>= _) W) rfl ?_
 simp only [Sem.run_bind,wP,Result.andThen]
 simp [ReflectliteValue.isNil,loadVar,isAgg,underlying,Tryz.underlying65,ha,Result.andThen]
theorem Dt (h:Value) (w:World):(Go.method 436 152 (.agg #[h]) "Elem").run Tryz.prog w = .ok (313,.agg #[h]) w:=by kernel_rfl
theorem Du (h:Value) (w:World):(Go.method 436 152 (.agg #[h]) "Implements").run Tryz.prog w = .ok (314,.agg #[h]) w:=by kernel_rfl
theorem Dv (h:Value) (w:World):(Go.method 436 152 (.agg #[h]) "AssignableTo").run Tryz.prog w = .ok (311,.agg #[h]) w:=by kernel_rfl
theorem Dw (w:World):(ReflectliteType.method ReflectliteType.elem #[.agg #[.pointer (some ⟨7,65,none⟩)]]).run Tryz.prog w = .ok (.iface 152 (.agg #[.pointer (some ⟨7,60,none⟩)])) w:=by kernel_rfl
theorem Dx (w:World):(ReflectliteType.relation "Implements" ReflectliteType.implements_ #[.agg #[.pointer (some ⟨7,60,none⟩)],.iface 152 (.agg #[.pointer (some ⟨7,63,none⟩)])]).run Tryz.prog w = .ok (.bool true) w:=by kernel_rfl
theorem Dy (v:Value) (w:World):(ReflectliteType.typeOf #[.iface 60 v]).run Tryz.prog w = .ok (.iface 152 (.agg #[.pointer (some ⟨7,60,none⟩)])) w:=by kernel_rfl
theorem Dz (w:World):(ReflectliteType.relation "AssignableTo" ReflectliteType.assignableTo #[.agg #[.pointer (some ⟨7,60,none⟩)],.iface 152 (.agg #[.pointer (some ⟨7,60,none⟩)])]).run Tryz.prog w = .ok (.bool true) w:=by kernel_rfl
theorem DF (x:Int) (w:World):(ReflectliteValue.unpack (.iface 60 (.agg #[.int .i64 x]))).run Tryz.prog w
  = .ok (.agg #[.pointer (some ⟨7,60,none⟩),.pointer (some ⟨w.heap.size,0,none⟩),.int .u64 153]) (w.alloc (.cells #[.int .i64 x] 60)):=by kernel_rfl
theorem DG (w:World):(Rtype.elem? 65).run Tryz.prog w = .ok (some 60) w:=by kernel_rfl
theorem DH (p:Addr) (w:World):(ReflectliteValue.mk 60 p ReflectliteValue.flagAddr).run Tryz.prog w = .ok (.agg #[.pointer (some ⟨7,60,none⟩),.pointer (some p),.int .u64 409]) w:=by kernel_rfl
theorem DI (a p:Addr) (W:World) (ha:W.cell? a=some (.pointer (some p))) :
  (ReflectliteValue.method (ReflectliteValue.valueError "reflectlite.Value.Elem" 0) ReflectliteValue.elem #[.agg #[.pointer (some ⟨7,65,none⟩),.pointer (some a),.int .u64 150]]).run Tryz.prog W
   = .ok (.agg #[.pointer (some ⟨7,60,none⟩),.pointer (some p),.int .u64 409]) W:=by
 refine Eq.trans (b:=Sem.run Tryz.prog (ReflectliteValue.parts (.agg #[.pointer (some ⟨7,65,none⟩),.pointer (some a),.int .u64 150]) >>= _) W) rfl ?_
 simp only [Sem.run_bind,wP,Result.andThen]
 simp [ReflectliteValue.elem,loadVar,isAgg,underlying,Tryz.underlying65,ha,Result.andThen,DG,DH]
theorem DJ (a:Addr) (w:World):(ReflectliteValue.parts (.agg #[.pointer (some ⟨7,60,none⟩),.pointer (some a),.int .u64 409])).run Tryz.prog w = .ok (some (60,a,409)) w:=by kernel_rfl
theorem DM (a:Addr) (w:World):(ReflectliteValue.parts (.agg #[.pointer (some ⟨7,60,none⟩),.pointer (some a),.int .u64 153])).run Tryz.prog w = .ok (some (60,a,153)) w:=by kernel_rfl
theorem DN (w:World):(Rtype.directlyAssignable 60 60).run Tryz.prog w = .ok true w:=by kernel_rfl
theorem DP (ta b:Addr) (x:Int) (old:Value) (W:World) (hb:W.cell? b=some (.int .i64 x)) (ht:W.cell? ta=some old) (hf:W.frozen? ta=false) (hsb:b.spot=none) (hst:ta.spot=none) :
  (ReflectliteValue.set #[.agg #[.pointer (some ⟨7,60,none⟩),.pointer (some ta),.int .u64 409],.agg #[.pointer (some ⟨7,60,none⟩),.pointer (some b),.int .u64 153]]).run Tryz.prog W
   = .ok (.tuple #[]) (W.setCell ta (.int .i64 x)):=by
 have hl:(loadCells b 1).run Tryz.prog W = .ok #[.int .i64 x] W:=by
  have:=run_loadCells_list (P:=Tryz.prog) (w:=W) b [.int .i64 x] (fun j v hj=>by
   rcases j with _ | j
   ·simp only [List.getElem?_cons_zero,Option.some.injEq] at hj
    subst hj
    have:b.add 0=b:=by obtain ⟨bb,bo,bs⟩:=b;cases hsb;simp [Addr.add]
    rw [this];exact hb
   ·simp at hj)
  simpa using this
 have hs:(storeCells ta [.int .i64 x]).run Tryz.prog W = .ok () (W.setCell ta (.int .i64 x)):=by
  have h0:ta.add 0=ta:=by obtain ⟨bb,bo,bs⟩:=ta;cases hst;simp [Addr.add]
  simp only [storeCells,h0,Sem.run_bind]
  rw [run_store Tryz.prog W ta _ _ (by rfl)]
  simp [ht,hf,Result.andThen]
 have hv:(loadVar 60 b).run Tryz.prog W = .ok (.agg #[.int .i64 x]) W:=by
  simp [loadVar,isAgg,underlying,Tryz.underlying60,Result.andThen,hl]
 have hw:(storeVar 60 ta (.agg #[.int .i64 x])).run Tryz.prog W = .ok () (W.setCell ta (.int .i64 x)):=by
  simp [storeVar,Result.andThen,Value.cells,hs]
 refine Eq.trans (b:=Sem.run Tryz.prog (ReflectliteValue.parts (.agg #[.pointer (some ⟨7,60,none⟩),.pointer (some ta),.int .u64 409]) >>= fun _=>ReflectliteValue.parts (.agg #[.pointer (some ⟨7,60,none⟩),.pointer (some b),.int .u64 153]) >>= _) W) rfl ?_
 simp only [Sem.run_bind,DJ,DM,Result.andThen]
 simp [ReflectliteValue.flagAddr,Result.andThen,DN,hv,hw]
set_option maxHeartbeats 4000000 in
theorem DQ (x:Int) (b:Nat) (old:Value) (w:World) (hg:dm w) (ht0:w.cell? ⟨b,0,none⟩=some old) (hf0:w.frozen? ⟨b,0,none⟩=false) :
  Calls Tryz.prog 25 #[.iface 60 (.agg #[.int .i64 x]),.iface 65 (.pointer (some ⟨b,0,none⟩))] w fun ev w'=>ev = .returned (.bool true) /\ w'=((((w.alloc (.cells #[.pointer (some ⟨b,0,none⟩)] 65)).alloc (.cells #[.pointer (some ⟨7,65,none⟩),.pointer (some ⟨w.heap.size,0,none⟩),.int .u64 150] 112)).alloc (.cells #[.pointer (some ⟨7,65,none⟩),.pointer (some ⟨w.heap.size,0,none⟩),.int .u64 150] 112)).alloc (.cells #[.int .i64 x] 60)).setCell ⟨b,0,none⟩ (.int .i64 x):=by
 have h6 := @run_callFunc_extern Tryz.prog 58 _ (fun args=>ReflectliteValue.unpack (args.getD 0 (.tuple #[]))) Tryz.func58 (by kernel_rfl) (by kernel_rfl) (by kernel_rfl) (by kernel_rfl)
 have h7 := @run_callFunc_extern Tryz.prog 59 _ (ReflectliteValue.methodAny (ReflectliteValue.valueError "reflectlite.Value.Type" 0) (fun t _ _ _=>ReflectliteType.toType t)) Tryz.func59 (by kernel_rfl) (by kernel_rfl) (by kernel_rfl) (by kernel_rfl)
 have h8 := @run_callFunc_extern Tryz.prog 60 _ (ReflectliteValue.method (ReflectliteValue.valueError "reflectlite.Value.IsNil" 0) ReflectliteValue.isNil) Tryz.func60 (by kernel_rfl) (by kernel_rfl) (by kernel_rfl) (by kernel_rfl)
 have h27 := @run_callFunc_extern Tryz.prog 297 _ (ReflectliteType.abiMethod fun t=>do pure (.int .u8 (<- Rtype.kind t))) Tryz.func297 (by kernel_rfl) (by kernel_rfl) (by kernel_rfl) (by kernel_rfl)
 have h37 := @run_callFunc_extern Tryz.prog 313 _ (ReflectliteType.method ReflectliteType.elem) Tryz.func313 (by kernel_rfl) (by kernel_rfl) (by kernel_rfl) (by kernel_rfl)
 have Ke := @run_callFunc_extern Tryz.prog 314 _ (ReflectliteType.relation "Implements" ReflectliteType.implements_) Tryz.func314 (by kernel_rfl) (by kernel_rfl) (by kernel_rfl) (by kernel_rfl)
 have h10 := @run_callFunc_extern Tryz.prog 102 _ ReflectliteType.typeOf Tryz.func102 (by kernel_rfl) (by kernel_rfl) (by kernel_rfl) (by kernel_rfl)
 have Kf := @run_callFunc_extern Tryz.prog 311 _ (ReflectliteType.relation "AssignableTo" ReflectliteType.assignableTo) Tryz.func311 (by kernel_rfl) (by kernel_rfl) (by kernel_rfl) (by kernel_rfl)
 have h11 := @run_callFunc_extern Tryz.prog 103 _ (ReflectliteValue.method (ReflectliteValue.valueError "reflectlite.Value.Elem" 0) ReflectliteValue.elem) Tryz.func103 (by kernel_rfl) (by kernel_rfl) (by kernel_rfl) (by kernel_rfl)
 have h12 := @run_callFunc_extern Tryz.prog 104 _ ReflectliteValue.set Tryz.func104 (by kernel_rfl) (by kernel_rfl) (by kernel_rfl) (by kernel_rfl)
 have tO:=Dy
 have mA:=Dv
 have a25:=Dz
 have v25:=DF
 have f6:=Dm
 have f7:=Dn
 have mK:=Dp
 have mE:=Dt
 have mI:=Du
 have k27:=Dq
 have k25:=Dr
 have e27:=Dw
 have i25:=Dx
 have n8:=Ds ⟨w.heap.size,0,none⟩ ⟨b,0,none⟩ ((w.alloc (.cells #[.pointer (some ⟨b,0,none⟩)] 65)).alloc (.cells #[.pointer (some ⟨7,65,none⟩),.pointer (some ⟨w.heap.size,0,none⟩),.int .u64 150] 112)) (by simp)
 have hlt:0 < w.heap.size:=hg.lt
 have hg2:((w.alloc (.cells #[.pointer (some ⟨b,0,none⟩)] 65)).alloc (.cells #[.pointer (some ⟨7,65,none⟩),.pointer (some ⟨w.heap.size,0,none⟩),.int .u64 150] 112)).cell? ⟨0,0,none⟩=some (.iface 152 (.agg #[.pointer (some ⟨7,63,none⟩)])):=hg.keeps (((aa.refl w).alloc _).alloc _)
 have htl:b < w.heap.size:=World.block_lt_of_cell? w _ ht0
 have el:=DI ⟨w.heap.size,0,none⟩ ⟨b,0,none⟩ (((w.alloc (.cells #[.pointer (some ⟨b,0,none⟩)] 65)).alloc (.cells #[.pointer (some ⟨7,65,none⟩),.pointer (some ⟨w.heap.size,0,none⟩),.int .u64 150] 112)).alloc (.cells #[.pointer (some ⟨7,65,none⟩),.pointer (some ⟨w.heap.size,0,none⟩),.int .u64 150] 112)) (by rw [World.cell?_alloc_lt _ _ ⟨w.heap.size,0,none⟩ (by simp;omega)];simp)
 have kk:=((((aa.refl w).alloc (.cells #[.pointer (some ⟨b,0,none⟩)] 65)).alloc (.cells #[.pointer (some ⟨7,65,none⟩),.pointer (some ⟨w.heap.size,0,none⟩),.int .u64 150] 112)).alloc (.cells #[.pointer (some ⟨7,65,none⟩),.pointer (some ⟨w.heap.size,0,none⟩),.int .u64 150] 112)).alloc (.cells #[.int .i64 x] 60)
 have st:=DP ⟨b,0,none⟩ ⟨w.heap.size+1+1+1,0,none⟩ x old ((((w.alloc (.cells #[.pointer (some ⟨b,0,none⟩)] 65)).alloc (.cells #[.pointer (some ⟨7,65,none⟩),.pointer (some ⟨w.heap.size,0,none⟩),.int .u64 150] 112)).alloc (.cells #[.pointer (some ⟨7,65,none⟩),.pointer (some ⟨w.heap.size,0,none⟩),.int .u64 150] 112)).alloc (.cells #[.int .i64 x] 60))
  (by rw [World.cell?_alloc_at _ _ _ _ (by simp)];rfl) (by rw [kk.cells b 0 htl];exact ht0) (by rw [kk.aO b 0 htl];exact hf0) rfl rfl
 clear kk hg
 go_enter Tryz.func25,Tryz.ntmps25
 go_wp2
 refine wp_loop_rounds 1 ?_
 rw [rounds_succ]
 go_wp2
 go_ret
 exact ⟨rfl,rfl⟩
end Go.Proofs.YteagpjlgjfaclaaGreatDoor
