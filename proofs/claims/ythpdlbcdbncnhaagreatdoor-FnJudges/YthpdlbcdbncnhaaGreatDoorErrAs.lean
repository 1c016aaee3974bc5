/-
  errors.As of a mistake, or of none, into a variable for mis
  The walk of FnExactSysOk, over a contract of the program's
  The variable errors.errorType, as the statements that list
-/
import Derived.Test.YthpdlbcdbncnhaaGreatDoorGBase1
import Derived.LaidEql
import Derived.Stop.Asserts
import Derived.RowKitTokens
import Derived.Test.YthpdlbcdbncnhaaGreatDoorGSys4
import Derived.Test.YthpdlbcdbncnhaaGreatDoorGSys5
import Derived.Deep.RegionHeld3
import Derived.Test.YthpdlbcdbncnhaaGreatDoorGBase2
import Derived.ChangeSame
import Derived.ChangeVars
import Derived.JoinedOf
import Derived.LaidLaws
import Derived.LaidHandle
import Derived.Stop.Joined
namespace Go.Proofs.YthpdlbcdbncnhaaGreatDoor
set_option maxRecDepth 100000
open Go.RowKit Go.Extern.Stop Go.Stop Go.Extern
attribute [local go_sem] Keeps.refl Keeps.alloc Keeps.drew Keeps.drewN
def GlobE (w:World):Prop:=w.cell? ⟨0,0,none⟩=some (.iface 203 (.agg #[.pointer (some ⟨1,118,none⟩)]))
theorem GlobE.lt {w:World} (h:GlobE w):0 < w.heap.size:=by
 rcases Nat.eq_zero_or_pos w.heap.size with h0 | h0
 ·unfold GlobE at h
  simp [World.cell?,h0] at h
 ·exact h0
theorem GlobE.keeps {w w':World} (h:GlobE w) (k:Keeps w w'):GlobE w':=by
 unfold GlobE
 rw [k.cells 0 0 h.lt]
 exact h
theorem qja (t:Value) (w:World) :
  Calls Tryz.prog 81 #[.nilIface,t] w fun e w'=>e = .returned (.bool false) /\ w'=w:=by
 go_enter Tryz.func81,Tryz.ntmps81
 go_wp2
 go_ret
 exact ⟨rfl,rfl⟩
theorem qjb (t:Addr) (w:World):(ReflectliteValue.unpack (.iface 120 (.pointer (some t)))).run Tryz.prog w
  = .ok (.agg #[.pointer (some ⟨1,120,none⟩),.pointer (some ⟨w.heap.size,0,none⟩),.int .u64 150]) (w.alloc (.cells #[.pointer (some t)] 120)):=by kernel_rfl
theorem qjc (a:Addr) (w:World):(ReflectliteValue.methodAny (ReflectliteValue.valueError "reflectlite.Value.Type" 0) (fun t _ _ _=>ReflectliteType.toType t) #[.agg #[.pointer (some ⟨1,120,none⟩),.pointer (some a),.int .u64 150]]).run Tryz.prog w
  = .ok (.iface 203 (.agg #[.pointer (some ⟨1,120,none⟩)])) w:=by kernel_rfl
theorem qjd (h:Value) (w:World):(Go.method 431 203 (.agg #[h]) "Kind").run Tryz.prog w = .ok (274,h) w:=by kernel_rfl
theorem qje (w:World):((ReflectliteType.abiMethod fun t=>(fun a:Nat=>Value.int IntKind.u8 (a:Int)) <$> Rtype.kind t) #[.pointer (some ⟨1,120,none⟩)]).run Tryz.prog w = .ok (.int .u8 22) w:=by kernel_rfl
theorem qjf (w:World):((ReflectliteType.abiMethod fun t=>(fun a:Nat=>Value.int IntKind.u8 (a:Int)) <$> Rtype.kind t) #[.pointer (some ⟨1,115,none⟩)]).run Tryz.prog w = .ok (.int .u8 25) w:=by kernel_rfl
theorem qgx (a:Addr) (w:World):(ReflectliteValue.parts (.agg #[.pointer (some ⟨1,120,none⟩),.pointer (some a),.int .u64 150])).run Tryz.prog w = .ok (some (120,a,150)) w:=by kernel_rfl
theorem qjg (a p:Addr) (W:World) (ha:W.cell? a=some (.pointer (some p))) :
  (ReflectliteValue.method (ReflectliteValue.valueError "reflectlite.Value.IsNil" 0) ReflectliteValue.isNil #[.agg #[.pointer (some ⟨1,120,none⟩),.pointer (some a),.int .u64 150]]).run Tryz.prog W = .ok (.bool false) W:=by
 refine Eq.trans (b:=Sem.run Tryz.prog (ReflectliteValue.parts (.agg #[.pointer (some ⟨1,120,none⟩),.pointer (some a),.int .u64 150]) >>= _) W) rfl ?_
 simp only [Sem.run_bind,qgx,Result.andThen]
 simp [ReflectliteValue.isNil,loadVar,isAgg,underlying,Tryz.underlying120,ha,Result.andThen]
theorem qjh (h:Value) (w:World):(Go.method 431 203 (.agg #[h]) "Elem").run Tryz.prog w = .ok (301,.agg #[h]) w:=by kernel_rfl
theorem qji (h:Value) (w:World):(Go.method 431 203 (.agg #[h]) "Implements").run Tryz.prog w = .ok (302,.agg #[h]) w:=by kernel_rfl
theorem qjj (h:Value) (w:World):(Go.method 431 203 (.agg #[h]) "AssignableTo").run Tryz.prog w = .ok (299,.agg #[h]) w:=by kernel_rfl
theorem qjk (w:World):(ReflectliteType.method ReflectliteType.elem #[.agg #[.pointer (some ⟨1,120,none⟩)]]).run Tryz.prog w = .ok (.iface 203 (.agg #[.pointer (some ⟨1,115,none⟩)])) w:=by kernel_rfl
theorem qjl (w:World):(ReflectliteType.relation "Implements" ReflectliteType.implements_ #[.agg #[.pointer (some ⟨1,115,none⟩)],.iface 203 (.agg #[.pointer (some ⟨1,118,none⟩)])]).run Tryz.prog w = .ok (.bool true) w:=by kernel_rfl
theorem qjm (v:Value) (w:World):(ReflectliteType.typeOf #[.iface 115 v]).run Tryz.prog w = .ok (.iface 203 (.agg #[.pointer (some ⟨1,115,none⟩)])) w:=by kernel_rfl
theorem qjn (w:World):(ReflectliteType.relation "AssignableTo" ReflectliteType.assignableTo #[.agg #[.pointer (some ⟨1,115,none⟩)],.iface 203 (.agg #[.pointer (some ⟨1,115,none⟩)])]).run Tryz.prog w = .ok (.bool true) w:=by kernel_rfl
theorem qjo (x:Int) (w:World):(ReflectliteValue.unpack (.iface 115 (.agg #[.int .i64 x]))).run Tryz.prog w
  = .ok (.agg #[.pointer (some ⟨1,115,none⟩),.pointer (some ⟨w.heap.size,0,none⟩),.int .u64 153]) (w.alloc (.cells #[.int .i64 x] 115)):=by kernel_rfl
theorem qjp (w:World):(Rtype.elem? 120).run Tryz.prog w = .ok (some 115) w:=by kernel_rfl
theorem qjq (p:Addr) (w:World):(ReflectliteValue.mk 115 p ReflectliteValue.flagAddr).run Tryz.prog w = .ok (.agg #[.pointer (some ⟨1,115,none⟩),.pointer (some p),.int .u64 409]) w:=by kernel_rfl
theorem qjr (a p:Addr) (W:World) (ha:W.cell? a=some (.pointer (some p))) :
  (ReflectliteValue.method (ReflectliteValue.valueError "reflectlite.Value.Elem" 0) ReflectliteValue.elem #[.agg #[.pointer (some ⟨1,120,none⟩),.pointer (some a),.int .u64 150]]).run Tryz.prog W
   = .ok (.agg #[.pointer (some ⟨1,115,none⟩),.pointer (some p),.int .u64 409]) W:=by
 refine Eq.trans (b:=Sem.run Tryz.prog (ReflectliteValue.parts (.agg #[.pointer (some ⟨1,120,none⟩),.pointer (some a),.int .u64 150]) >>= _) W) rfl ?_
 simp only [Sem.run_bind,qgx,Result.andThen]
 simp [ReflectliteValue.elem,loadVar,isAgg,underlying,Tryz.underlying120,ha,Result.andThen,qjp,qjq]
theorem qjs (a:Addr) (w:World):(ReflectliteValue.parts (.agg #[.pointer (some ⟨1,115,none⟩),.pointer (some a),.int .u64 409])).run Tryz.prog w = .ok (some (115,a,409)) w:=by kernel_rfl
theorem qjt (a:Addr) (w:World):(ReflectliteValue.parts (.agg #[.pointer (some ⟨1,115,none⟩),.pointer (some a),.int .u64 153])).run Tryz.prog w = .ok (some (115,a,153)) w:=by kernel_rfl
theorem qju (w:World):(Rtype.directlyAssignable 115 115).run Tryz.prog w = .ok true w:=by kernel_rfl
theorem qjv (ta b:Addr) (x:Int) (old:Value) (W:World) (hb:W.cell? b=some (.int .i64 x)) (ht:W.cell? ta=some old) (hf:W.frozen? ta=false) (hsb:b.spot=none) (hst:ta.spot=none) :
  (ReflectliteValue.set #[.agg #[.pointer (some ⟨1,115,none⟩),.pointer (some ta),.int .u64 409],.agg #[.pointer (some ⟨1,115,none⟩),.pointer (some b),.int .u64 153]]).run Tryz.prog W
   = .ok (.tuple #[]) (W.setCell ta (.int .i64 x)):=by
 have hl:(loadCells b 1).run Tryz.prog W = .ok #[.int .i64 x] W:=by
  have:=run_loadCells_list (P:=Tryz.prog) (w:=W) b [.int .i64 x] (fun j v hj=>by
   rcases j with _ | j
   ·simp only [List.getElem?_cons_zero,Option.some.injEq] at hj
    subst hj
    have:b.add 0=b:=by obtain ⟨bb,bo,bs⟩:=b;cases hsb;simp [Addr.add]
    rw [this];exact hb
   ·simp at hj)
  simpa using this
 have hs:(storeCells ta [.int .i64 x]).run Tryz.prog W = .ok () (W.setCell ta (.int .i64 x)):=by
  have h0:ta.add 0=ta:=by obtain ⟨bb,bo,bs⟩:=ta;cases hst;simp [Addr.add]
  simp only [storeCells,h0,Sem.run_bind]
  rw [run_store Tryz.prog W ta _ _ (by rfl)]
  simp [ht,hf,Result.andThen]
 have hv:(loadVar 115 b).run Tryz.prog W = .ok (.agg #[.int .i64 x]) W:=by
  simp [loadVar,isAgg,underlying,Tryz.underlying115,Result.andThen,hl]
 have hw:(storeVar 115 ta (.agg #[.int .i64 x])).run Tryz.prog W = .ok () (W.setCell ta (.int .i64 x)):=by
  simp [storeVar,Result.andThen,Value.cells,hs]
 refine Eq.trans (b:=Sem.run Tryz.prog (ReflectliteValue.parts (.agg #[.pointer (some ⟨1,115,none⟩),.pointer (some ta),.int .u64 409]) >>= fun _=>ReflectliteValue.parts (.agg #[.pointer (some ⟨1,115,none⟩),.pointer (some b),.int .u64 153]) >>= _) W) rfl ?_
 simp only [Sem.run_bind,qjs,qjt,Result.andThen]
 simp [ReflectliteValue.flagAddr,Result.andThen,qju,hv,hw]
set_option maxHeartbeats 4000000 in
theorem qjw (x:Int) (b:Nat) (old:Value) (w:World) (hg:GlobE w) (ht0:w.cell? ⟨b,0,none⟩=some old) (hf0:w.frozen? ⟨b,0,none⟩=false) :
  Calls Tryz.prog 81 #[.iface 115 (.agg #[.int .i64 x]),.iface 120 (.pointer (some ⟨b,0,none⟩))] w fun ev w'=>ev = .returned (.bool true) /\ w'=((((w.alloc (.cells #[.pointer (some ⟨b,0,none⟩)] 120)).alloc (.cells #[.pointer (some ⟨1,120,none⟩),.pointer (some ⟨w.heap.size,0,none⟩),.int .u64 150] 162)).alloc (.cells #[.pointer (some ⟨1,120,none⟩),.pointer (some ⟨w.heap.size,0,none⟩),.int .u64 150] 162)).alloc (.cells #[.int .i64 x] 115)).setCell ⟨b,0,none⟩ (.int .i64 x):=by
 have h6 := @run_callFunc_extern Tryz.prog 120 _ (fun args=>ReflectliteValue.unpack (args.getD 0 (.tuple #[]))) Tryz.func120 (by kernel_rfl) (by kernel_rfl) (by kernel_rfl) (by kernel_rfl)
 have h7 := @run_callFunc_extern Tryz.prog 121 _ (ReflectliteValue.methodAny (ReflectliteValue.valueError "reflectlite.Value.Type" 0) (fun t _ _ _=>ReflectliteType.toType t)) Tryz.func121 (by kernel_rfl) (by kernel_rfl) (by kernel_rfl) (by kernel_rfl)
 have h8 := @run_callFunc_extern Tryz.prog 122 _ (ReflectliteValue.method (ReflectliteValue.valueError "reflectlite.Value.IsNil" 0) ReflectliteValue.isNil) Tryz.func122 (by kernel_rfl) (by kernel_rfl) (by kernel_rfl) (by kernel_rfl)
 have h27 := @run_callFunc_extern Tryz.prog 274 _ (ReflectliteType.abiMethod fun t=>do pure (.int .u8 (<- Rtype.kind t))) Tryz.func274 (by kernel_rfl) (by kernel_rfl) (by kernel_rfl) (by kernel_rfl)
 have h37 := @run_callFunc_extern Tryz.prog 301 _ (ReflectliteType.method ReflectliteType.elem) Tryz.func301 (by kernel_rfl) (by kernel_rfl) (by kernel_rfl) (by kernel_rfl)
 have h38 := @run_callFunc_extern Tryz.prog 302 _ (ReflectliteType.relation "Implements" ReflectliteType.implements_) Tryz.func302 (by kernel_rfl) (by kernel_rfl) (by kernel_rfl) (by kernel_rfl)
 have h10 := @run_callFunc_extern Tryz.prog 169 _ ReflectliteType.typeOf Tryz.func169 (by kernel_rfl) (by kernel_rfl) (by kernel_rfl) (by kernel_rfl)
 have h35 := @run_callFunc_extern Tryz.prog 299 _ (ReflectliteType.relation "AssignableTo" ReflectliteType.assignableTo) Tryz.func299 (by kernel_rfl) (by kernel_rfl) (by kernel_rfl) (by kernel_rfl)
 have h11 := @run_callFunc_extern Tryz.prog 170 _ (ReflectliteValue.method (ReflectliteValue.valueError "reflectlite.Value.Elem" 0) ReflectliteValue.elem) Tryz.func170 (by kernel_rfl) (by kernel_rfl) (by kernel_rfl) (by kernel_rfl)
 have h12 := @run_callFunc_extern Tryz.prog 171 _ ReflectliteValue.set Tryz.func171 (by kernel_rfl) (by kernel_rfl) (by kernel_rfl) (by kernel_rfl)
 have tO:=qjm
 have mA:=qjj
 have a25:=qjn
 have v25:=qjo
 have f6:=qjb
 have f7:=qjc
 have mK:=qjd
 have mE:=qjh
 have mI:=qji
 have k27:=qje
 have k25:=qjf
 have e27:=qjk
 have i25:=qjl
 have n8:=qjg ⟨w.heap.size,0,none⟩ ⟨b,0,none⟩ ((w.alloc (.cells #[.pointer (some ⟨b,0,none⟩)] 120)).alloc (.cells #[.pointer (some ⟨1,120,none⟩),.pointer (some ⟨w.heap.size,0,none⟩),.int .u64 150] 162)) (by simp)
 have hlt:0 < w.heap.size:=hg.lt
 have hg2:((w.alloc (.cells #[.pointer (some ⟨b,0,none⟩)] 120)).alloc (.cells #[.pointer (some ⟨1,120,none⟩),.pointer (some ⟨w.heap.size,0,none⟩),.int .u64 150] 162)).cell? ⟨0,0,none⟩=some (.iface 203 (.agg #[.pointer (some ⟨1,118,none⟩)])):=hg.keeps (((Keeps.refl w).alloc _).alloc _)
 have htl:b < w.heap.size:=World.block_lt_of_cell? w _ ht0
 have el:=qjr ⟨w.heap.size,0,none⟩ ⟨b,0,none⟩ (((w.alloc (.cells #[.pointer (some ⟨b,0,none⟩)] 120)).alloc (.cells #[.pointer (some ⟨1,120,none⟩),.pointer (some ⟨w.heap.size,0,none⟩),.int .u64 150] 162)).alloc (.cells #[.pointer (some ⟨1,120,none⟩),.pointer (some ⟨w.heap.size,0,none⟩),.int .u64 150] 162)) (by rw [World.cell?_alloc_lt _ _ ⟨w.heap.size,0,none⟩ (by simp;omega)];simp)
 have kk:=((((Keeps.refl w).alloc (.cells #[.pointer (some ⟨b,0,none⟩)] 120)).alloc (.cells #[.pointer (some ⟨1,120,none⟩),.pointer (some ⟨w.heap.size,0,none⟩),.int .u64 150] 162)).alloc (.cells #[.pointer (some ⟨1,120,none⟩),.pointer (some ⟨w.heap.size,0,none⟩),.int .u64 150] 162)).alloc (.cells #[.int .i64 x] 115)
 have st:=qjv ⟨b,0,none⟩ ⟨w.heap.size+1+1+1,0,none⟩ x old ((((w.alloc (.cells #[.pointer (some ⟨b,0,none⟩)] 120)).alloc (.cells #[.pointer (some ⟨1,120,none⟩),.pointer (some ⟨w.heap.size,0,none⟩),.int .u64 150] 162)).alloc (.cells #[.pointer (some ⟨1,120,none⟩),.pointer (some ⟨w.heap.size,0,none⟩),.int .u64 150] 162)).alloc (.cells #[.int .i64 x] 115))
  (by rw [World.cell?_alloc_at _ _ _ _ (by simp)];rfl) (by rw [kk.cells b 0 htl];exact ht0) (by rw [kk.frozens b 0 htl];exact hf0) rfl rfl
 clear kk hg
 go_enter Tryz.func81,Tryz.ntmps81
 go_wp2
 refine wp_loop_rounds 1 ?_
 rw [rounds_succ]
 go_wp2
 go_ret
 exact ⟨rfl,rfl⟩
end Go.Proofs.YthpdlbcdbncnhaaGreatDoor
namespace Go.Proofs.YthpdlbcdbncnhaaGreatDoor
set_option maxRecDepth 100000
open Go.RowKit
attribute [local go_sem] Keeps.refl Keeps.alloc Keeps.drew Keeps.drewN
def qoX:Prop:=∀ (w:World) (v:Sv) (s:Sy),GlobE w->SysOn w v s->Calls Tryz.prog 42 #[.agg (syc s v)] w fun e w'=>e = .returned (.bool (sysB s)) /\ Keeps w w'
end Go.Proofs.YthpdlbcdbncnhaaGreatDoor
namespace Go.Proofs.YthpdlbcdbncnhaaGreatDoor
set_option maxRecDepth 100000
open Go.ChangeShapes Go.WideShapes Go.RowKit
set_option maxRecDepth 100000
abbrev qep:List (String × DataW Unit):=[("errors.errorType",Rows.laid_errors_errorType)]
theorem qoO:Tryz.prog.globalNamed "errors.errorType" = some 0:=by kernel_rfl
theorem qoP:(Tryz.prog.cutTypes.find? (·.1 == "internal/reflectlite.rtype")).map (·.2)=some 203:=by kernel_rfl
theorem qoQ:((List.range Tryz.prog.types.size).filter fun t=>Tryz.prog.rowNamed t [101,114,114,111,114])=[118]:=by kernel_rfl
theorem qoR:typeHandle Tryz.prog 118 = .pointer (some ⟨1,118,none⟩):=by kernel_rfl
theorem qoS {W:World} (h:laidMetH Tryz.prog qep W):GlobE W:=by
 have h':laidMet Tryz.prog [] W /\ handlesMet Tryz.prog qep W:=h
 obtain ⟨name,u,ty,e1,e2,e3,e4,e5⟩:=h'.2 _ (List.mem_singleton.2 rfl)
 have en:name=[101,114,114,111,114]:=(Option.some.inj e1).symm
 subst en
 obtain rfl:=Option.some.inj (qoP.symm.trans e2)
 have hm:ty∈(List.range Tryz.prog.types.size).filter fun t=>Tryz.prog.rowNamed t [101,114,114,111,114]:=List.mem_filter.2 ⟨List.mem_range.2 e3,e4⟩
 rw [qoQ] at hm
 obtain rfl:=List.mem_singleton.1 hm
 rw [qoR] at e5
 unfold GlobE
 simpa using World.var?_cell qoO e5 0
noncomputable def laidWorld (os:Os):World :=
 let w0:=World.holding Tryz.prog os ⟨#[],#[],[]⟩
 { w0 with heap:=w0.heap.modify 0 fun
   | .cells _ t frozen => .cells #[.iface 203 (.agg #[.pointer (some ⟨1,118,none⟩)])] t frozen
   | o=>o }
theorem qoT (os:Os) (args:Array Value):laidMetH Tryz.prog qep ((laidWorld os).forCall (fun _ _=>0) ⟨#[],args,[]⟩).memory :=
 laidMetH_of_parts (laidMet_nil _ _) (by kernel_rfl)
end Go.Proofs.YthpdlbcdbncnhaaGreatDoor
