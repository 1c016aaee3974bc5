/-
  errors.As of a mistake, or of none, into a variable for mis
  A drawn task: the contracts of the model's draws.
-/
import Derived.Test.YteagpjlgjfaclaaGreatDoorBase
import Derived.LaidEql
import Derived.Stop.Asserts
import Derived.RowKitTokens
import Derived.Test.YteagpjlgjfaclaaGreatDoorTaskNew
import Derived.Test.YteagpjlgjfaclaaGreatDoorFrame
import Derived.Deep.DeepCutAuto
import Derived.Deep.CutBlock
namespace Go.Proofs.YteagpjlgjfaclaaGreatDoor
set_option maxRecDepth 100000
open Go.RowKit Go.Extern.Stop Go.Stop Go.Extern
attribute [local go_sem] Keeps.refl Keeps.alloc Keeps.drew Keeps.drewN
def GlobE (w:World):Prop:=w.cell? ⟨0,0,none⟩=some (.iface 152 (.agg #[.pointer (some ⟨7,63,none⟩)]))
theorem GlobE.lt {w:World} (h:GlobE w):0 < w.heap.size:=by
 rcases Nat.eq_zero_or_pos w.heap.size with h0 | h0
 ·unfold GlobE at h
  simp [World.cell?,h0] at h
 ·exact h0
theorem GlobE.keeps {w w':World} (h:GlobE w) (k:Keeps w w'):GlobE w':=by
 unfold GlobE
 rw [k.cells 0 0 h.lt]
 exact h
theorem qiK (t:Value) (w:World) :
  Calls Tryz.prog 25 #[.nilIface,t] w fun e w'=>e = .returned (.bool false) /\ w'=w:=by
 go_enter Tryz.func25,Tryz.ntmps25
 go_wp2
 go_ret
 exact ⟨rfl,rfl⟩
theorem qiL (t:Addr) (w:World):(ReflectliteValue.unpack (.iface 65 (.pointer (some t)))).run Tryz.prog w
  = .ok (.agg #[.pointer (some ⟨7,65,none⟩),.pointer (some ⟨w.heap.size,0,none⟩),.int .u64 150]) (w.alloc (.cells #[.pointer (some t)] 65)):=by kernel_rfl
theorem qiM (a:Addr) (w:World):(ReflectliteValue.methodAny (ReflectliteValue.valueError "reflectlite.Value.Type" 0) (fun t _ _ _=>ReflectliteType.toType t) #[.agg #[.pointer (some ⟨7,65,none⟩),.pointer (some a),.int .u64 150]]).run Tryz.prog w
  = .ok (.iface 152 (.agg #[.pointer (some ⟨7,65,none⟩)])) w:=by kernel_rfl
theorem qiN (h:Value) (w:World):(Go.method 436 152 (.agg #[h]) "Kind").run Tryz.prog w = .ok (297,h) w:=by kernel_rfl
theorem qiO (w:World):((ReflectliteType.abiMethod fun t=>(fun a:Nat=>Value.int IntKind.u8 (a:Int)) <$> Rtype.kind t) #[.pointer (some ⟨7,65,none⟩)]).run Tryz.prog w = .ok (.int .u8 22) w:=by kernel_rfl
theorem qiP (w:World):((ReflectliteType.abiMethod fun t=>(fun a:Nat=>Value.int IntKind.u8 (a:Int)) <$> Rtype.kind t) #[.pointer (some ⟨7,60,none⟩)]).run Tryz.prog w = .ok (.int .u8 25) w:=by kernel_rfl
theorem qf1 (a:Addr) (w:World):(ReflectliteValue.parts (.agg #[.pointer (some ⟨7,65,none⟩),.pointer (some a),.int .u64 150])).run Tryz.prog w = .ok (some (65,a,150)) w:=by kernel_rfl
theorem qiQ (a p:Addr) (W:World) (ha:W.cell? a=some (.pointer (some p))) :
  (ReflectliteValue.method (ReflectliteValue.valueError "reflectlite.Value.IsNil" 0) ReflectliteValue.isNil #[.agg #[.pointer (some ⟨7,65,none⟩),.pointer (some a),.int .u64 150]]).run Tryz.prog W = .ok (.bool false) W:=by
 refine Eq.trans (b:=Sem.run Tryz.prog (ReflectliteValue.parts (.agg #[.pointer (some ⟨7,65,none⟩),.pointer (some a),.int .u64 150]) >>= _) W) rfl ?_
 simp only [Sem.run_bind,qf1,Result.andThen]
 simp [ReflectliteValue.isNil,loadVar,isAgg,underlying,Tryz.underlying65,ha,Result.andThen]
theorem qiR (h:Value) (w:World):(Go.method 436 152 (.agg #[h]) "Elem").run Tryz.prog w = .ok (313,.agg #[h]) w:=by kernel_rfl
theorem qiS (h:Value) (w:World):(Go.method 436 152 (.agg #[h]) "Implements").run Tryz.prog w = .ok (314,.agg #[h]) w:=by kernel_rfl
theorem qiT (h:Value) (w:World):(Go.method 436 152 (.agg #[h]) "AssignableTo").run Tryz.prog w = .ok (311,.agg #[h]) w:=by kernel_rfl
theorem qiU (w:World):(ReflectliteType.method ReflectliteType.elem #[.agg #[.pointer (some ⟨7,65,none⟩)]]).run Tryz.prog w = .ok (.iface 152 (.agg #[.pointer (some ⟨7,60,none⟩)])) w:=by kernel_rfl
theorem qiV (w:World):(ReflectliteType.relation "Implements" ReflectliteType.implements_ #[.agg #[.pointer (some ⟨7,60,none⟩)],.iface 152 (.agg #[.pointer (some ⟨7,63,none⟩)])]).run Tryz.prog w = .ok (.bool true) w:=by kernel_rfl
theorem qiW (v:Value) (w:World):(ReflectliteType.typeOf #[.iface 60 v]).run Tryz.prog w = .ok (.iface 152 (.agg #[.pointer (some ⟨7,60,none⟩)])) w:=by kernel_rfl
theorem qiX (w:World):(ReflectliteType.relation "AssignableTo" ReflectliteType.assignableTo #[.agg #[.pointer (some ⟨7,60,none⟩)],.iface 152 (.agg #[.pointer (some ⟨7,60,none⟩)])]).run Tryz.prog w = .ok (.bool true) w:=by kernel_rfl
theorem qiY (x:Int) (w:World):(ReflectliteValue.unpack (.iface 60 (.agg #[.int .i64 x]))).run Tryz.prog w
  = .ok (.agg #[.pointer (some ⟨7,60,none⟩),.pointer (some ⟨w.heap.size,0,none⟩),.int .u64 153]) (w.alloc (.cells #[.int .i64 x] 60)):=by kernel_rfl
theorem qiZ (w:World):(Rtype.elem? 65).run Tryz.prog w = .ok (some 60) w:=by kernel_rfl
theorem qi0 (p:Addr) (w:World):(ReflectliteValue.mk 60 p ReflectliteValue.flagAddr).run Tryz.prog w = .ok (.agg #[.pointer (some ⟨7,60,none⟩),.pointer (some p),.int .u64 409]) w:=by kernel_rfl
theorem qi1 (a p:Addr) (W:World) (ha:W.cell? a=some (.pointer (some p))) :
  (ReflectliteValue.method (ReflectliteValue.valueError "reflectlite.Value.Elem" 0) ReflectliteValue.elem #[.agg #[.pointer (some ⟨7,65,none⟩),.pointer (some a),.int .u64 150]]).run Tryz.prog W
   = .ok (.agg #[.pointer (some ⟨7,60,none⟩),.pointer (some p),.int .u64 409]) W:=by
 refine Eq.trans (b:=Sem.run Tryz.prog (ReflectliteValue.parts (.agg #[.pointer (some ⟨7,65,none⟩),.pointer (some a),.int .u64 150]) >>= _) W) rfl ?_
 simp only [Sem.run_bind,qf1,Result.andThen]
 simp [ReflectliteValue.elem,loadVar,isAgg,underlying,Tryz.underlying65,ha,Result.andThen,qiZ,qi0]
theorem qi2 (a:Addr) (w:World):(ReflectliteValue.parts (.agg #[.pointer (some ⟨7,60,none⟩),.pointer (some a),.int .u64 409])).run Tryz.prog w = .ok (some (60,a,409)) w:=by kernel_rfl
theorem qi3 (a:Addr) (w:World):(ReflectliteValue.parts (.agg #[.pointer (some ⟨7,60,none⟩),.pointer (some a),.int .u64 153])).run Tryz.prog w = .ok (some (60,a,153)) w:=by kernel_rfl
theorem qi4 (w:World):(Rtype.directlyAssignable 60 60).run Tryz.prog w = .ok true w:=by kernel_rfl
theorem qi5 (ta b:Addr) (x:Int) (old:Value) (W:World) (hb:W.cell? b=some (.int .i64 x)) (ht:W.cell? ta=some old) (hf:W.frozen? ta=false) (hsb:b.spot=none) (hst:ta.spot=none) :
  (ReflectliteValue.set #[.agg #[.pointer (some ⟨7,60,none⟩),.pointer (some ta),.int .u64 409],.agg #[.pointer (some ⟨7,60,none⟩),.pointer (some b),.int .u64 153]]).run Tryz.prog W
   = .ok (.tuple #[]) (W.setCell ta (.int .i64 x)):=by
 have hl:(loadCells b 1).run Tryz.prog W = .ok #[.int .i64 x] W:=by
  have:=run_loadCells_list (P:=Tryz.prog) (w:=W) b [.int .i64 x] (fun j v hj=>by
   rcases j with _ | j
   ·simp only [List.getElem?_cons_zero,Option.some.injEq] at hj
    subst hj
    have:b.add 0=b:=by obtain ⟨bb,bo,bs⟩:=b;cases hsb;simp [Addr.add]
    rw [this];exact hb
   ·simp at hj)
  simpa using this
 have hs:(storeCells ta [.int .i64 x]).run Tryz.prog W = .ok () (W.setCell ta (.int .i64 x)):=by
  have h0:ta.add 0=ta:=by obtain ⟨bb,bo,bs⟩:=ta;cases hst;simp [Addr.add]
  simp only [storeCells,h0,Sem.run_bind]
  rw [run_store Tryz.prog W ta _ _ (by rfl)]
  simp [ht,hf,Result.andThen]
 have hv:(loadVar 60 b).run Tryz.prog W = .ok (.agg #[.int .i64 x]) W:=by
  simp [loadVar,isAgg,underlying,Tryz.underlying60,Result.andThen,hl]
 have hw:(storeVar 60 ta (.agg #[.int .i64 x])).run Tryz.prog W = .ok () (W.setCell ta (.int .i64 x)):=by
  simp [storeVar,Result.andThen,Value.cells,hs]
 refine Eq.trans (b:=Sem.run Tryz.prog (ReflectliteValue.parts (.agg #[.pointer (some ⟨7,60,none⟩),.pointer (some ta),.int .u64 409]) >>= fun _=>ReflectliteValue.parts (.agg #[.pointer (some ⟨7,60,none⟩),.pointer (some b),.int .u64 153]) >>= _) W) rfl ?_
 simp only [Sem.run_bind,qi2,qi3,Result.andThen]
 simp [ReflectliteValue.flagAddr,Result.andThen,qi4,hv,hw]
set_option maxHeartbeats 4000000 in
theorem qi6 (x:Int) (b:Nat) (old:Value) (w:World) (hg:GlobE w) (ht0:w.cell? ⟨b,0,none⟩=some old) (hf0:w.frozen? ⟨b,0,none⟩=false) :
  Calls Tryz.prog 25 #[.iface 60 (.agg #[.int .i64 x]),.iface 65 (.pointer (some ⟨b,0,none⟩))] w fun ev w'=>ev = .returned (.bool true) /\ w'=((((w.alloc (.cells #[.pointer (some ⟨b,0,none⟩)] 65)).alloc (.cells #[.pointer (some ⟨7,65,none⟩),.pointer (some ⟨w.heap.size,0,none⟩),.int .u64 150] 112)).alloc (.cells #[.pointer (some ⟨7,65,none⟩),.pointer (some ⟨w.heap.size,0,none⟩),.int .u64 150] 112)).alloc (.cells #[.int .i64 x] 60)).setCell ⟨b,0,none⟩ (.int .i64 x):=by
 have h6 := @run_callFunc_extern Tryz.prog 58 _ (fun args=>ReflectliteValue.unpack (args.getD 0 (.tuple #[]))) Tryz.func58 (by kernel_rfl) (by kernel_rfl) (by kernel_rfl) (by kernel_rfl)
 have h7 := @run_callFunc_extern Tryz.prog 59 _ (ReflectliteValue.methodAny (ReflectliteValue.valueError "reflectlite.Value.Type" 0) (fun t _ _ _=>ReflectliteType.toType t)) Tryz.func59 (by kernel_rfl) (by kernel_rfl) (by kernel_rfl) (by kernel_rfl)
 have h8 := @run_callFunc_extern Tryz.prog 60 _ (ReflectliteValue.method (ReflectliteValue.valueError "reflectlite.Value.IsNil" 0) ReflectliteValue.isNil) Tryz.func60 (by kernel_rfl) (by kernel_rfl) (by kernel_rfl) (by kernel_rfl)
 have h27 := @run_callFunc_extern Tryz.prog 297 _ (ReflectliteType.abiMethod fun t=>do pure (.int .u8 (<- Rtype.kind t))) Tryz.func297 (by kernel_rfl) (by kernel_rfl) (by kernel_rfl) (by kernel_rfl)
 have h37 := @run_callFunc_extern Tryz.prog 313 _ (ReflectliteType.method ReflectliteType.elem) Tryz.func313 (by kernel_rfl) (by kernel_rfl) (by kernel_rfl) (by kernel_rfl)
 have h38 := @run_callFunc_extern Tryz.prog 314 _ (ReflectliteType.relation "Implements" ReflectliteType.implements_) Tryz.func314 (by kernel_rfl) (by kernel_rfl) (by kernel_rfl) (by kernel_rfl)
 have h10 := @run_callFunc_extern Tryz.prog 102 _ ReflectliteType.typeOf Tryz.func102 (by kernel_rfl) (by kernel_rfl) (by kernel_rfl) (by kernel_rfl)
 have h35 := @run_callFunc_extern Tryz.prog 311 _ (ReflectliteType.relation "AssignableTo" ReflectliteType.assignableTo) Tryz.func311 (by kernel_rfl) (by kernel_rfl) (by kernel_rfl) (by kernel_rfl)
 have h11 := @run_callFunc_extern Tryz.prog 103 _ (ReflectliteValue.method (ReflectliteValue.valueError "reflectlite.Value.Elem" 0) ReflectliteValue.elem) Tryz.func103 (by kernel_rfl) (by kernel_rfl) (by kernel_rfl) (by kernel_rfl)
 have h12 := @run_callFunc_extern Tryz.prog 104 _ ReflectliteValue.set Tryz.func104 (by kernel_rfl) (by kernel_rfl) (by kernel_rfl) (by kernel_rfl)
 have tO:=qiW
 have mA:=qiT
 have a25:=qiX
 have v25:=qiY
 have f6:=qiL
 have f7:=qiM
 have mK:=qiN
 have mE:=qiR
 have mI:=qiS
 have k27:=qiO
 have k25:=qiP
 have e27:=qiU
 have i25:=qiV
 have n8:=qiQ ⟨w.heap.size,0,none⟩ ⟨b,0,none⟩ ((w.alloc (.cells #[.pointer (some ⟨b,0,none⟩)] 65)).alloc (.cells #[.pointer (some ⟨7,65,none⟩),.pointer (some ⟨w.heap.size,0,none⟩),.int .u64 150] 112)) (by simp)
 have hlt:0 < w.heap.size:=hg.lt
 have hg2:((w.alloc (.cells #[.pointer (some ⟨b,0,none⟩)] 65)).alloc (.cells #[.pointer (some ⟨7,65,none⟩),.pointer (some ⟨w.heap.size,0,none⟩),.int .u64 150] 112)).cell? ⟨0,0,none⟩=some (.iface 152 (.agg #[.pointer (some ⟨7,63,none⟩)])):=hg.keeps (((Keeps.refl w).alloc _).alloc _)
 have htl:b < w.heap.size:=World.block_lt_of_cell? w _ ht0
 have el:=qi1 ⟨w.heap.size,0,none⟩ ⟨b,0,none⟩ (((w.alloc (.cells #[.pointer (some ⟨b,0,none⟩)] 65)).alloc (.cells #[.pointer (some ⟨7,65,none⟩),.pointer (some ⟨w.heap.size,0,none⟩),.int .u64 150] 112)).alloc (.cells #[.pointer (some ⟨7,65,none⟩),.pointer (some ⟨w.heap.size,0,none⟩),.int .u64 150] 112)) (by rw [World.cell?_alloc_lt _ _ ⟨w.heap.size,0,none⟩ (by simp;omega)];simp)
 have kk:=((((Keeps.refl w).alloc (.cells #[.pointer (some ⟨b,0,none⟩)] 65)).alloc (.cells #[.pointer (some ⟨7,65,none⟩),.pointer (some ⟨w.heap.size,0,none⟩),.int .u64 150] 112)).alloc (.cells #[.pointer (some ⟨7,65,none⟩),.pointer (some ⟨w.heap.size,0,none⟩),.int .u64 150] 112)).alloc (.cells #[.int .i64 x] 60)
 have st:=qi5 ⟨b,0,none⟩ ⟨w.heap.size+1+1+1,0,none⟩ x old ((((w.alloc (.cells #[.pointer (some ⟨b,0,none⟩)] 65)).alloc (.cells #[.pointer (some ⟨7,65,none⟩),.pointer (some ⟨w.heap.size,0,none⟩),.int .u64 150] 112)).alloc (.cells #[.pointer (some ⟨7,65,none⟩),.pointer (some ⟨w.heap.size,0,none⟩),.int .u64 150] 112)).alloc (.cells #[.int .i64 x] 60))
  (by rw [World.cell?_alloc_at _ _ _ _ (by simp)];rfl) (by rw [kk.cells b 0 htl];exact ht0) (by rw [kk.frozens b 0 htl];exact hf0) rfl rfl
 clear kk hg
 go_enter Tryz.func25,Tryz.ntmps25
 go_wp2
 refine wp_loop_rounds 1 ?_
 rw [rounds_succ]
 go_wp2
 go_ret
 exact ⟨rfl,rfl⟩
end Go.Proofs.YteagpjlgjfaclaaGreatDoor
namespace Go.Proofs.YteagpjlgjfaclaaGreatDoor
set_option maxRecDepth 100000
open Go.RowKit
theorem Blk.but {g:Nat} {w w':World} {b:Nat} {C:Array Value} (h:Blk w b C) (k:KeepsBut g w w') (hg:b≠g):Blk w' b C :=
 ⟨Nat.lt_of_lt_of_le h.lt k.size,fun i=>(k.cells b i h.lt hg).trans (h.cells i),fun i=>(World.frozen?_of_block (w:=w) (k.block b h.lt hg)).trans (h.frozens i)⟩
theorem Cur.putT {w:World} {g b:Nat} (h:Cur w g) (hb:g < b) (t:Tsk):Cur (putT w b t) g:=(((((((((((((h.setNew hb _ _).setNew hb _ _).setNew hb _ _).setNew hb _ _).setNew hb _ _).setNew hb _ _).setNew hb _ _).setNew hb _ _).setNew hb _ _).setNew hb _ _).setNew hb _ _).setNew hb _ _).setNew hb _ _).setNew hb _ _
theorem KeepsBut.putT {g b:Nat} {a w:World} (h:KeepsBut g a w) (hp:a.heap.size <= b) (t:Tsk):KeepsBut g a (Go.Proofs.YteagpjlgjfaclaaGreatDoor.putT w b t):=(((((((((((((h.setNew hp _).setNew hp _).setNew hp _).setNew hp _).setNew hp _).setNew hp _).setNew hp _).setNew hp _).setNew hp _).setNew hp _).setNew hp _).setNew hp _).setNew hp _).setNew hp _
structure DR (w W:World) (g r s:Nat) (t:Tsk):Prop where
 cur:Cur W g
 kb:KeepsBut g w W
 res:Blk W r (tc Tsk.zero)
 box:Blk W s (tc t)
 gr:g < r
 rs:r < s
 wr:w.heap.size <= r
theorem DR.but {w W W':World} {g r s:Nat} {t:Tsk} (h:DR w W g r s t) (k:KeepsBut g W W') (hc:Cur W' g):DR w W' g r s t :=
 ⟨hc,h.kb.trans k,h.res.but k (by have:=h.gr;omega),h.box.but k (by have:=h.gr;have:=h.rs;omega),h.gr,h.rs,h.wr⟩
theorem DR.keeps {w W W':World} {g r s:Nat} {t:Tsk} (h:DR w W g r s t) (k:Keeps W W'):DR w W' g r s t:=h.but (.of k) (h.cur.keeps k)
theorem DR.rules {w W:World} {g r s:Nat} {t:Tsk} (h:DR w W g r s t):(∀ k,W.cell? ⟨s,k,none⟩=(tc t)[k]?) /\ (∀ k,W.cell? ⟨r,k,none⟩=(tc Tsk.zero)[k]?) /\ (∀ k,W.frozen? ⟨s,k,none⟩=false) /\ ∀ k,W.frozen? ⟨r,k,none⟩=false :=
 ⟨h.box.cells,h.res.cells,h.box.frozens,h.res.frozens⟩
theorem DR.put {w W:World} {g r s:Nat} {t:Tsk} (h:DR w W g r s t) (u:Tsk):DR w (putT W s u) g r s u :=
 ⟨h.cur.putT (by have:=h.gr;have:=h.rs;omega) u,h.kb.putT (by have:=h.wr;have:=h.rs;omega) u,h.res.farT (by have:=h.rs;omega) u,h.box.putT u,h.gr,h.rs,h.wr⟩
theorem DR.cell {w W:World} {g r s:Nat} {t u:Tsk} (h:DR w W g r s t) (k:Nat) (hk:k < 14) (v:Value) (hu:tc u=(tc t).setIfInBounds k v):DR w (W.setCell ⟨s,k,none⟩ v) g r s u :=
 ⟨h.cur.setNew (by have:=h.gr;have:=h.rs;omega) _ _,h.kb.setNew (by have:=h.wr;have:=h.rs;show _ <= s;omega) _,h.res.far (by have:=h.rs;omega) _,by rw [hu];exact h.box.set k hk v,h.gr,h.rs,h.wr⟩
theorem DR.st {w W:World} {g r s:Nat} {t:Tsk} (h:DR w W g r s t) (x:Int):DR w (W.setCell ⟨s,3,none⟩ (.int .i64 x)) g r s { t with st:=x }:=h.cell 3 (by decide) _ (by simp)
theorem DR.left {w W:World} {g r s:Nat} {t:Tsk} (h:DR w W g r s t) (x:Int):DR w (W.setCell ⟨s,7,none⟩ (.int .i64 x)) g r s { t with left:=x }:=h.cell 7 (by decide) _ (by simp)
theorem DR.idle {w W:World} {g r s:Nat} {t:Tsk} (h:DR w W g r s t) (x:Bool):DR w (W.setCell ⟨s,4,none⟩ (.bool x)) g r s { t with idle:=x }:=h.cell 4 (by decide) _ (by simp)
theorem DR.done {w W:World} {g r s:Nat} {t:Tsk} (h:DR w W g r s t):Blk (putT W r t) r (tc t) /\ Cur (putT W r t) g /\ KeepsBut g w (putT W r t) :=
 ⟨h.res.putT t,h.cur.putT h.gr t,h.kb.putT h.wr t⟩
theorem DR.new {w W:World} {g:Nat} (hc:Cur W g) (hk:KeepsBut g w W) {r:Nat} (hr:Blk W r (tc Tsk.zero)) (hg:g < r) (hw:w.heap.size <= r):DR w (W.alloc (.cells (tc Tsk.zero) 43)) g r W.heap.size Tsk.zero :=
 ⟨hc.keeps ((Keeps.refl _).alloc _),hk.alloc _,hr.alloc _,Blk.new _ _ _,hg,hr.lt,hw⟩
set_option maxHeartbeats 8000000 in
theorem qfW (g:Nat) (w:World) (hc:Cur w g) :
  Calls Tryz.prog 100 #[.pointer (some ⟨g,0,none⟩)] w fun e w'=>∃ t:Tsk,e = .returned (tk t) /\ Cur w' g /\ KeepsBut g w w':=by
 have hgl:=hc.lt
 go_enter Tryz.func100,Tryz.ntmps100
 go_wp2_with fail
 have hc0:=hc.keeps ((Keeps.refl w).alloc (.cells (tc Tsk.zero) 43))
 have B0:=Blk.new w (tc Tsk.zero) 43
 have kb0:=(KeepsBut.refl g w).alloc (.cells (tc Tsk.zero) 43)
 refine (qam g _ _ hc0 (by omega) (by omega)).mono ?_
 rintro e w1 ⟨no,rfl,hn0,hn1,hc1,k1⟩
 go_wp2_with fail
 refine (qam g _ _ hc1 (by omega) (by omega)).mono ?_
 rintro e w2 ⟨cpu,rfl,hp0,hp1,hc2,k2⟩
 have B2:=B0.but (k1.trans k2) (by omega)
 have kb2:=kb0.trans (k1.trans k2)
 obtain ⟨r,Hr⟩:∃ r,Hid (w.heap.size=r):=⟨_,rfl⟩
 rw [Hr.out] at B2 ⊢
 have S:=DR.new hc2 kb2 B2 (by have:=Hr.out;omega) (by have:=Hr.out;omega)
 clear B0 B2 kb0 kb2 hc0 hc1 hc2 k1 k2 hc
 go_wp2_with fail
 change Calls _ _ _ (w2.alloc (.cells (tc Tsk.zero) 43)) _
 generalize w2.alloc (.cells (tc Tsk.zero) 43)=W at *
 generalize w2.heap.size=s at *
 refine (qam g _ _ S.cur (by omega) (by omega)).mono ?_
 rintro e w3 ⟨c,rfl,hx0,hx1,hc3,k3⟩
 have S:=S.but k3 hc3
 clear hc3 k3
 go_upto_block 0 with fail
 go_cut [] (fun wx=>∃ t:Tsk,DR w wx g r s t)
 case first =>
  obtain rfl | rfl | rfl:c=0∨c=1∨c=2:=by omega
  case inl =>
   go_wp2_with fail
   refine (qam g _ _ S.cur (by omega) (by omega)).mono ?_
   rintro e w4 ⟨y,rfl,hy0,hy1,hc4,k4⟩
   have S:=S.but k4 hc4
   clear hc4 k4
   go_wp2_with fail
   refine (qam g _ _ S.cur (by omega) (by omega)).mono ?_
   rintro e w5 ⟨z,rfl,hz0,hz1,hc5,k5⟩
   have S:=S.but k5 hc5
   clear hc5 k5
   go_wp2_with fail
   refine (qam g _ _ S.cur (by omega) (by omega)).mono ?_
   rintro e w6 ⟨now,rfl,hw0,hw1,hc6,k6⟩
   have S:=S.but k6 hc6
   clear hc6 k6
   go_wp2_with fail
   refine (qhM _ _ _ _ _ _).mono ?_
   rintro e w7 ⟨rfl,k7⟩
   have S:=S.keeps k7
   clear k7
   obtain ⟨N,HN⟩:∃ N,Hid (qaV (1+no) cpu (1+z) (2+y) now=N):=⟨_,rfl⟩
   have hNq:0 <= N.q /\ N.q <= 10:=by
    rw [<- HN.out];unfold qaV;split
    ·simp [dueT];omega
    ·simp [Tsk.zero]
   obtain ⟨hq0,hq1⟩:=hNq
   rw [HN.out]
   obtain ⟨q1,q2,f1,f2⟩:=S.rules
   have HS:Hid (DR w w7 g r s Tsk.zero):=S
   clear S
   go_wp2_with fail
   change Calls _ _ _ (putT w7 s N) _
   have S:=HS.out.put N
   clear HS q1 q2 f1 f2
   generalize putT w7 s N=W7 at *
   refine (qam g _ _ S.cur (by omega) (by omega)).mono ?_
   rintro e w8 ⟨l,rfl,hl0,hl1,hc8,k8⟩
   have S:=S.but k8 hc8
   clear hc8 k8
   obtain ⟨q1,q2,f1,f2⟩:=S.rules
   have HS:Hid (DR w w8 g r s N):=S
   clear S
   go_wp2_with fail
   go_meet
   exact ⟨_,HS.out.left l⟩
  case inr.inl =>
   go_wp2_with fail
   refine (qam g _ _ S.cur (by omega) (by omega)).mono ?_
   rintro e w4 ⟨y,rfl,hy0,hy1,hc4,k4⟩
   have S:=S.but k4 hc4
   clear hc4 k4
   go_wp2_with fail
   refine (qam g _ _ S.cur (by omega) (by omega)).mono ?_
   rintro e w5 ⟨z,rfl,hz0,hz1,hc5,k5⟩
   have S:=S.but k5 hc5
   clear hc5 k5
   go_wp2_with fail
   refine (qam g _ _ S.cur (by omega) (by omega)).mono ?_
   rintro e w6 ⟨u,rfl,hw0,hw1,hc6,k6⟩
   have S:=S.but k6 hc6
   clear hc6 k6
   go_wp2_with fail
   refine (qhN _ _ _ _ _ _).mono ?_
   rintro e w7 ⟨rfl,k7⟩
   have S:=S.keeps k7
   clear k7
   obtain ⟨N,HN⟩:∃ N,Hid (newT (fixT (1+no) cpu (1+y) z u)=N):=⟨_,rfl⟩
   have hNq:0 <= N.round /\ N.round <= 10:=by
    rw [<- HN.out];unfold newT;split
    ·simp [fixT];omega
    ·simp [Tsk.zero]
   obtain ⟨hq0,hq1⟩:=hNq
   rw [HN.out]
   obtain ⟨q1,q2,f1,f2⟩:=S.rules
   have HS:Hid (DR w w7 g r s Tsk.zero):=S
   clear S
   cases hd:decide (0 < N.round)
   ·go_wp2_with fail
    go_meet
    exact ⟨_,HS.out.put N⟩
   ·have hd':=of_decide_eq_true hd
    go_wp2_with fail
    change Calls _ _ _ (putT w7 s N) _
    have S:=HS.out.put N
    clear HS q1 q2 f1 f2
    generalize putT w7 s N=W7 at *
    refine (qam g _ _ S.cur (by omega) (by omega)).mono ?_
    rintro e w8 ⟨l,rfl,hl0,hl1,hc8,k8⟩
    have S:=S.but k8 hc8
    clear hc8 k8
    obtain ⟨q1,q2,f1,f2⟩:=S.rules
    have HS:Hid (DR w w8 g r s N):=S
    clear S
    go_wp2_with fail
    go_meet
    exact ⟨_,HS.out.left (1+l)⟩
  case inr.inr =>
   go_wp2_with fail
   refine (qam g _ _ S.cur (by omega) (by omega)).mono ?_
   rintro e w4 ⟨y,rfl,hy0,hy1,hc4,k4⟩
   have S:=S.but k4 hc4
   clear hc4 k4
   go_wp2_with fail
   refine (qam g _ _ S.cur (by omega) (by omega)).mono ?_
   rintro e w5 ⟨z,rfl,hz0,hz1,hc5,k5⟩
   have S:=S.but k5 hc5
   clear hc5 k5
   go_wp2_with fail
   refine (qhO _ _ _ _ _).mono ?_
   rintro e w7 ⟨rfl,k7⟩
   have S:=S.keeps k7
   clear k7
   obtain ⟨N,HN⟩:∃ N,Hid (newT (qcB (1+no) cpu (y - 4) z)=N):=⟨_,rfl⟩
   rw [HN.out]
   obtain ⟨q1,q2,f1,f2⟩:=S.rules
   have HS:Hid (DR w w7 g r s Tsk.zero):=S
   clear S
   go_wp2_with fail
   go_meet
   exact ⟨_,HS.out.put N⟩
 case rest =>
 obtain ⟨t,S⟩:=hcut
 generalize wc=W9 at *
 go_wp2_with fail
 refine (qcY g _ _ S.cur (by omega) (by omega)).mono ?_
 rintro e x1 ⟨b1,rfl,xc1,xk1⟩
 have S:=S.but xk1 xc1
 clear xc1 xk1
 cases b1
 ·obtain ⟨q1,q2,f1,f2⟩:=S.rules
  go_wp2_with fail
  clear q1 q2 f1 f2
  generalize t=t' at S
  refine (qcY g _ _ S.cur (by omega) (by omega)).mono ?_
  rintro e x2 ⟨b2,rfl,xc2,xk2⟩
  have S:=S.but xk2 xc2
  clear xc2 xk2
  obtain ⟨q1,q2,f1,f2⟩:=S.rules
  have HS:Hid (DR w x2 g r s t'):=S
  clear S
  go_upto_region 17 with fail
  have S:=HS.out.idle b2
  clear HS q1 q2 f1 f2
  generalize x2.setCell ⟨s,4,none⟩ (.bool b2)=y2 at *
  generalize { t' with idle:=b2 }=u at S
  obtain ⟨q1,q2,f1,f2⟩:=S.rules
  have HS:Hid (DR w y2 g r s u):=S
  clear S
  go_wp2
  have T:=HS.out.done
  change bodyPost _ _ _ _ _ (putT y2 r u)
  generalize putT y2 r u=X at T ⊢
  obtain ⟨T1,T2,T3⟩:=T
  exact bodyPost_ret (v:=tk u) (by simp [results,Tryz.results100,go_sem,T1.cells]) rfl ⟨_,rfl,T2,T3⟩
 ·obtain ⟨q1,q2,f1,f2⟩:=S.rules
  go_wp2_with fail
  have S:=S.st 2
  clear q1 q2 f1 f2
  generalize x1.setCell ⟨s,3,none⟩ (.int .i64 2)=y1 at *
  generalize { t with st:=2 }=t' at S
  refine (qcY g _ _ S.cur (by omega) (by omega)).mono ?_
  rintro e x2 ⟨b2,rfl,xc2,xk2⟩
  have S:=S.but xk2 xc2
  clear xc2 xk2
  obtain ⟨q1,q2,f1,f2⟩:=S.rules
  have HS:Hid (DR w x2 g r s t'):=S
  clear S
  go_upto_region 17 with fail
  have S:=HS.out.idle b2
  clear HS q1 q2 f1 f2
  generalize x2.setCell ⟨s,4,none⟩ (.bool b2)=y2 at *
  generalize { t' with idle:=b2 }=u at S
  obtain ⟨q1,q2,f1,f2⟩:=S.rules
  have HS:Hid (DR w y2 g r s u):=S
  clear S
  go_wp2
  have T:=HS.out.done
  change bodyPost _ _ _ _ _ (putT y2 r u)
  generalize putT y2 r u=X at T ⊢
  obtain ⟨T1,T2,T3⟩:=T
  exact bodyPost_ret (v:=tk u) (by simp [results,Tryz.results100,go_sem,T1.cells]) rfl ⟨_,rfl,T2,T3⟩
end Go.Proofs.YteagpjlgjfaclaaGreatDoor
