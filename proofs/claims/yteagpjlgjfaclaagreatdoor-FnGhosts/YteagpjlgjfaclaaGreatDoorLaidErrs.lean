/-
  The variable errors.errorType and the program's six errors,
  Drawn parts of time: contracts of the model's draws of chap
  Ticks: who is awake on a processor.
-/
import Derived.Test.YteagpjlgjfaclaaGreatDoorPlain1
import Derived.Test.YteagpjlgjfaclaaGreatDoorTaskList
import Derived.Test.YteagpjlgjfaclaaGreatDoorErrAs
import Derived.ChangeSame
import Derived.ChangeVars
import Derived.OpenVars
import Derived.JoinedOf
import Derived.RowKitTokens
import Derived.LaidLaws
import Derived.LaidHandle
import Derived.LaidMore
import Derived.Stop.LaidErr
import Derived.Stop.LaidTwo
import Derived.Stop.Joined
import Derived.Test.YteagpjlgjfaclaaGreatDoorSumSpec
import Derived.Deep.AppendLies
import Derived.Test.YteagpjlgjfaclaaGreatDoorSysShares
import Derived.Test.YteagpjlgjfaclaaGreatDoorFairList
namespace Go.Proofs.YteagpjlgjfaclaaGreatDoor
set_option maxRecDepth 100000
set_option maxRecDepth 100000
section
open Go.ChangeShapes Go.WideShapes Go.RowKit
abbrev ue:List (String × DataW Unit):=[("loop.example/g00185/impl.errBad",Rows.laid_loop_example_g00185_impl_errBad),("loop.example/g00185/impl.errNone",Rows.laid_loop_example_g00185_impl_errNone),("loop.example/g00185/impl.errKnown",Rows.laid_loop_example_g00185_impl_errKnown),("loop.example/g00185/impl.errFull",Rows.laid_loop_example_g00185_impl_errFull),("loop.example/g00185/impl.errState",Rows.laid_loop_example_g00185_impl_errState),("loop.example/g00185/impl.errCycle",Rows.laid_loop_example_g00185_impl_errCycle)]
abbrev ni:List (String × DataW Unit):=("errors.errorType",Rows.laid_errors_errorType)::ue
theorem GR:Tryz.prog.globalNamed "errors.errorType" = some 0:=by kernel_rfl
theorem GS:(Tryz.prog.cutTypes.find? (·.1 == "internal/reflectlite.rtype")).map (·.2)=some 152:=by kernel_rfl
theorem GU:((List.range Tryz.prog.types.size).filter fun t=>Tryz.prog.rowNamed t [101,114,114,111,114])=[63]:=by kernel_rfl
theorem GV:typeHandle Tryz.prog 63 = .pointer (some ⟨7,63,none⟩):=by kernel_rfl
theorem zb {W:World} (h:laidMetH Tryz.prog ni W):laidMet Tryz.prog ue W /\ handlesMet Tryz.prog [("errors.errorType",Rows.laid_errors_errorType)] W:=h
theorem GW {W:World} (h:laidMetH Tryz.prog ni W):dm W:=by
 obtain ⟨name,u,ty,e1,e2,e3,e4,e5⟩:=(zb h).2 _ (List.mem_singleton.2 rfl)
 have en:name=[101,114,114,111,114]:=(Option.some.inj e1).symm
 subst en
 obtain rfl:=Option.some.inj (GS.symm.trans e2)
 have hm:ty∈(List.range Tryz.prog.types.size).filter fun t=>Tryz.prog.rowNamed t [101,114,114,111,114]:=List.mem_filter.2 ⟨List.mem_range.2 e3,e4⟩
 rw [GU] at hm
 obtain rfl:=List.mem_singleton.1 hm
 rw [GV] at e5
 unfold dm
 simpa using World.var?_cell GR e5 0
theorem gE {P:Program} {x y:String × DataW Unit} {r:List (String × DataW Unit)} {w:World} (h:laidMet P (x::y::r) w):laidMet P (x::r) w:=by
 obtain ⟨ps,hv,hnd,hrows⟩:=h
 obtain ⟨n,d⟩:=x
 obtain ⟨m,e⟩:=y
 obtain ⟨g,t,cs,fuel,p,q,h1,h2,h3,h4,⟨g',t',cs',fuel',p',q',_,_,_,_,hq,rfl⟩,rfl⟩:=hv
 have hsub:(MemPlace.row ⟨g,0,none⟩ cs.size++p++q').Sublist (MemPlace.row ⟨g,0,none⟩ cs.size++p++(MemPlace.row ⟨g',0,none⟩ cs'.size++p'++q')):=List.Sublist.append (List.Sublist.refl _) (List.sublist_append_right _ _)
 exact ⟨_,⟨g,t,cs,fuel,p,q',h1,h2,h3,h4,hq,rfl⟩,List.Nodup.sublist hsub hnd,fun b off hm=>hrows b off (hsub.subset hm)⟩
def Duo (W:World) (i j:Nat):Prop:=∃ a b:Addr,W.cell? ⟨i,0,none⟩=some (.iface 284 (.pointer (some a))) /\ W.cell? ⟨j,0,none⟩=some (.iface 284 (.pointer (some b))) /\ a≠b /\
 (∃ c t,W.heap[a.block]?=some (.cells c t (0,0))) /\ ∃ c t,W.heap[b.block]?=some (.cells c t (0,0))
theorem zd : "*" ++ "errors.errorString" = "*errors.errorString" := by decide
theorem Ha (u:TypeId) (h:Tryz.prog.typeName? 3 u=some "*errors.errorString"):u=284 :=
 typeName_ptr_named (nm := "errors.errorString") (by rw [zd];kernel_rfl) (by kernel_rfl) (by decide) u (by rw [zd];exact h)
theorem iJ {n0 n1:String} {text0 text1:List UInt8} {r:List (String × DataW Unit)} {W:World} {g0 g1:Nat}
  (h:laidMet Tryz.prog ((n0,.iface "*errors.errorString" (.ptr (.agg [.lit (.string text0)])))::(n1,.iface "*errors.errorString" (.ptr (.agg [.lit (.string text1)])))::r) W)
  (hg0:Tryz.prog.globalNamed n0=some g0) (ht0:(Tryz.prog.globals[g0]?).map (·.type)=some 63) (hg1:Tryz.prog.globalNamed n1=some g1) (ht1:(Tryz.prog.globals[g1]?).map (·.type)=some 63):Duo W g0 g1:=by
 obtain ⟨a,b,s0,s1,c0,c1,t0,t1,hv0,hv1,_,_,_,_,_,_,hne,hb0,hb1⟩:=laid_sentinels2 (ti:=63) (tp:=284) (te:=324) (ts:=9) h hg0 ht0 hg1 ht1 Tryz.underlying63 Ha Tryz.underlying284 Tryz.underlying324 rfl rfl Tryz.underlying9 (by kernel_rfl) (by kernel_rfl)
 exact ⟨a,b,by simpa using World.var?_cell hg0 hv0 0,by simpa using World.var?_cell hg1 hv1 0,hne,⟨_,_,hb0⟩,⟨_,_,hb1⟩⟩
theorem p8:Tryz.prog.globalNamed "loop.example/g00185/impl.errBad" = some 1:=by kernel_rfl
theorem at2:Tryz.prog.globalNamed "loop.example/g00185/impl.errNone" = some 2:=by kernel_rfl
theorem at3:Tryz.prog.globalNamed "loop.example/g00185/impl.errKnown" = some 3:=by kernel_rfl
theorem at4:Tryz.prog.globalNamed "loop.example/g00185/impl.errFull" = some 4:=by kernel_rfl
theorem p9:Tryz.prog.globalNamed "loop.example/g00185/impl.errState" = some 5:=by kernel_rfl
theorem qa:Tryz.prog.globalNamed "loop.example/g00185/impl.errCycle" = some 6:=by kernel_rfl
theorem qb:(Tryz.prog.globals[1]?).map (·.type)=some 63:=by kernel_rfl
theorem qc:(Tryz.prog.globals[2]?).map (·.type)=some 63:=by kernel_rfl
theorem qd:(Tryz.prog.globals[3]?).map (·.type)=some 63:=by kernel_rfl
theorem qe:(Tryz.prog.globals[4]?).map (·.type)=some 63:=by kernel_rfl
theorem qf:(Tryz.prog.globals[5]?).map (·.type)=some 63:=by kernel_rfl
theorem qg:(Tryz.prog.globals[6]?).map (·.type)=some 63:=by kernel_rfl
theorem uf {W:World} (h:laidMet Tryz.prog ue W) (i j:Nat) (h1:1 <= i) (h2:i < j) (h3:j <= 6):Duo W i j:=by
 have d1:=h
 have d2:=d1.tail
 have d3:=d2.tail
 have d4:=d3.tail
 have d5:=d4.tail
 have a12:=iJ d1 p8 qb at2 qc
 have ze:=iJ (gE d1) p8 qb at3 qd
 have Ky:=iJ (gE (gE d1)) p8 qb at4 qe
 have Kz:=iJ (gE (gE (gE d1))) p8 qb p9 qf
 have a16:=iJ (gE (gE (gE (gE d1)))) p8 qb qa qg
 have a23:=iJ d2 at2 qc at3 qd
 have a24:=iJ (gE d2) at2 qc at4 qe
 have a25:=iJ (gE (gE d2)) at2 qc p9 qf
 have a26:=iJ (gE (gE (gE d2))) at2 qc qa qg
 have a34:=iJ d3 at3 qd at4 qe
 have a35:=iJ (gE d3) at3 qd p9 qf
 have a36:=iJ (gE (gE d3)) at3 qd qa qg
 have a45:=iJ d4 at4 qe p9 qf
 have a46:=iJ (gE d4) at4 qe qa qg
 have a56:=iJ d5 p9 qf qa qg
 clear d1 d2 d3 d4 d5
 have hj:j=2∨j=3∨j=4∨j=5∨j=6:=by omega
 have hi:i=1∨i=2∨i=3∨i=4∨i=5:=by omega
 rcases hi with rfl | rfl | rfl | rfl | rfl <;> rcases hj with rfl | rfl | rfl | rfl | rfl <;> first | omega | assumption
def nj (W:World) (k:Nat):Addr:=match W.cell? ⟨k,0,none⟩ with
 | some (.iface _ (.pointer (some a)))=>a
 | _=>⟨0,0,none⟩
theorem oI {W:World} {k:Nat} {t:TypeId} {a:Addr} (h:W.cell? ⟨k,0,none⟩=some (.iface t (.pointer (some a)))):nj W k=a:=by
 unfold nj
 rw [h]
theorem He {W:World} (h:laidMetH Tryz.prog ni W):cQ W (nj W):=by
 have d:=uf (zb h).1
 have one:∀ k,1 <= k->k <= 6->∃ a:Addr,W.cell? ⟨k,0,none⟩=some (.iface 284 (.pointer (some a))) /\ ∃ c t,W.heap[a.block]?=some (.cells c t (0,0)):=by
  intro k h1 h6
  by_cases e:k=6
  ·subst e
   obtain ⟨a,b,_,hb,_,_,lb⟩:=d 5 6 (by omega) (by omega) (by omega)
   exact ⟨b,hb,lb⟩
  ·obtain ⟨a,b,ha,_,_,la,_⟩:=d k 6 h1 (by omega) (by omega)
   exact ⟨a,ha,la⟩
 refine ⟨fun k h1 h6 => ?_,?_,fun j k j1 j6 k1 k6 hne => ?_,fun k h1 h6 => ?_⟩
 ·obtain ⟨a,ha,_⟩:=one k h1 h6
  rw [oI ha]
  exact ha
 ·obtain ⟨a,ha,_⟩:=one 6 (by omega) (by omega)
  exact World.block_lt_of_cell? W _ ha
 ·rcases Nat.lt_or_gt_of_ne hne with hl | hl
  ·obtain ⟨a,b,ha,hb,n,_,_⟩:=d j k j1 hl k6
   rw [oI ha,oI hb]
   exact n
  ·obtain ⟨a,b,ha,hb,n,_,_⟩:=d k j k1 hl j6
   rw [oI ha,oI hb]
   exact n.symm
 ·obtain ⟨a,ha,la⟩:=one k h1 h6
  rw [oI ha]
  exact la
theorem Hh (os:Os) (args:Array Value):laidMetH Tryz.prog ni ((World.doorLaid Tryz.prog 400 os).forCall (fun _ _=>0) ⟨#[],args,[]⟩).memory :=
 laidMetH_of_parts3 (fuel:=8) (laidMet_of_run' 8 (by kernel_rfl) (by kernel_rfl)) (by kernel_rfl) (by kernel_rfl)
end
section
open Go.RowKit
attribute [local go_sem] aa.refl aa.alloc aa.drew aa.drewN
theorem aL.but {g:Nat} {w w':World} {b:Nat} {v0 v1:Value} (h:aL w b v0 v1) (k:ab g w w') (hg:b≠g):aL w' b v0 v1:=by
 have hb:=h.lt
 obtain ⟨h1,h2,h3,h4⟩:=h
 exact ⟨ab.has hg h1 _ k,ab.has hg h2 _ k,(World.frozen?_of_block (w:=w) (k.block b hb hg)).trans h3,(World.frozen?_of_block (w:=w) (k.block b hb hg)).trans h4⟩
theorem aL.set0 {w:World} {b:Nat} {v0 v1:Value} (h:aL w b v0 v1) (x:Value):aL (w.setCell ⟨b,0,none⟩ x) b x v1:=by
 obtain ⟨h1,h2,h3,h4⟩:=h
 exact ⟨mi h1 _,by rw [fU (by omega),h2],by simp [h3],by simp [h4]⟩
theorem aL.set1 {w:World} {b:Nat} {v0 v1:Value} (h:aL w b v0 v1) (x:Value):aL (w.setCell ⟨b,1,none⟩ x) b v0 x:=by
 obtain ⟨h1,h2,h3,h4⟩:=h
 exact ⟨by rw [fU (by omega),h1],mi h2 _,by simp [h3],by simp [h4]⟩
theorem aL.far {w:World} {b c o:Nat} {v0 v1:Value} (h:aL w b v0 v1) (hc:c≠b) (x:Value):aL (w.setCell ⟨c,o,none⟩ x) b v0 v1:=by
 obtain ⟨h1,h2,h3,h4⟩:=h
 exact ⟨by rw [fU (by omega),h1],by rw [fU (by omega),h2],by simp [h3],by simp [h4]⟩
theorem aL.new (w:World) (v0 v1:Value) (t:TypeId):aL (w.alloc (.cells #[v0,v1] t)) w.heap.size v0 v1:=by simp [aL,go_sem]
theorem aL.alloc {w:World} {b:Nat} {v0 v1:Value} (h:aL w b v0 v1) (o:Obj):aL (w.alloc o) b v0 v1:=h.keeps ((aa.refl w).alloc o)
structure At (g:Nat) (w W:World) (r s:Nat) (q p:Int):Prop where
 cur:bf W g
 keep:ab g w W
 res:aL W r (.int .i64 0) (.int .i64 0)
 part:aL W s (.int .i64 q) (.int .i64 p)
 gr:g < r
 rs:r < s
 wr:w.heap.size <= r
theorem At.but {g:Nat} {w W W':World} {r s:Nat} {q p:Int} (h:At g w W r s q p) (hc:bf W' g) (k:ab g W W'):At g w W' r s q p :=
 ⟨hc,h.keep.trans k,h.res.but k (by have:=h.gr;omega),h.part.but k (by have:=h.gr;have:=h.rs;omega),h.gr,h.rs,h.wr⟩
theorem At.qh {g:Nat} {w W:World} {r s:Nat} {q p:Int} (h:At g w W r s q p) (x:Int):At g w (W.setCell ⟨s,0,none⟩ (.int .i64 x)) r s x p :=
 ⟨h.cur.aI (by have:=h.gr;have:=h.rs;omega) _ _,h.keep.aI (by have:=h.wr;have:=h.rs;simp;omega) _,h.res.far (by have:=h.rs;omega) _,h.part.set0 _,h.gr,h.rs,h.wr⟩
theorem At.ug {g:Nat} {w W:World} {r s:Nat} {q p:Int} (h:At g w W r s q p) (x:Int):At g w (W.setCell ⟨s,1,none⟩ (.int .i64 x)) r s q x :=
 ⟨h.cur.aI (by have:=h.gr;have:=h.rs;omega) _ _,h.keep.aI (by have:=h.wr;have:=h.rs;simp;omega) _,h.res.far (by have:=h.rs;omega) _,h.part.set1 _,h.gr,h.rs,h.wr⟩
theorem At.done {g:Nat} {w W:World} {r s:Nat} {q p:Int} (h:At g w W r s q p) (x y:Value):bf ((W.setCell ⟨r,0,none⟩ x).setCell ⟨r,1,none⟩ y) g /\ ab g w ((W.setCell ⟨r,0,none⟩ x).setCell ⟨r,1,none⟩ y) :=
 ⟨(h.cur.aI h.gr _ _).aI h.gr _ _,(h.keep.aI h.wr _).aI h.wr _⟩
set_option maxHeartbeats 1600000 in
theorem sx (g:Nat) (w:World) (hc:bf w g) :
  Calls Tryz.prog 53 #[.pointer (some ⟨g,0,none⟩)] w fun e w'=>∃ q p:Int,e = .returned (sh q p) /\ bf w' g /\ ab g w w':=by
 have hgl:=hc.lt
 go_enter Tryz.func53,Tryz.ntmps53
 go_wp2_with fail
 refine (iu (fun z=>1 <= z /\ z <= 40) g [1,2,3,4,5,6,8,10,12,39,40] _ _ 11 11 _ _ (by simp) (hc.keeps ((aa.refl _).alloc _)) rfl (by decide) (by decide) rfl (by simp)).mono ?_
 rintro e w1 ⟨p,rfl,⟨hp0,hp1⟩,hc1,k1⟩
 go_wp2_with fail
 have A:At g w (w1.alloc (.cells #[.int .i64 0,.int .i64 p] 51)) w.heap.size w1.heap.size 0 p:=by
  have hs:=k1.size
  have kw:=((ab.refl g w).alloc (.cells #[.int .i64 0,.int .i64 0] 51)).trans k1
  simp at hs
  exact ⟨hc1.keeps ((aa.refl _).alloc _),kw.alloc _,((aL.new w (.int .i64 0) (.int .i64 0) _).but k1 (by omega)).alloc _,aL.new _ _ _ _,hgl,by omega,Nat.le_refl _⟩
 generalize w1.alloc (.cells #[.int .i64 0,.int .i64 p] 51)=W at *
 generalize w1.heap.size=s at *
 generalize hr:w.heap.size=r at *
 clear hr k1 hc1 w1
 refine (vu _ _ _).mono ?_
 rintro e w2 ⟨rfl,rfl⟩
 have hmx:1 <= max (p / 2) 1 /\ max (p / 2) 1 <= 20:=by omega
 generalize max (p / 2) 1=mx at *
 obtain ⟨KA,KE⟩:=hmx
 go_wp2_with fail
 refine (cl g _ _ A.cur (by omega) (by omega)).mono ?_
 rintro e w3 ⟨x,rfl,hx0,hx1,hc3,k3⟩
 have A3:=A.but hc3 k3
 clear A hc3 k3 hc hgl
 obtain ⟨c0,c1,f0,f1⟩:=A3.part
 go_wp2_with fail
 have A4:=A3.qh (1+x)
 clear c0 c1 f0 f1 A3
 generalize w3.setCell ⟨s,0,none⟩ (.int .i64 (1+x))=w4 at *
 refine (cl g _ _ A4.cur (by omega) (by omega)).mono ?_
 rintro e w5 ⟨y,rfl,hy0,hy1,eP,k5⟩
 have A5:=A4.but eP k5
 clear A4 eP k5
 obtain ⟨c0,c1,f0,f1⟩:=A5.part
 obtain ⟨d0,d1,e0,e1⟩:=A5.res
 have hrs:r≠s:=by have:=A5.rs;omega
 have ub:s≠r:=Ne.symm hrs
 by_cases hy:y=0
 ·subst hy
  go_wp2_with fail
  refine (iu (fun _=>True) g [0,-1,41] _ _ 3 3 _ _ rfl A5.cur rfl (by decide) (by decide) rfl (by simp)).mono ?_
  rintro e w6 ⟨z,rfl,_,hc6,k6⟩
  have A6:=A5.but hc6 k6
  clear c0 c1 f0 f1 d0 d1 e0 e1 A5 hc6 k6
  obtain ⟨c0,c1,f0,f1⟩:=A6.part
  obtain ⟨d0,d1,e0,e1⟩:=A6.res
  go_wp2
  exact bodyPost_ret (v:=sh (1+x) z) (by simp [results,Tryz.results53,go_sem,d0,d1]) rfl ⟨_,_,rfl,(A6.ug z).done _ _⟩
 ·by_cases hy':y=1
  ·subst hy'
   go_wp2_with fail
   refine (iu (fun _=>True) g [0,-1,p,p+1] _ _ 4 4 _ _ rfl A5.cur rfl (by decide) (by decide) rfl (by simp)).mono ?_
   rintro e w6 ⟨z,rfl,_,hc6,k6⟩
   have A6:=A5.but hc6 k6
   clear c0 c1 f0 f1 d0 d1 e0 e1 A5 hc6 k6
   obtain ⟨c0,c1,f0,f1⟩:=A6.part
   obtain ⟨d0,d1,e0,e1⟩:=A6.res
   go_wp2
   exact bodyPost_ret (v:=sh z p) (by simp [results,Tryz.results53,go_sem,d0,d1]) rfl ⟨_,_,rfl,(A6.qh z).done _ _⟩
  ·have b0:(y==0)=false:=by rw [beq_eq_false_iff_ne];exact hy
   have b1:(y==1)=false:=by rw [beq_eq_false_iff_ne];exact hy'
   go_wp2
   exact bodyPost_ret (v:=sh (1+x) p) (by simp [results,Tryz.results53,go_sem,d0,d1]) rfl ⟨_,_,rfl,A5.done _ _⟩
theorem uh {α:Type} (p:α->Bool) {xs:List α} {k:Nat} {x:α} (h:xs[k]?=some x):(xs.take (k+1)).filter p=(xs.take k).filter p++(if p x then [x] else []):=by
 rw [jd h,List.filter_append]
 congr 1
 cases e:p x <;> simp [e]
set_option maxHeartbeats 4000000 in
theorem Hu {w:World} {v:Sv} {s:Sy} (h:aA w v s) (cpu:Int) :
  Calls Tryz.prog 179 #[.agg (ae s v),.int .i64 cpu] w fun e w'=>∃ u,e = .returned u /\ Own 43 14 tc w' w.heap.size u (lY s cpu) /\ aa w w':=by
 have hm1:v.t.n <= 2000000:=by have:=h.size;have:=h.lay.tl;unfold bE at *;omega
 have Hn:Hid (s.tasks.length=v.t.n):=h.lay.tl
 have kW:=dw w (.cells (ae s v) 30)
 have hb:=dA w (ae s v) 30
 have hs1:Hid (Ts (w.alloc (.cells (ae s v) 30)) v.t.a s.tasks):=h.lay.t.keeps kW
 clear h
 have HE:Hid (lY s cpu=s.tasks.filter (jF cpu)):=rfl
 go_enter Tryz.func179,Tryz.ntmps179
 go_wp2
 have O0:Hid (Own 43 14 tc ((w.alloc (.cells (ae s v) 30)).alloc (.cells #[] 43)) (w.alloc (.cells (ae s v) 30)).heap.size (.slice (some ⟨(w.alloc (.cells (ae s v) 30)).heap.size,0,none⟩) 0 0) []):=Own.new 43 14 tc _ (Nat.le_refl _)
 have hz:(w.alloc (.cells (ae s v) 30)).heap.size=w.heap.size+1:=by simp
 rw [hz] at O0
 have HW:Hid (w.heap.size <= (w.alloc (.cells (ae s v) 30)).heap.size):=by show _ <= _;omega
 have Hz:Hid ((w.alloc (.cells (ae s v) 30)).heap.size=w.heap.size+1):=hz
 clear hz
 generalize w.alloc (.cells (ae s v) 30)=W at *
 go_loopw [5,6] (fun o i wr=>∃ (k:Nat) (xs:List ar),k <= v.t.n /\ i = .int .i64 k /\ xs.length <= k /\ Hid (xs=(s.tasks.take k).filter (jF cpu)) /\ Hid (Own 43 14 tc wr W.heap.size o xs) /\ aa W wr) (fun _ i _=>v.t.n - (intOf i).toNat)
 case atStart=>exact ⟨0,[],Nat.zero_le _,rfl,by simp,by show _=_;simp,by show Own _ _ _ _ _ _ _;rw [Hz.out];exact O0.out,(aa.refl _).alloc _⟩
 case round =>
  obtain ⟨k,xs,hk,rfl,hxl,HX,O,hK⟩:=hrel
  clear O0
  by_cases hlt:k < v.t.n
  ·obtain ⟨t,ht⟩:=cd (xs:=s.tasks) (k:=k) (by rw [Hn.out];exact hlt)
   obtain ⟨b,off,ha,r0,r1⟩:=hs1.out.at ht (by omega)
   have hlt':(k:Int) < (v.t.n:Int):=by omega
   have cw:=uh (jF cpu) ht
   rw [<- HX.out] at cw
   have HS:Hid ((s.tasks.take (k+1)).filter (jF cpu)=xs++(if jF cpu t then [t] else [])):=cw
   clear ht cw
   cases c1:(t.cpu==cpu)
   ·have Hx:Hid (xs=(s.tasks.take (k+1)).filter (jF cpu)):=by show _=_;rw [HS.out];simp [jF,c1]
    go_wp2
    exact ⟨⟨k+1,xs,by omega,by go_num,by omega,Hx,O,hK⟩,by simp only [intOf];omega⟩
   cases c2:t.idle
   rotate_left
   ·have Hx:Hid (xs=(s.tasks.take (k+1)).filter (jF cpu)):=by show _=_;rw [HS.out];simp [jF,c1,c2]
    go_wp2
    exact ⟨⟨k+1,xs,by omega,by go_num,by omega,Hx,O,hK⟩,by simp only [intOf];omega⟩
   have Hx:Hid (xs++[t]=(s.tasks.take (k+1)).filter (jF cpu)):=by show _=_;rw [HS.out];simp [jF,c1,c2]
   obtain ⟨u,rfl⟩:∃ u:ar,t={ u with idle:=false }:=⟨t,by rw [<- c2]⟩
   clear HS c2
   go_wp2_with (at_builtin;(refine ib rfl _ _ 24 rfl W 43 (.agg (tc ar.zero)) 14 112 tc Tryz.underlying24 (by kernel_rfl) rfl (by decide) cF gV _ xs rfl wr O.out hK ((aa.refl _).alloc _) { u with idle:=false } _ 1 (aq.new _ _ _) rfl ?c1 ?c2 ?_))
   case c1=>unfold maxLen;omega
   case c2=>omega
   intro v' w5 cz k5 _
   have HO:Hid (Own 43 14 tc w5 W.heap.size v' (xs++[{ u with idle:=false }])):=cz
   clear cz O
   go_wp2
   exact ⟨⟨k+1,xs++[{ u with idle:=false }],by omega,by go_num,by simp;omega,Hx,HO,k5⟩,by simp only [intOf];omega⟩
  ·have hlt':decide ((k:Int) < (v.t.n:Int))=false:=by simp;omega
   have HP:Hid (lY s cpu=xs):=by
    have h1:=HX.out
    rw [List.take_of_length_le (by have:=Hn.out;omega)] at h1
    show _=_
    rw [HE.out,h1]
   clear HX
   go_wp2
   go_ret
   exact ⟨_,rfl,by rw [HP.out];exact O.out.base HW.out,kW.trans hK⟩
end
end Go.Proofs.YteagpjlgjfaclaaGreatDoor
