/-
  Fair shares, the program's side: those that share fairly, o
-/
import Derived.RangeFuncNested
import Derived.RangeFuncBound
import Derived.RangeFuncCalls
import Derived.RangeFuncLeaves
import Derived.Shelf.Abstract
import Derived.Shelf.RegionOpen
import Derived.OwnWalkIn
import Derived.TacticsInMore
import Derived.LoopNIn
import Derived.LoopIn
import Derived.Test.YthpdlbcdbncnhaaGreatDoorGIfair1
import Derived.Laws.StructEq
import Derived.Deep.RegionHeld3
namespace Go.Proofs.YthpdlbcdbncnhaaGreatDoor
set_option maxRecDepth 100000
open Go.RowKit Go.Shelf
attribute [local go_sem] Keeps.refl Keeps.alloc Keeps.drew Keeps.drewN
def KC (B:Nat) (W W':World):Prop:=W.heap.size <= W'.heap.size /\ ∀ k o,B <= k->W.heap[k]?=some o->o.isCells=true->W'.heap[k]?=some o
theorem KC.trans {B:Nat} {X Y Z:World} (h:KC B X Y) (k:KC B Y Z):KC B X Z:=⟨Nat.le_trans h.1 k.1,fun i o hB hi ho=>k.2 i o hB (h.2 i o hB hi ho) ho⟩
theorem KC.of {B:Nat} {W W':World} (h:Keeps W W'):KC B W W':=⟨h.size,fun k _ _ hk _=>(Below.block h k (Array.getElem?_eq_some_iff.1 hk).1).trans hk⟩
theorem KC.putObj {B:Nat} (W:World) (l:Nat) (o o':Obj) (h:W.heap[l]?=some o) (hc:o.isCells=false):KC B W (W.putObj l o'):=by
 refine ⟨by simp,fun k o1 _ hk ho => ?_⟩
 by_cases e:k=l
 ·subst e
  rw [h] at hk
  cases hk
  rw [hc] at ho;cases ho
 ·rw [World.putObj_heap_other (by omega)];exact hk
theorem Own.kc {α:Type} {e:TypeId} {sz:Nat} {c:α->Array Value} {w w':World} {base B:Nat} {v:Value} {xs:List α} (h:Own e sz c w base v xs) (k:KC B w w') (hB:B <= base):Own e sz c w' base v xs:=by
 obtain ⟨h1,h2⟩:=h
 refine ⟨h1,?_⟩
 rcases h2 with h2 | ⟨b,cap,cur,hv,hb,hh,r⟩
 ·exact .inl h2
 ·exact .inr ⟨b,cap,cur,hv,hb,k.2 b _ (by omega) hh rfl,r⟩
theorem qkY (a:Option Addr) (n cap:Nat) (w:World) :
  Calls Tryz.prog 92 #[.slice a n cap] w fun e w'=>e = .returned (.func (.func 141) #[] #[.pointer (some ⟨w.heap.size,0,none⟩)]) /\ w'=w.alloc (.cells #[.slice a n cap] 32):=by
 go_enter Tryz.func92,Tryz.ntmps92
 go_wp2
 go_ret
 exact ⟨rfl,rfl⟩
theorem qkZ {W X:World} (h:Keeps W X):W.grownBy X none:=⟨h.os,h.tape,h.output,h.size,fun k hk _=>Below.block h k hk⟩
theorem qk0 {w:World} {base b n cap:Nat} {xs:List Tsk} (h:qdq w base (.slice (some ⟨b,0,none⟩) n cap) xs) {i:Nat} {x:Tsk} (hx:xs[i]?=some x):(w.cell? ⟨b,i*7,none⟩=(rtc x)[0]?) /\ ∀ j,j < 7->w.cell? ⟨b,i*7+j,none⟩=(rtc x)[j]?:=by
 obtain ⟨a,cp,e,l,-,-⟩:=h.slice qc5
 simp only [Value.slice.injEq] at e
 obtain ⟨rfl,-,-⟩:=e
 rcases l with rfl | ⟨b',off,e',-,l⟩
 ·simp at hx
 ·simp only [Option.some.injEq,Addr.mk.injEq] at e'
  obtain ⟨rfl,rfl,-⟩:=e'
  exact ⟨by simpa using l i x hx 0 (by omega),fun j hj=>by simpa using l i x hx j hj⟩
set_option maxHeartbeats 8000000 in
theorem qk1 (a:Option Addr) (cap:Nat) (ts:List Tsk) (Bs:Nat) (w:World) (hBs:Bs < w.heap.size) (hc:w.cell? ⟨Bs,0,none⟩=some (.slice a ts.length cap)) (hs:Ts w a ts) (hl:ts.length <= 1048576) (n:Nat) :
  SeqStopsK Fence.wide n Tryz.prog 141 #[.pointer (some ⟨Bs,0,none⟩)] (fun t:Tsk=>#[.agg (rtc t)]) (KC w.heap.size) (fun ys=>HeapOf ts ys) (fun pre=>∃ ys,HeapOf ts ys /\ pre <+: ys) (ts.length+1) w:=by
 intro l J Jx W hW hJ hJx hY h0
 have KW:Keeps w W:=hW
 have HY:Hid (∀ (pre:List Tsk) (x:Tsk) (W1:World),J pre W1->pre.length < ts.length+1->YieldAt Fence.wide (n - 1) Tryz.prog l #[.agg (rtc x)] W1 fun e W' =>
   (e = .returned (.bool true) /\ J (pre++[x]) W' /\ KC w.heap.size W1 W')∨(e = .returned (.bool false) /\ Jx (pre++[x]) W')):=hY
 have hc1:∀ w',Keeps W w'->w'.cell? ⟨Bs,0,none⟩=some (.slice a ts.length cap):=Keeps.has ((KW.cells _ _ hBs).trans hc)
 have hs1:Hid (Ts W a ts):=hs.keeps KW
 have HJ:Hid (AbidesFrom W.heap.size J):=hJ
 have HX:Hid (AbidesFrom W.heap.size Jx):=hJx
 have hw0:w.heap.size <= W.heap.size:=KW.size
 have H0:Hid (J [] W):=h0
 clear hY hJ hJx hs hc hW KW h0
 generalize hn:ts.length=m at *
 have Hn:Hid (ts.length=m):=hn
 clear hn
 refine callsIn_wide.2 ?_
 show Calls _ _ #[.func (.yield l) #[] #[],.pointer (some ⟨Bs,0,none⟩)] _ _
 go_enter Tryz.func141,Tryz.ntmps141
 go_wp2_with fail
 have L0:Hid (Line W W.heap.size (W.heap.size+1) (.slice none 0 0) [] (W.alloc (.cells #[.slice none 0 0] 184))):=⟨Blk.new _ _ _,World.ownsRow_nil _ _ _ _,(Keeps.refl W).alloc _⟩
 go_loopw [10] (fun i wr=>∃ k:Nat,k <= m /\ i = .int .i64 k /\ ∃ v xs,Line W W.heap.size (W.heap.size+1) v xs wr /\ HeapOf (ts.take k) xs) (fun i _=>m - (intOf i).toNat)
 case atStart=>exact ⟨0,Nat.zero_le _,rfl,_,[],L0.out,by simpa using HeapOf.start⟩
 case round =>
  obtain ⟨k,hk,rfl,v,xs,hL,hO⟩:=hrel
  have LH:Hid (Line W W.heap.size (W.heap.size+1) v xs wr):=hL
  have OH:Hid (HeapOf (ts.take k) xs):=hO
  have K1:Keeps W wr:=hL.keeps
  have hxl:xs.length <= k:=by have:=hO.len;simp at this;omega
  clear hL hO L0
  by_cases hlt:k < m
  ·obtain ⟨t,ht⟩:=qbB (xs:=ts) (k:=k) (by rw [Hn.out];exact hlt)
   obtain ⟨b,off,rfl,r0,r1⟩:=hs1.out.at ht (by omega)
   have Htk:Hid (ts.take (k+1)=ts.take k++[t]):=by
    show _=_
    have hk':k < ts.length:=by rw [Hn.out];exact hlt
    rw [List.take_succ_eq_append_getElem hk']
    rw [List.getElem?_eq_getElem hk'] at ht
    simp only [Option.some.injEq] at ht
    rw [ht]
   have hlt':(k:Int) < (m:Int):=by omega
   clear ht
   go_wp2_with fail
   have X0:Hid (Line W W.heap.size (W.heap.size+1) v xs (wr.alloc (.cells (tc t) 47))):=LH.out.go ((Keeps.refl wr).alloc _)
   have hT:=blkR wr (tc t) 47
   clear r0 r1
   generalize wr.alloc (.cells (tc t) 47)=X at *
   refine (qe1 t _).mono ?_
   rintro e w1 ⟨rfl,k1⟩
   cases hf:qaC t
   ·have HO:Hid (HeapOf (ts.take (k+1)) xs):=by show HeapOf _ _;rw [Htk.out];exact OH.out.skip hf
    go_wp2
    exact ⟨⟨k+1,by omega,by go_num,v,xs,X0.out.go k1,HO.out⟩,by simp only [intOf];omega⟩
   ·go_wp2_with (first
     | (go_at_call 137;refine (qe2 t _).mono ?_;rintro e w2 ⟨rfl,k2⟩)
     | (go_at_call 142;refine (qkX t W.heap.size v xs (W.heap.size+1) W w2 (X0.out.go (k1.trans k2)) OH.out.heap (Nat.le_refl _) (by omega) (X0.out.go (k1.trans k2)).line.lt (by omega)).mono ?_;rintro e w3 ⟨rfl,v',ys,L3,S3⟩))
    have HO:Hid (HeapOf (ts.take (k+1)) ys):=by show HeapOf _ _;rw [Htk.out];exact OH.out.snoc hf S3
    exact ⟨⟨k+1,by omega,by go_num,v',ys,L3,HO.out⟩,by simp only [intOf];omega⟩
  ·have hlt':decide ((k:Int) < (m:Int))=false:=by simp;omega
   have HO:Hid (HeapOf ts xs):=by have:=OH.out;rw [List.take_of_length_le (by have:=Hn.out;omega)] at this;exact this
   obtain ⟨a',cp,rfl,li,-,-⟩:=LH.out.own.slice qc5
   have hl1:=LH.out.line.cells 0
   generalize hq:xs.length=q at *
   have Hq:Hid (xs.length=q):=hq
   clear hq
   go_wp2_with fail
   have J0:Hid (J [] wr):=HJ.out [] W wr none H0.out (qkZ K1) (fun r e=>by cases e)
   have O0:Hid (qdq wr (W.heap.size+1) (.slice a' q cp) xs):=LH.out.own
   clear LH OH li hl1 hc1
   generalize wr=V at *
   refine (wpIn_wide (n:=n)).1 ?_
   gi_loopw [23] (fun i wx=>∃ j:Nat,j <= q /\ i = .int .i64 j /\ J (xs.take j) wx /\ qdq wx (W.heap.size+1) (.slice a' q cp) xs) (fun i _=>q - (intOf i).toNat)
   case atStart=>exact ⟨0,Nat.zero_le _,rfl,by simpa using J0.out,O0.out⟩
   case round =>
    obtain ⟨j,hj,rfl,hJ1,hO1⟩:=hrel
    have J1:Hid (J (xs.take j) wr):=hJ1
    have O1:Hid (qdq wr (W.heap.size+1) (.slice a' q cp) xs):=hO1
    clear hJ1 hO1
    by_cases hjt:j < q
    ·obtain ⟨x,hx⟩:=qbB (xs:=xs) (k:=j) (by rw [Hq.out];exact hjt)
     have Htk:Hid (xs.take (j+1)=xs.take j++[x]):=by
      show _=_
      have hk':j < xs.length:=by rw [Hq.out];exact hjt
      have hx':=hx
      rw [List.getElem?_eq_getElem hk'] at hx'
      rw [List.take_succ_eq_append_getElem hk']
      simp only [Option.some.injEq] at hx'
      rw [hx']
     obtain ⟨b,cp',e1,-,-,-⟩:=O1.out.some qc5 (by rw [Hq.out];omega)
     simp only [Value.slice.injEq] at e1
     obtain ⟨rfl,-,-⟩:=e1
     obtain ⟨x00,x01⟩:=qk0 O1.out hx
     have c0:wr.cell? ⟨b,j*7,none⟩=some (.int .i64 x.no):=x00
     have c1:wr.cell? ⟨b,j*7+1,none⟩=some (.int .i64 x.cls):=x01 1 (by omega)
     have c2:wr.cell? ⟨b,j*7+2,none⟩=some (.int .i64 x.cpu):=x01 2 (by omega)
     have c3:wr.cell? ⟨b,j*7+3,none⟩=some (.int .i64 x.st):=x01 3 (by omega)
     have c4:wr.cell? ⟨b,j*7+4,none⟩=some (.bool x.idle):=x01 4 (by omega)
     have c5:wr.cell? ⟨b,j*7+5,none⟩=some (.int .i64 x.nice):=x01 5 (by omega)
     have c6:wr.cell? ⟨b,j*7+6,none⟩=some (.int .i64 x.v):=x01 6 (by omega)
     have hjt':(j:Int) < (q:Int):=by omega
     have J2:J (xs.take j) (wr.alloc (.cells (rtc x) 129)):=HJ.out _ wr _ none J1.out (World.grownBy_alloc wr _ none) (fun r e=>by cases e)
     obtain ⟨fn,tmps,assign,body,hy,hR⟩:=HY.out (xs.take j) x _ J2 (by simp;omega)
     clear x00 x01 hx J2
     gi_wp2
     refine ⟨fun h=>(by simp [Fence.wide] at h),?_⟩
     refine hR.mono ?_
     rintro e W3 (⟨rfl,hJ3,hk3⟩ | ⟨rfl,hJx3⟩)
     ·have J3:Hid (J (xs.take (j+1)) W3):=by show J _ _;rw [Htk.out];exact hJ3
      have O3:Hid (qdq W3 (W.heap.size+1) (.slice (some ⟨b,0,none⟩) q cp) xs):=(O1.out.alloc _).kc hk3 (by omega)
      gi_wp2
      go_roundw
      case rel=>exact ⟨j+1,by omega,by go_num,J3.out,O3.out⟩
      case measure=>simp only [intOf];omega
     ·have J3:Hid (Jx (xs.take (j+1)) W3):=by show Jx _ _;rw [Htk.out];exact hJx3
      gi_wp2
      refine bodyPost_ret (results_none rfl _ _ _) rfl ?_
      exact ⟨⟨_,rfl⟩,.inr ⟨_,⟨xs,HO.out,List.take_prefix _ _⟩,J3.out⟩⟩
    ·have hjt':decide ((j:Int) < (q:Int))=false:=by simp;omega
     have J3:Hid (J xs wr):=by have:=J1.out;rw [List.take_of_length_le (by have:=Hq.out;omega)] at this;exact this
     gi_wp2
     go_end0
     exact ⟨⟨_,rfl⟩,.inl ⟨xs,HO.out,J3.out⟩⟩
end Go.Proofs.YthpdlbcdbncnhaaGreatDoor
namespace Go.Proofs.YthpdlbcdbncnhaaGreatDoor
set_option maxRecDepth 100000
open Go.RowKit Go.Shelf
attribute [local go_sem] Oper.semAt_some
theorem Blk.other {W W':World} {b:Nat} {C:Array Value} {row:Option Nat} (h:Blk W b C) (hC:0 < C.size) (hg:W.grownBy W' row) (hr:∀ r,row=some r->∃ o:Obj,W.heap[r]?=some o /\ o.isCells=false):Blk W' b C:=by
 refine h.grown hg fun k hk e => ?_
 subst e
 obtain ⟨o,ho,hc⟩:=hr k hk
 have h0:=h.cells 0
 rw [Array.getElem?_eq_getElem hC] at h0
 unfold World.cell? at h0
 simp only [ho] at h0
 cases o <;> simp_all [Obj.isCells]
theorem qfH {b:Nat}:∀ (L:List Value) (w:World) (k:Nat),KeepsOthers w (putC w b k L)
 | [],w,_=>KeepsOthers.refl w
 | v::r,w,k=>(KeepsOthers.setCell w ⟨b,k,none⟩ v).trans (qfH r _ (k+1))
set_option maxHeartbeats 8000000 in
theorem qk2 (a:Option Addr) (cap:Nat) (ts:List Tsk) (w:World) (hl:ts.length <= 1048576) (hs:Ts w a ts) :
  Calls Tryz.prog 91 #[.slice a ts.length cap] w fun e w'=>(∃ xs,HeapOf ts xs /\ ((xs=[] /\ e = .returned (.tuple #[.agg (rtc Tsk.zero),.bool false]))∨∃ f,xs[0]?=some f /\ e = .returned (.tuple #[.agg (rtc f),.bool true]))) /\ Keeps w w':=by
 refine (callsIn_wide (n:=5)).1 ?_
 refine callsIn_of_wp_marks Tryz.func91 rfl trivial ?_ rfl
 simp only [Tryz.ntmps91,List.size_toArray,List.length_cons,List.length_nil,Nat.reduceAdd,Nat.reduceSub,Array.replicate_succ,Array.replicate_zero,List.push_toArray,List.append_toArray,List.nil_append,List.cons_append]
 gi_wp2_with (refine ⟨trivial,?_⟩;gi_at_call 92;refine (callsIn_wide.2 (qkY _ _ _ _)).mono ?_;rintro e w' ⟨rfl,rfl⟩)
 have B1:Blk (((w.alloc (.cells (rtc Tsk.zero) 129)).alloc (.cells #[.bool false] 4)).alloc (.cells #[.slice a ts.length cap] 32)) w.heap.size (rtc Tsk.zero):=((Blk.new _ _ _).alloc _).alloc _
 have B2:Blk (((w.alloc (.cells (rtc Tsk.zero) 129)).alloc (.cells #[.bool false] 4)).alloc (.cells #[.slice a ts.length cap] 32)) (w.heap.size+1) #[.bool false]:=by
  have:=(Blk.new (w.alloc (.cells (rtc Tsk.zero) 129)) #[.bool false] 4).alloc (.cells #[.slice a ts.length cap] 32)
  simpa using this
 have B3:Blk (((w.alloc (.cells (rtc Tsk.zero) 129)).alloc (.cells #[.bool false] 4)).alloc (.cells #[.slice a ts.length cap] 32)) (w.heap.size+1+1) #[.slice a ts.length cap]:=by
  have:=Blk.new ((w.alloc (.cells (rtc Tsk.zero) 129)).alloc (.cells #[.bool false] 4)) #[.slice a ts.length cap] 32
  simpa using this
 have KW:Keeps w (((w.alloc (.cells (rtc Tsk.zero) 129)).alloc (.cells #[.bool false] 4)).alloc (.cells #[.slice a ts.length cap] 32)):=(((Keeps.refl w).alloc _).alloc _).alloc _
 have hsz:(((w.alloc (.cells (rtc Tsk.zero) 129)).alloc (.cells #[.bool false] 4)).alloc (.cells #[.slice a ts.length cap] 32)).heap.size=w.heap.size+3:=by simp
 change Code.wpIn _ _ _ _ _ _ (((w.alloc (.cells (rtc Tsk.zero) 129)).alloc (.cells #[.bool false] 4)).alloc (.cells #[.slice a ts.length cap] 32))
 generalize (((w.alloc (.cells (rtc Tsk.zero) 129)).alloc (.cells #[.bool false] 4)).alloc (.cells #[.slice a ts.length cap] 32))=W0 at *
 refine wpIn_rangeFunc_ownH rfl (by decide) (gf:=141) (lb:=#[.pointer (some ⟨w.heap.size+1+1,0,none⟩)]) rfl trivial (enters_of Tryz.func141 (by kernel_rfl) rfl)
  (qk1 a cap ts (w.heap.size+1+1) W0 (by omega) (B3.cells 0) (hs.keeps KW) hl _) (fun h k=>h.trans k) (fun W l o o' _ h hc _=>KC.putObj W l o o' h hc) (Below.refl _ _) (fun _=>rfl)
  (fun pre W=>pre=[] /\ Blk W w.heap.size (rtc Tsk.zero) /\ Blk W (w.heap.size+1) #[.bool false] /\ Keeps w W)
  (fun c pre W=>c = .ret /\ ∃ f,pre=[f] /\ Blk W w.heap.size (rtc f) /\ Blk W (w.heap.size+1) #[.bool true] /\ Keeps w W)
  (fun s A B row h hg hr=>⟨h.1,h.2.1.other (by simp) hg fun r e=>(hr r e).2,h.2.2.1.other (by simp) hg fun r e=>(hr r e).2,h.2.2.2.grown hg fun k e=>by have:=(hr k e).1;omega⟩)
  (fun c s A B row h hg hr=>by
   obtain ⟨h1,f,h2,h3,h4,h5⟩:=h
   exact ⟨h1,f,h2,h3.other (by simp) hg fun r e=>(hr r e).2,h4.other (by simp) hg fun r e=>(hr r e).2,h5.grown hg fun k e=>by have:=(hr k e).1;omega⟩)
  ⟨rfl,B1,B2,KW⟩
  (fun x a' W=>∃ Bx,w.heap.size+2 <= Bx /\ Blk W Bx (rtc x) /\ a'={ tmps:=#[.slice a ts.length cap,undef,.pointer (some ⟨w.heap.size,0,none⟩),.pointer (some ⟨w.heap.size+1,0,none⟩),.pointer (some ⟨Bx,0,none⟩),.slice a ts.length cap,.func (.func 141) #[] #[.pointer (some ⟨w.heap.size+1+1,0,none⟩)],.agg (rtc x),undef,undef],defers:=[] })
  (fun x a' s A B row h hg hr=>by
   obtain ⟨Bx,h1,h2,h3⟩:=h
   exact ⟨Bx,h1,h2.other (by simp) hg fun r e=>(hr r e).2,h3⟩) ?assign ?body ?done ?stop
 case assign =>
  rintro l pre x W K ⟨h1,h2,h3,h4⟩ hK
  gi_wp2
  exact hK _ _ ((KeepsOthers.alloc _ _).from _) (KC.of ((Keeps.refl W).alloc _)) ⟨h1,h2.alloc _,h3.alloc _,h4.alloc _⟩ ⟨W.heap.size,h3.lt,Blk.new W (rtc x) 129,rfl⟩
 case body =>
  rintro l pre x a' W hll - ⟨rfl,h2,h3,h4⟩ ⟨Bx,hBx,hX,rfl⟩ -
  have H2:Hid (Blk W w.heap.size (rtc Tsk.zero)):=h2
  have H3:Hid (Blk W (w.heap.size+1) #[.bool false]):=h3
  obtain ⟨_,f1,f2⟩:=h2
  obtain ⟨_,g1,g2⟩:=h3
  obtain ⟨_,x1,x2⟩:=hX
  gi_wp2
  change ownPostG _ _ _ _ _ _ _ _ ((putC W w.heap.size 0 (rtc x).toList).setCell ⟨w.heap.size+1,0,none⟩ (.bool true))
  exact ⟨((qfH _ _ _).trans (KeepsOthers.setCell _ _ _)).from _,rfl,x,rfl,(H2.out.putC (rtc x).toList rfl).far (by omega) _,(Blk.farC (by omega) _ _ H3.out).set 0 (by simp) _,(Keeps.putC (b:=w.heap.size) (Nat.le_refl _) _ _ h4).setCell (by show _ <= w.heap.size+1;omega) _⟩
 case done =>
  rintro D ys W hD hS ⟨rfl,h2,h3,h4⟩ hK
  have D1:Blk ((putC W w.heap.size 0 (rtc Tsk.zero).toList).setCell ⟨w.heap.size+1,0,none⟩ (.bool false)) w.heap.size (rtc Tsk.zero):=(h2.putC (rtc Tsk.zero).toList rfl).far (by omega) _
  have D2:Blk ((putC W w.heap.size 0 (rtc Tsk.zero).toList).setCell ⟨w.heap.size+1,0,none⟩ (.bool false)) (w.heap.size+1) #[.bool false]:=(Blk.farC (by omega) _ _ h3).set 0 (by simp) _
  have KY:Keeps w ((putC W w.heap.size 0 (rtc Tsk.zero).toList).setCell ⟨w.heap.size+1,0,none⟩ (.bool false)):=(Keeps.putC (b:=w.heap.size) (Nat.le_refl _) _ _ h4).setCell (by show _ <= w.heap.size+1;omega) _
  have hK':=((qfH (b:=w.heap.size) (rtc Tsk.zero).toList W 0).trans (KeepsOthers.setCell _ ⟨w.heap.size+1,0,none⟩ (.bool false))).same D _ hK rfl
  obtain ⟨_,f1,f2⟩:=h2
  obtain ⟨_,g1,g2⟩:=h3
  gi_wp2
  change bodyPostM _ _ _ _ _ _ _ ((putC W w.heap.size 0 (rtc Tsk.zero).toList).setCell ⟨w.heap.size+1,0,none⟩ (.bool false))
  generalize (putC W w.heap.size 0 (rtc Tsk.zero).toList).setCell ⟨w.heap.size+1,0,none⟩ (.bool false)=Y at *
  refine ⟨by simp,.inl ⟨_,_,rfl,run_takeDeferred hK',?_⟩⟩
  have E1:=D1.other (by simp) (grownBy_putObj' Y D (.deferred none)) (fun r e=>by cases e;exact ⟨_,hK',rfl⟩)
  have E2:=D2.other (by simp) (grownBy_putObj' Y D (.deferred none)) (fun r e=>by cases e;exact ⟨_,hK',rfl⟩)
  have KE:=KY.grown (grownBy_putObj' Y D (.deferred none)) (fun k e=>by cases e;omega)
  refine ⟨.tuple #[.agg (rtc Tsk.zero),.bool false],?_,⟨[],hS,.inl ⟨rfl,rfl⟩⟩,KE⟩
  simp [results,Tryz.results91,go_sem,E1.cells,E2.cells]
 case stop =>
  rintro D c pre W hD ⟨ys,hS,hp⟩ ⟨rfl,f,rfl,h2,h3,h4⟩ hK
  gi_wp2
  refine ⟨by simp,.inl ⟨_,_,rfl,run_takeDeferred hK,?_⟩⟩
  have E1:=h2.other (by simp) (grownBy_putObj' W D (.deferred none)) (fun r e=>by cases e;exact ⟨_,hK,rfl⟩)
  have E2:=h3.other (by simp) (grownBy_putObj' W D (.deferred none)) (fun r e=>by cases e;exact ⟨_,hK,rfl⟩)
  have KE:=h4.grown (grownBy_putObj' W D (.deferred none)) (fun k e=>by cases e;omega)
  obtain ⟨r,hr⟩:=hp
  refine ⟨.tuple #[.agg (rtc f),.bool true],?_,⟨ys,hS,.inr ⟨f,by rw [<- hr];rfl,rfl⟩⟩,KE⟩
  simp [results,Tryz.results91,go_sem,E1.cells,E2.cells]
end Go.Proofs.YthpdlbcdbncnhaaGreatDoor
namespace Go.Proofs.YthpdlbcdbncnhaaGreatDoor
set_option maxRecDepth 100000
open Go.RowKit
attribute [local go_sem] Keeps.refl Keeps.alloc Keeps.drew Keeps.drewN
def eqR (a b:Tsk):Bool:=a.no==b.no&&(a.cls==b.cls&&(a.cpu==b.cpu&&(a.st==b.st&&(a.idle==b.idle&&(a.nice==b.nice&&(a.v==b.v))))))
theorem qk3 (d:Nat) (w:World) (a b:Tsk):(Op.equalIn (d+4) 129 (.agg (rtc a)) (.agg (rtc b))).run Tryz.prog w = .ok (eqR a b) w:=by
 rw [run_equalIn_agg _ _ _ _ _ (by kernel_rfl) (by kernel_rfl)]
 go_simp
 unfold eqR
 by_cases h0:a.no=b.no
 case neg=>simp only [if_neg h0,beq_eq_false_iff_ne.2 h0,Bool.false_and]
 simp only [if_pos h0,beq_iff_eq.2 h0,Bool.true_and]
 by_cases h1:a.cls=b.cls
 case neg=>simp only [if_neg h1,beq_eq_false_iff_ne.2 h1,Bool.false_and]
 simp only [if_pos h1,beq_iff_eq.2 h1,Bool.true_and]
 by_cases h2:a.cpu=b.cpu
 case neg=>simp only [if_neg h2,beq_eq_false_iff_ne.2 h2,Bool.false_and]
 simp only [if_pos h2,beq_iff_eq.2 h2,Bool.true_and]
 by_cases h3:a.st=b.st
 case neg=>simp only [if_neg h3,beq_eq_false_iff_ne.2 h3,Bool.false_and]
 simp only [if_pos h3,beq_iff_eq.2 h3,Bool.true_and]
 by_cases h4:a.idle=b.idle
 case neg=>simp only [if_neg h4,beq_eq_false_iff_ne.2 h4,Bool.false_and]
 simp only [if_pos h4,beq_iff_eq.2 h4,Bool.true_and]
 by_cases h5:a.nice=b.nice
 case neg=>simp only [if_neg h5,beq_eq_false_iff_ne.2 h5,Bool.false_and]
 simp only [if_pos h5,beq_iff_eq.2 h5,Bool.true_and]
 by_cases h6:a.v=b.v
 ·simp only [if_pos h6,beq_iff_eq.2 h6]
 ·simp only [if_neg h6,beq_eq_false_iff_ne.2 h6]
theorem qk4 (w:World) (a b:Tsk):(binOp .neq 129 (.agg (rtc a)) (.agg (rtc b))).run Tryz.prog w = .ok (.bool (!eqR a b)) w:=by
 rw [run_neq_struct,qk3 9996];rfl
theorem qk5 (x y:Tsk):(!eqR (if befV x y then x else y) y)=befV x y:=by
 cases h:befV x y
 ·simp [eqR]
 ·simp only [if_true]
  rw [Bool.not_eq_true',Bool.eq_false_iff]
  intro e
  simp only [eqR,Bool.and_eq_true,beq_iff_eq] at e
  rw [qfF] at h
  omega
theorem qk6 (w:World) (a b:Tsk) (T:TypeId):Ts (w.alloc (.cells (tc b++tc a) T)) (some ⟨w.heap.size,0,none⟩) [b,a]:=by
 have B:=Blk.new w (tc b++tc a) T
 refine .inr ⟨_,_,rfl,B.lt,fun i x hx k hk => ?_⟩
 rw [B.cells]
 match i,hx with
 | 0,hx =>
  simp at hx;subst hx
  rw [Array.getElem?_append_left (by simp;omega)]
  simp
 | 1,hx =>
  simp at hx;subst hx
  rw [Array.getElem?_append_right (by simp)]
  simp
attribute [local go_sem high] qk4
set_option maxHeartbeats 4000000 in
theorem qfI:qkE:=by
 intro a b w
 go_enter Tryz.func285,Tryz.ntmps285
 go_wp2_with fail
 have kW:Keeps w ((w.alloc (.cells (tc a) 47)).alloc (.cells (tc b) 47)):=((Keeps.refl w).alloc _).alloc _
 have r1:∀ w',Keeps ((w.alloc (.cells (tc a) 47)).alloc (.cells (tc b) 47)) w'->∀ k,w'.cell? ⟨w.heap.size,k,none⟩=(tc a)[k]?:=fun w' h=>(((Blk.new w (tc a) 47).alloc _).keeps h).cells
 have r2:∀ w',Keeps ((w.alloc (.cells (tc a) 47)).alloc (.cells (tc b) 47)) w'->∀ k,w'.cell? ⟨w.heap.size+1,k,none⟩=(tc b)[k]?:=fun w' h=>by
  have:=(Blk.new (w.alloc (.cells (tc a) 47)) (tc b) 47).keeps h
  simp only [World.size_alloc] at this
  exact this.cells
 generalize (w.alloc (.cells (tc a) 47)).alloc (.cells (tc b) 47)=W at *
 refine (qe1 a _).mono ?_
 rintro e w1 ⟨rfl,k1⟩
 cases ha:qaC a
 ·have Hr:Hid (qaU a b=false):=by show _=_;simp [qaU,ha]
  go_wp2
  go_ret
  exact ⟨by rw [Hr.out];rfl,kW.trans k1⟩
 ·go_wp2_with fail
  refine (qe1 b _).mono ?_
  rintro e w2 ⟨rfl,k2⟩
  have K2:=k1.trans k2
  cases hb:qaC b
  ·have Hr:Hid (qaU a b=false):=by show _=_;simp [qaU,hb]
   go_wp2
   go_ret
   exact ⟨by rw [Hr.out];rfl,kW.trans K2⟩
  ·have Hr:Hid (qaU a b=befV a b):=by show _=_;simp only [qaU,befV,ha,hb,Bool.true_and]
   clear k1 k2
   go_wp2_with fail
   have TL:=qk6 w2 a b 47
   have WH:=qk2 (some ⟨w2.heap.size,0,none⟩) 2 [b,a] _ (by simp) TL
   have K3:Keeps W (w2.alloc (.cells (tc b++tc a) 47)):=K2.alloc _
   clear TL
   change Calls _ _ _ (w2.alloc (.cells (tc b++tc a) 47)) _
   generalize w2.alloc (.cells (tc b++tc a) 47)=W3 at *
   refine WH.mono ?_
   rintro e w4 ⟨⟨xs,hO,h⟩,k4⟩
   have h2:=hO.two ha hb
   have HF:Hid ((!eqR (if befV a b then a else b) b)=befV a b):=qk5 a b
   rcases h with ⟨rfl,-⟩ | ⟨f,hf,rfl⟩
   ·simp at h2
   rw [hf] at h2
   simp only [Option.some.injEq] at h2
   rw [<- h2] at HF
   clear h2 hf hO WH
   have K4:Keeps W w4:=K3.trans k4
   go_wp2_with fail
   have K5:Hid (Keeps W (w4.alloc (.cells (rtc f) 129))):=K4.alloc _
   have r3:=blkR w4 (rtc f) 129
   have r4:∀ w',Keeps (w4.alloc (.cells (rtc f) 129)) w'->∀ k,w'.cell? ⟨w.heap.size+1,k,none⟩=(tc b)[k]?:=fun w' h=>r2 w' (K5.out.trans h)
   clear r1 r2 K2 K3 K4 k4
   generalize w4.alloc (.cells (rtc f) 129)=X at *
   have K0:=Keeps.refl X
   refine wp_region_held_drew (S:=(fun w'=>Keeps X w')) (by kernel_rfl) ?_ (fun hHeld => ?_)
   ·exact K0.drew
   refine Plan.go [0,1] ?_
   iterate 2 (refine qac (by simp only [qab];rfl) (by kernel_rfl) (by exact fun _ _ _ h=>h) (by rfl) (by assumption) (fun w _=>by go_simp;try (with_reducible rfl)) ?_;try simp only [qaa])
   refine Plan.nil ?_
   refine qad 2 (by kernel_rfl) (by simp only [qab];rfl) (fun K hK => ?_)
   go_simp
   first
    | (go_at_call 137;refine (qe2 b _).mono ?_;rintro e w6 ⟨rfl,k6⟩)
   try go_wp2_with fail
   refine hK.out _ _ ?_ (fun hHeld => ?_)
   ·exact Keeps.trans (by assumption) (by assumption)
   clear hK K
   try simp only [qaa]
   refine Plan.go [3,4] ?_
   iterate 2 (refine qac (by simp only [qab];rfl) (by kernel_rfl) (by exact fun _ _ _ h=>h) (by rfl) (by assumption) (fun w _=>by go_simp;try (with_reducible rfl)) ?_;try simp only [qaa])
   refine Plan.nil ?_
   refine wpAnyH_done (by kernel_rfl) ?_ _
   have K6:Keeps X w6:=by assumption
   go_wp2
   go_ret
   exact ⟨by rw [Hr.out,<- HF.out];rfl,(kW.trans K5.out).trans K6⟩
end Go.Proofs.YthpdlbcdbncnhaaGreatDoor
