/-
  What is drawn: contracts of the model's cursor over a text'
  Fair shares, as plain functions, and what holds of them.
  A row of one's own that grows by append: elements of one si
  A row of one's own that grows beside a cursor that turns.
  A task is written over an element of a row.
  Parts of time: contracts of the functions that say which pa
-/
import Derived.Test.YteagpjlgjfaclaaGreatDoorTaskSpec
import Derived.Test.YteagpjlgjfaclaaGreatDoorLate
import Derived.Deep.AppendLies
import Derived.Laws.OwnMore
import Derived.Test.YteagpjlgjfaclaaGreatDoorTaskBase
import Derived.Test.YteagpjlgjfaclaaGreatDoorErrIs
import Derived.Laws.ResultCell
import Derived.Deep.RegionHeld3
namespace Go.Proofs.YteagpjlgjfaclaaGreatDoor
open Go.RowKit
theorem vh (n:Int):bits .and .i64 n 255=n % 256:=by
 have h:(BitVec.ofInt 64 255).toNat=2 ^ 8 - 1:=by decide
 have key:(BitVec.ofInt 64 n &&& BitVec.ofInt 64 255).toNat=(n % ((2 ^ 64:Nat):Int)).toNat % 2 ^ 8:=by
  rw [BitVec.toNat_and,BitVec.toNat_ofInt,h,Nat.and_two_pow_sub_one_eq_mod]
 show IntKind.i64.wrap ((BitVec.ofInt 64 n &&& BitVec.ofInt 64 255).toNat:Nat)=n % 256
 rw [key,IntKind.wrap_i64]
 omega
theorem GB (n:Int):bits .and .i64 n 1073741823=n % 1073741824:=by
 have h:(BitVec.ofInt 64 1073741823).toNat=2 ^ 30 - 1:=by decide
 have key:(BitVec.ofInt 64 n &&& BitVec.ofInt 64 1073741823).toNat=(n % ((2 ^ 64:Nat):Int)).toNat % 2 ^ 30:=by
  rw [BitVec.toNat_and,BitVec.toNat_ofInt,h,Nat.and_two_pow_sub_one_eq_mod]
 show IntKind.i64.wrap ((BitVec.ofInt 64 n &&& BitVec.ofInt 64 1073741823).toNat:Nat)=n % 1073741824
 rw [key,IntKind.wrap_i64]
 omega
def Bytes (g:Nat) (w:World) (a:Option Addr) (n:Nat):Prop :=
 n=0∨∃ b off,a=some ⟨b,off,none⟩ /\ b < g /\ ∀ j,j < n->∃ z:Int,0 <= z /\ z <= 255 /\ w.cell? ⟨b,off+j,none⟩=some (.int .u8 z)
theorem Bytes.but {g:Nat} {w w':World} {a:Option Addr} {n:Nat} (h:Bytes g w a n) (k:ab g w w'):Bytes g w' a n:=by
 rcases h with h | ⟨b,off,rfl,hg,h⟩
 ·exact .inl h
 ·exact .inr ⟨b,off,rfl,hg,fun j hj=>by obtain ⟨z,h0,h1,hc⟩:=h j hj;exact ⟨z,h0,h1,ab.has (by omega) hc _ k⟩⟩
def bj (w:World) (g:Nat):Prop :=
 ∃ (a:Option Addr) (n cap i:Nat) (h:Int),w.cell? ⟨g,0,none⟩=some (.slice a n cap) /\ w.cell? ⟨g,1,none⟩=some (.int .i64 i) /\ w.cell? ⟨g,2,none⟩=some (.int .i64 h) /\
  w.frozen? ⟨g,1,none⟩=false /\ w.frozen? ⟨g,2,none⟩=false /\ i <= n /\ n <= 1048576 /\ Bytes g w a n
theorem qV (w:World) (n:Nat) (a:Addr):(w.drewN n).cell? a=w.cell? a:=rfl
theorem zy (w:World) (n:Nat) (a:Addr):(w.drewN n).frozen? a=w.frozen? a:=rfl
theorem Bytes.drewN {g:Nat} {w:World} {a:Option Addr} {n:Nat} (h:Bytes g w a n) (m:Nat):Bytes g (w.drewN m) a n:=h.but ((ab.refl g w).drewN m)
theorem bj.drewN {w:World} {g:Nat} (h:bj w g) (m:Nat):bj (w.drewN m) g:=by
 obtain ⟨a,n,cap,i,h,c0,c1,c2,f1,f2,hi,hn,hb⟩:=h
 exact ⟨a,n,cap,i,h,c0,c1,c2,f1,f2,hi,hn,hb.drewN m⟩
theorem zP {w:World} {a:Option Addr} {n cap:Nat} {h:Int} (hn:n <= 1048576) (hb:Bytes w.heap.size w a n) (t:TypeId):bj (w.alloc (.cells #[.slice a n cap,.int .i64 0,.int .i64 h] t)) w.heap.size :=
 ⟨a,n,cap,0,h,by simp [go_sem],by simp [go_sem],by simp [go_sem],by simp [go_sem],by simp [go_sem],Nat.zero_le _,hn,hb.but ((ab.refl _ w).alloc _)⟩
theorem zQ {w:World} {g:Nat} {a:Option Addr} {n cap i:Nat} {h:Int} (c0:w.cell? ⟨g,0,none⟩=some (.slice a n cap)) (c1:w.cell? ⟨g,1,none⟩=some (.int .i64 i)) (c2:w.cell? ⟨g,2,none⟩=some (.int .i64 h))
  (f1:w.frozen? ⟨g,1,none⟩=false) (f2:w.frozen? ⟨g,2,none⟩=false) (hi:i <= n) (hn:n <= 1048576) (hb:Bytes g w a n) (h':Int) (m:Nat):bj ((w.setCell ⟨g,2,none⟩ (.int .i64 h')).drewN m) g :=
 ⟨a,n,cap,i,h',by rw [qV,fp (by omega),c0],by rw [qV,fp (by omega),c1],by rw [qV,mz c2],by rw [zy];simp [f1],by rw [zy];simp [f2],hi,hn,
  hb.but (((ab.refl g w).setCell _ _).drewN _)⟩
theorem GC {w:World} {g:Nat} (hc:bj w g) {a:Option Addr} {n cap i:Nat} (c0:w.cell? ⟨g,0,none⟩=some (.slice a n cap)) (c1:w.cell? ⟨g,1,none⟩=some (.int .i64 i)) (hi:i < n):bj (w.setCell ⟨g,1,none⟩ (.int .i64 ((i:Int)+1))) g:=by
 obtain ⟨a',n',cap',i',h,d0,d1,d2,f1,f2,_,hn,hb⟩:=hc
 rw [c0] at d0
 rw [c1] at d1
 simp only [Option.some.injEq,Value.slice.injEq,Value.int.injEq,true_and] at d0 d1
 obtain ⟨rfl,rfl,rfl⟩:=d0
 exact ⟨a,n,cap,i+1,h,by rw [fp (by omega),c0],by rw [mz c1];rfl,by rw [fp (by omega),d2],by simp [f1],by simp [f2],by omega,hn,hb.but ((ab.refl g w).setCell _ _)⟩
set_option maxHeartbeats 1000000 in
theorem GD (g:Nat) (w:World) (hc:bj w g) :
  Calls Tryz.prog 98 #[.pointer (some ⟨g,0,none⟩)] w fun e w'=>∃ x:Int,e = .returned (.int .i64 x) /\ 0 <= x /\ x <= 255 /\ bj w' g /\ ab g w w':=by
 obtain ⟨a,n,cap,i,h,c0,c1,c2,f1,f2,hi,hn,hb⟩:=hc
 by_cases hlt:i < n
 ·rcases hb with hb | ⟨b,off,rfl,hg,hb⟩
  ·omega
  obtain ⟨z,hz0,hz1,hcz⟩:=hb i hlt
  have hgn:g≠b:=by omega
  have GH:b≠g:=by omega
  have hlt':(i:Int) < (n:Int):=by omega
  go_enter Tryz.func98,Tryz.ntmps98
  go_wp2
  generalize wrap64 (wrap64 (h*6364136223846793005)+1442695040888963407)=h'
  go_quiet (fail)
  go_wp2
  simp only [vh]
  generalize bits BinOp.xor IntKind.i64 (h' / 8589934592) (h' / 35184372088832)=X
  have hx0:0 <= X % 256:=by omega
  have hx1:X % 256 <= 255:=by omega
  generalize X % 256=x at *
  go_quiet (fail)
  go_wp2
  go_quiet (fail)
  go_wp2
  simp only [vh]
  go_ret
  refine ⟨(x+z) % 256,rfl,by omega,by omega,GC (zQ c0 c1 c2 f1 f2 hi hn (.inr ⟨b,off,rfl,hg,hb⟩) _ _) (a:=some ⟨b,off,none⟩) (n:=n) (cap:=cap) ?_ ?_ hlt,(((ab.refl g w).setCell _ _).drewN _).setCell _ _⟩
  ·rw [qV,fp (by omega),c0]
  ·rw [qV,fp (by omega),c1]
 ·go_enter Tryz.func98,Tryz.ntmps98
  go_wp2
  generalize wrap64 (wrap64 (h*6364136223846793005)+1442695040888963407)=h'
  go_quiet (fail)
  go_wp2
  simp only [vh]
  generalize bits BinOp.xor IntKind.i64 (h' / 8589934592) (h' / 35184372088832)=X
  have hx0:0 <= X % 256:=by omega
  have hx1:X % 256 <= 255:=by omega
  generalize X % 256=x at *
  go_quiet (fail)
  go_wp2
  go_ret
  exact ⟨x,rfl,hx0,hx1,(zQ c0 c1 c2 f1 f2 hi hn hb _ _).drewN _,(((ab.refl g w).setCell _ _).drewN _).drewN _⟩
set_option maxHeartbeats 1000000 in
theorem cF (g:Nat) (n:Int) (w:World) (hc:bj w g) (h1:1 <= n) (h2:n <= 256) :
  Calls Tryz.prog 49 #[.pointer (some ⟨g,0,none⟩),.int .i64 n] w fun e w'=>∃ x:Int,e = .returned (.int .i64 x) /\ 0 <= x /\ x < n /\ bj w' g /\ ab g w w':=by
 go_enter Tryz.func49,Tryz.ntmps49
 go_wp2_with (go_at_call 98;refine (GD g _ hc).mono ?_;rintro e w1 ⟨x,rfl,hx0,hx1,hc1,k1⟩)
 go_ret
 exact ⟨x % n,rfl,Int.emod_nonneg _ (by omega),Int.emod_lt_of_pos _ (by omega),hc1,k1⟩
theorem mZ (g:Nat) (n:Int) (w:World) (hc:bj w g) (h1:1 <= n) (h2:n <= 256) :
  Calls Tryz.prog 57 #[.pointer (some ⟨g,0,none⟩),.int .i64 n] w fun e w'=>∃ x:Bool,e = .returned (.bool x) /\ bj w' g /\ ab g w w':=by
 go_enter Tryz.func57,Tryz.ntmps57
 go_wp2_with (go_at_call 49;refine (cF g _ _ hc ?_ ?_).mono ?_;omega;omega;rintro e w1 ⟨x,rfl,hx0,hx1,hc1,k1⟩)
 go_ret
 exact ⟨_,rfl,hc1,k1⟩
theorem GI (p:Int->Prop) (g b off cap:Nat) (zs:List Int) (w:World) (hc:bj w g) (hg:b≠g) (h1:1 <= zs.length) (h2:zs.length <= 256)
  (hz:∀ j,j < zs.length->w.cell? ⟨b,off+j,none⟩=some (.int .i64 (zs.getD j 0))) (hp:∀ z∈zs,p z) :
  Calls Tryz.prog 50 #[.pointer (some ⟨g,0,none⟩),.slice (some ⟨b,off,none⟩) zs.length cap] w fun e w'=>∃ x:Int,e = .returned (.int .i64 x) /\ p x /\ bj w' g /\ ab g w w':=by
 generalize hn:zs.length=n at *
 have Hn:Hid (zs.length=n):=hn
 clear hn
 go_enter Tryz.func50,Tryz.ntmps50
 go_wp2_with fail
 refine (cF g _ _ hc (by omega) (by omega)).mono ?_
 rintro e w1 ⟨x,rfl,hx0,hx1,hc1,k1⟩
 obtain ⟨j,rfl⟩:=Int.eq_ofNat_of_zero_le hx0
 have hj:j < n:=by omega
 have r:=ab.has hg (hz j hj) w1 k1
 generalize hv:zs.getD j 0=v at r
 have Hv:Hid (zs.getD j 0=v):=hv
 clear hv hz
 go_wp2
 go_ret
 refine ⟨v,rfl,?_,hc1,k1⟩
 rw [<- Hv.out]
 have hj':j < zs.length:=by rw [Hn.out];exact hj
 have e:zs.getD j 0=zs[j]:=by simp [hj']
 rw [e]
 exact hp _ (List.getElem_mem hj')
theorem bj.lt {w:World} {g:Nat} (h:bj w g):g < w.heap.size:=by
 obtain ⟨_,_,_,_,_,c0,_⟩:=h
 exact World.block_lt_of_cell? w _ c0
theorem bj.keeps {w w':World} {g:Nat} (h:bj w g) (k:aa w w'):bj w' g:=by
 have hl:=h.lt
 obtain ⟨a,n,cap,i,h,c0,c1,c2,f1,f2,hi,hn,hb⟩:=h
 exact ⟨a,n,cap,i,h,aa.has c0 _ k,aa.has c1 _ k,aa.has c2 _ k,(k.aM g 1 hl).trans f1,(k.aM g 2 hl).trans f2,hi,hn,hb.but (.of k)⟩
theorem bj.aH {w:World} {g:Nat} (h:bj w g) {b:Nat} (hb:g < b) (o:Nat) (v:Value):bj (w.setCell ⟨b,o,none⟩ v) g:=by
 obtain ⟨a,n,cap,i,h,c0,c1,c2,f1,f2,hi,hn,hB⟩:=h
 refine ⟨a,n,cap,i,h,by rw [fp (by omega),c0],by rw [fp (by omega),c1],by rw [fp (by omega),c2],by simp [f1],by simp [f2],hi,hn,?_⟩
 rcases hB with hB | ⟨b',off,rfl,hg,hB⟩
 ·exact .inl hB
 ·exact .inr ⟨b',off,rfl,hg,fun j hj=>by obtain ⟨z,h0,h1,hc⟩:=hB j hj;exact ⟨z,h0,h1,by rw [fp (by omega),hc]⟩⟩
theorem jb (p:Int->Prop) (g:Nat) (zs:List Int) (C:Array Value) (t:TypeId) (n cap B:Nat) (w:World) (hB:w.heap.size=B) (hc:bj w g) (hn:zs.length=n) (h1:1 <= n) (h2:n <= 256) (hC:C=(zs.map (Value.int .i64)).toArray) (hp:∀ z∈zs,p z) :
  Calls Tryz.prog 50 #[.pointer (some ⟨g,0,none⟩),.slice (some ⟨B,0,none⟩) n cap] (w.alloc (.cells C t)) fun e w'=>∃ x:Int,e = .returned (.int .i64 x) /\ p x /\ bj w' g /\ ab g w w':=by
 have hl:=hc.lt
 subst hC
 subst hn
 subst hB
 refine (GI p g w.heap.size 0 cap zs _ (hc.keeps ((aa.refl _).alloc _)) (by omega) h1 h2 ?_ hp).mono ?_
 ·intro j hj
  simp [go_sem,hj]
 ·rintro e w' ⟨x,rfl,hx,hc',k⟩
  exact ⟨x,rfl,hx,hc',((ab.refl g w).alloc _).trans k⟩
set_option maxHeartbeats 1000000 in
theorem GJ (a:Option Addr) (n cap:Nat) (w:World) (hn:n <= 1048576) (hb:∀ g,w.heap.size <= g->Bytes g w a n) :
  Calls Tryz.prog 21 #[.slice a n cap] w fun e w'=>∃ g,e = .returned (.pointer (some ⟨g,0,none⟩)) /\ w.heap.size <= g /\ bj w' g /\ aa w w':=by
 have hb0:=hb w.heap.size (Nat.le_refl _)
 have HB:Hid (Bytes w.heap.size w a n):=hb0
 clear hb
 go_enter Tryz.func21,Tryz.ntmps21
 go_wp2
 go_loop [3,4] (fun s i=>∃ k:Nat,k <= n /\ i = .int .i64 k /\ ∃ h:Int,s = .int .i64 h /\ 0 <= h /\ h <= 1073741823) (fun _ i=>n - (intOf i).toNat)
 case atStart=>exact ⟨0,Nat.zero_le _,rfl,_,rfl,by omega,by omega⟩
 case round =>
  obtain ⟨k,hk,rfl,h,rfl,h0,h1⟩:=hrel
  by_cases hlt:k < n
  ·rcases hb0 with hb0 | ⟨b,off,rfl,hg,hz⟩
   ·omega
   obtain ⟨z,hz0,hz1,hcz⟩:=hz k hlt
   have hlt':(k:Int) < (n:Int):=by omega
   by_cases h4:k < 4000
   ·have h4':(k:Int) < 4000:=by omega
    go_wp2
    simp only [GB]
    go_round
    case rel=>exact ⟨k+1,by omega,by go_num,_,rfl,by omega,by omega⟩
    case measure=>simp only [intOf];omega
   ·have hd:decide ((k:Int) < 4000)=false:=by simp;omega
    go_wp2
    go_ret
    exact ⟨w.heap.size,rfl,Nat.le_refl _,zP hn HB.out _,(aa.refl _).alloc _⟩
  ·have hd:decide ((k:Int) < (n:Int))=false:=by simp;omega
   go_wp2
   go_ret
   exact ⟨w.heap.size,rfl,Nat.le_refl _,zP hn HB.out _,(aa.refl _).alloc _⟩
theorem zR (a:Option Addr) (n cap:Nat) (w:World) (_hn:n <= maxLen) :
  Calls Tryz.prog 6 #[.slice a n cap] w fun e w'=>e = .returned (.bool (decide (1048576 < (n:Int)))) /\ w'=w:=by
 unfold maxLen at _hn
 go_enter Tryz.func6,Tryz.ntmps6
 go_wp2
 go_ret
 exact ⟨rfl,rfl⟩
def dY (t:ag):Bool:=aY t&&t.cls==3
def fO (a b:ag):Bool:=dY a&&dY b&&(decide (a.v < b.v)||a.v==b.v&&decide (a.no < b.no))
def lh (t:ag) (x:Int):ag:=if aF x 0 100000000 then { t with v:=x } else t
def nj (t:ag):ag:=if dY t then lh t (t.v+jZ t.nice) else t
def nk (t:ag) (floor:Int):ag:=if dY t then lh t (max t.v floor) else t
def oB (t:ag) (cpu fq dst:Int):Bool:=dY t&&aF cpu 0 3&&aF fq 0 100000000&&aF dst 0 100000000 && !decide (100000000 < dst+max (t.v - fq) 0)
def jf (t:ag) (cpu fq dst:Int):ag:=if oB t cpu fq dst then { t with cpu:=cpu,v:=dst+max (t.v - fq) 0 } else t
def eX (least:Int) (t:ag):Int:=if dY t&&(decide (least < 0)||decide (t.v < least)) then t.v else least
def sN (ts:List ag):Int:=ts.foldl eX (-1)
def lJ (ts:List ag) (floor:Int):Int:=if sN ts < 0 then floor else max floor (sN ts)
structure oC (t:ag):Prop where
 cls:t.cls=3
 no:1 <= t.no /\ t.no <= 1000
 cpu:0 <= t.cpu /\ t.cpu <= 3
 st:1 <= t.st /\ t.st <= 2
 nice : -4 <= t.nice /\ t.nice <= 4
 v:0 <= t.v /\ t.v <= 100000000
 none:t.q=0 /\ t.p=0 /\ t.left=0 /\ t.due=0 /\ t.prio=0 /\ t.round=0 /\ t.seq=0
theorem sO (t:ag):dY t=true↔oC t:=by
 constructor
 ·intro h
  simp only [dY,Bool.and_eq_true,beq_iff_eq] at h
  obtain ⟨h1,h2⟩:=h
  simp [aY,ie,gN,h2,eg,eB,dq] at h1
  obtain ⟨⟨⟨⟨hno,gi⟩,hst⟩,hz⟩,hn,hv⟩:=h1
  exact ⟨h2,by omega,by omega,by omega,by omega,by omega,by omega,by omega,by omega,by omega,by omega,by omega,by omega⟩
 ·rintro ⟨h2,hno,gi,hst,hn,hv,h0,h1,h3,h4,h5,h6,h7⟩
  simp [dY,aY,ie,gN,h2,eg,eB,dq,h0,h1,h3,h4,h5,h6,h7]
  omega
theorem GL (x:Int):0 <= jZ x /\ jZ x <= 48:=by
 unfold jZ
 repeat' split
 all_goals omega
theorem ER {ts:List ag}:∀ (a:Int),(∀ x∈ts,dY x=true->0 <= ts.foldl eX a /\ ts.foldl eX a <= x.v) /\ (0 <= a->0 <= ts.foldl eX a /\ ts.foldl eX a <= a):=by
 induction ts with
 | nil=>intro a;simp
 | cons y r ih =>
  intro a
  have step:(0 <= a->0 <= eX a y /\ eX a y <= a) /\ (dY y=true->0 <= eX a y /\ eX a y <= y.v):=by
   unfold eX
   cases hf:dY y
   ·simp only [Bool.false_and,Bool.false_eq_true,if_false]
    exact ⟨fun h=>⟨h,Int.le_refl _⟩,fun h=>by cases h⟩
   ·have hv:=((sO y).1 hf).v
    simp only [Bool.true_and,Bool.or_eq_true,decide_eq_true_eq]
    split <;> exact ⟨fun h=>by omega,fun h=>by omega⟩
  have h2:=ih (eX a y)
  simp only [List.foldl_cons]
  refine ⟨fun x hx hf => ?_,fun h => ?_⟩
  ·rcases List.mem_cons.1 hx with rfl | hx
   ·have h3:=step.2 hf
    have h4:=h2.2 h3.1
    omega
   ·exact h2.1 x hx hf
  ·have h3:=step.1 h
   have h4:=h2.2 h3.1
   omega
def bD {α:Type} (c:α->Array Value) (xs:List α):List Value:=xs.flatMap fun x=>(c x).toList
theorem tq {α:Type} (c:α->Array Value) (xs ys:List α):bD c (xs++ys)=bD c xs++bD c ys:=by simp [bD]
theorem iu {α:Type} {c:α->Array Value} {sz:Nat} (hc:∀ x,(c x).size=sz) (xs:List α):(bD c xs).length=xs.length*sz:=by
 induction xs with
 | nil=>simp [bD]
 | cons x r ih =>
  have e:bD c (x::r)=(c x).toList++bD c r:=rfl
  rw [e,List.length_append,ih,List.length_cons,Nat.add_mul,Nat.one_mul,Array.length_toList,hc,Nat.add_comm]
theorem np {α:Type} {c:α->Array Value} {sz:Nat} (hc:∀ x,(c x).size=sz):∀ (xs:List α) (i:Nat) (x:α),xs[i]?=some x->∀ k,k < sz->(bD c xs)[i*sz+k]?=(c x)[k]?
 | [],i,x,h,_,_=>by simp at h
 | y::r,0,x,h,k,hk=>by
  simp at h
  subst h
  have e:bD c (y::r)=(c y).toList++bD c r:=rfl
  rw [e,Nat.zero_mul,Nat.zero_add,List.getElem?_append_left (by simp [hc,hk])]
  simp
 | y::r,i+1,x,h,k,hk=>by
  have ih:=np hc r i x (by simpa using h) k hk
  have e:bD c (y::r)=(c y).toList++bD c r:=rfl
  rw [e,List.getElem?_append_right (by simp only [Array.length_toList,hc,Nat.add_mul,Nat.one_mul];omega),<- ih]
  congr 1
  simp only [Array.length_toList,hc,Nat.add_mul,Nat.one_mul]
  omega
theorem pL {α:Type} {c:α->Array Value} (h1:∀ x,∀ u∈(c x).toList,u.oneCell'=true) (xs:List α):∀ u∈bD c xs,u.oneCell'=true:=by
 intro u hu
 simp only [bD,List.mem_flatMap] at hu
 obtain ⟨x,_,hx⟩:=hu
 exact h1 x u hx
def Own {α:Type} (e:TypeId) (sz:Nat) (c:α->Array Value) (w:World) (base:Nat) (v:Value) (xs:List α):Prop:=w.ownsRow base e sz v xs.length (bD c xs)
theorem Own.new {α:Type} (e:TypeId) (sz:Nat) (c:α->Array Value) (w:World) {base:Nat} (hb:base <= w.heap.size):Own e sz c (w.alloc (.cells #[] e)) base (.slice (some ⟨w.heap.size,0,none⟩) 0 0) [] :=
 World.ownsRow_made w #[] 0 hb (by simp) (by simp)
theorem Own.keeps {α:Type} {e:TypeId} {sz:Nat} {c:α->Array Value} {w w':World} {base:Nat} {v:Value} {xs:List α} (h:Own e sz c w base v xs) (k:aa w w'):Own e sz c w' base v xs:=by
 obtain ⟨h1,h2⟩:=h
 refine ⟨h1,?_⟩
 rcases h2 with h2 | ⟨b,cap,cur,hv,hb,hh,r⟩
 ·exact .inl h2
 ·refine .inr ⟨b,cap,cur,hv,hb,?_,r⟩
  have hlt:b < w.heap.size:=by
   rcases Nat.lt_or_ge b w.heap.size with hlt | hge
   ·exact hlt
   ·rw [Array.getElem?_eq_none hge] at hh;cases hh
  rw [Below.block k b hlt];exact hh
theorem Own.alloc {α:Type} {e:TypeId} {sz:Nat} {c:α->Array Value} {w:World} {base:Nat} {v:Value} {xs:List α} (h:Own e sz c w base v xs) (o:Obj):Own e sz c (w.alloc o) base v xs:=h.keeps ((aa.refl w).alloc o)
theorem Own.base {α:Type} {e:TypeId} {sz:Nat} {c:α->Array Value} {w:World} {base base':Nat} {v:Value} {xs:List α} (h:Own e sz c w base v xs) (hb:base' <= base):Own e sz c w base' v xs:=by
 obtain ⟨h1,h2⟩:=h
 refine ⟨h1,?_⟩
 rcases h2 with h2 | ⟨b,cap,cur,hv,hg,r⟩
 ·exact .inl h2
 ·exact .inr ⟨b,cap,cur,hv,Nat.le_trans hb hg,r⟩
theorem Own.slice {α:Type} {e:TypeId} {sz:Nat} {c:α->Array Value} {w:World} {base:Nat} {v:Value} {xs:List α} (h:Own e sz c w base v xs) (hc:∀ x,(c x).size=sz) :
  ∃ a cap,v = .slice a xs.length cap /\ cH sz c w a xs /\ xs.length <= cap /\ cap <= maxLen:=by
 obtain ⟨_,⟨rfl,hn⟩ | ⟨b,cap,cur,rfl,hb,hh,hl,hm,hs,hx⟩⟩:=h
 ·have:xs=[]:=List.length_eq_zero_iff.1 hn
  subst this
  exact ⟨none,0,rfl,.inl rfl,by simp,by simp⟩
 ·have hlt:b < w.heap.size:=by
   rcases Nat.lt_or_ge b w.heap.size with hlt | hge
   ·exact hlt
   ·rw [Array.getElem?_eq_none hge] at hh;cases hh
  refine ⟨_,cap,rfl,.inr ⟨b,0,rfl,hlt,fun i x hx' k hk => ?_⟩,hl,hm⟩
  have hi:i < xs.length:=by
   rcases Nat.lt_or_ge i xs.length with h | h
   ·exact h
   ·simp [List.getElem?_eq_none h] at hx'
  have hj:i*sz+k < xs.length*sz:=by
   have h1:(i+1)*sz <= xs.length*sz:=Nat.mul_le_mul_right sz hi
   rw [Nat.add_mul,Nat.one_mul] at h1
   omega
  rw [Nat.zero_add,<- np hc xs i x hx' k hk,<- hx]
  simp [World.cell?,hh,hj]
theorem aa.grown {w a b:World} {row:Option Nat} (h:aa w a) (hg:a.grownBy b row) (hr:∀ k,row=some k->w.heap.size <= k):aa w b :=
 ⟨hg.os.trans h.os,hg.tape.trans h.tape,hg.output.trans h.output,Nat.le_trans h.size hg.size,fun k hk=>(hg.block k (Nat.lt_of_lt_of_le hk h.size) (fun e=>by have:=hr k e.symm;omega)).trans (h.block k hk)⟩
variable {P:Program}
theorem vi {α:Type} {w:World} {ops:Array Oper} {rest:List Oper} {o:Oper} {a:Act} {Q:Exit->Act->World->Prop} (hgd:o.guard=none) (s x:Operand) (t:TypeId)
  (ho:o.op = .call { callee := .builtin .append,args:=#[s,x],argTypes:=#[t,t] })
  (W0:World) (e:TypeId) (z:Value) (sz bytes:Nat) (c:α->Array Value) (ht:P.underlying t=some (.slice e)) (hinfo:(P.info? e).map (fun i=>(i.zero,i.size,i.bytes))=some (some z,sz,bytes))
  (hzs:z.cells.size=sz) (hsz:0 < sz) (hc:∀ x,(c x).size=sz) (h1:∀ x,∀ u∈(c x).toList,u.oneCell'=true)
  (v:Value) (xs:List α) (hs:a.eval s=v) (hown:Own e sz c w W0.heap.size v xs) (hk:aa W0 w)
  (b off cp:Nat) (ys:List α) (hx:a.eval x = .slice (some ⟨b,off,none⟩) ys.length cp) (hl:cH sz c w (some ⟨b,off,none⟩) ys)
  (h63:xs.length+ys.length <= maxLen) (hbytes:(xs.length+ys.length)*bytes <= 140737488355328)
  (h:∀ v' w',Own e sz c w' W0.heap.size v' (xs++ys)->aa W0 w'->(∀ k,k < w.heap.size->some k≠v.ownBlock->w'.heap[k]?=w.heap[k]?)->wpList P ops Q rest (a.put o.dst v') w'):wpList P ops Q (o::rest) a w:=by
 obtain ⟨i,hi,hzz⟩:=Option.map_eq_some_iff.1 hinfo
 simp only [Prod.mk.injEq] at hzz
 obtain ⟨hz0,hz1,hz2⟩:=hzz
 refine wpList_append_own _ hgd s x t ho W0.heap.size e i z sz bytes ht hi hz0 hz1 hz2 hzs hsz v xs.length (bD c xs) hs hown ⟨b,off,none⟩ ys.length cp (bD c ys) hx (iu hc ys) ?_ (pL h1 ys) h63 hbytes hk.size ?_
 ·intro j u hj
  have hjl:j < ys.length*sz:=by
   have:=iu hc ys
   rcases Nat.lt_or_ge j (ys.length*sz) with h | h
   ·exact h
   ·rw [List.getElem?_eq_none (by omega)] at hj;cases hj
  have hq:j / sz < ys.length:=Nat.div_lt_of_lt_mul (by rw [Nat.mul_comm];exact hjl)
  have hm:j % sz < sz:=Nat.mod_lt _ hsz
  have hjj:j / sz*sz+j % sz=j:=by rw [Nat.mul_comm];exact Nat.div_add_mod j sz
  have h2:=np hc ys (j / sz) ys[j / sz] (List.getElem?_eq_getElem hq) (j % sz) hm
  rw [hjj,hj] at h2
  rcases hl with hl | ⟨b',off',e',hb',hl⟩
  ·rw [hl] at hq;simp at hq
  ·simp only [Option.some.injEq,Addr.mk.injEq] at e'
   obtain ⟨rfl,rfl,-⟩:=e'
   have h3:=hl (j / sz) ys[j / sz] (List.getElem?_eq_getElem hq) (j % sz) hm
   have ea:(⟨b,off,none⟩:Addr).add j=⟨b,off+j,none⟩:=by unfold Addr.add;by_cases h:j=0 <;> simp [h]
   rw [ea,<- hjj,<- Nat.add_assoc,h3,<- h2]
 ·intro v' w' ho' hg _
  refine h v' w' ?_ (hk.grown hg fun k hk'=>(hown.lt k hk').1) hg.block
  unfold Own
  rw [tq,List.length_append]
  exact ho'
theorem iE {α:Type} {w:World} {ops:Array Oper} {rest:List Oper} {o:Oper} {a:Act} {Q:Exit->Act->World->Prop} (hgd:o.guard=none) (s x:Operand) (t:TypeId)
  (ho:o.op = .call { callee := .builtin .append,args:=#[s,x],argTypes:=#[t,t] })
  (W0:World) (e:TypeId) (z:Value) (sz bytes:Nat) (c:α->Array Value) (ht:P.underlying t=some (.slice e)) (hinfo:(P.info? e).map (fun i=>(i.zero,i.size,i.bytes))=some (some z,sz,bytes))
  (hzs:z.cells.size=sz) (hsz:0 < sz) (hc:∀ x,(c x).size=sz) (h1:∀ x,∀ u∈(c x).toList,u.oneCell'=true)
  (v:Value) (xs:List α) (hs:a.eval s=v) (wo:World) (hown:Own e sz c wo W0.heap.size v xs) (hk:aa W0 wo) (ko:aa wo w)
  (y:α) (b cp:Nat) (hb:ai w b (c y)) (hx:a.eval x = .slice (some ⟨b,0,none⟩) 1 cp)
  (h63:xs.length+1 <= maxLen) (hbytes:(xs.length+1)*bytes <= 140737488355328)
  (h:∀ v' w',Own e sz c w' W0.heap.size v' (xs++[y])->aa W0 w'->(∀ k,k < wo.heap.size->some k≠v.ownBlock->w'.heap[k]?=wo.heap[k]?)->wpList P ops Q rest (a.put o.dst v') w'):wpList P ops Q (o::rest) a w:=by
 refine vi hgd s x t ho W0 e z sz bytes c ht hinfo hzs hsz hc h1 v xs hs (hown.keeps ko) (hk.trans ko) b 0 cp [y] hx ?_ h63 hbytes (fun v' w' h2 h3 h4=>h v' w' h2 h3 fun k hk hne => ?_)
 ·refine .inr ⟨_,_,rfl,hb.lt,fun i x hx k hk => ?_⟩
  cases i with
  | zero=>simp at hx;subst hx;simpa using hb.cells k
  | succ i=>simp at hx
 ·rw [h4 k (Nat.lt_of_lt_of_le hk ko.size) hne]
  exact Below.block ko k hk
theorem Own.cE {α:Type} {e:TypeId} {sz:Nat} {c:α->Array Value} {g:Nat} {w w':World} {base:Nat} {v:Value} {xs:List α} (h:Own e sz c w base v xs) (k:ab g w w') (hg:g < base):Own e sz c w' base v xs:=by
 obtain ⟨h1,h2⟩:=h
 refine ⟨h1,?_⟩
 rcases h2 with h2 | ⟨b,cap,cur,hv,hb,hh,r⟩
 ·exact .inl h2
 ·refine .inr ⟨b,cap,cur,hv,hb,?_,r⟩
  have hlt:b < w.heap.size:=by
   rcases Nat.lt_or_ge b w.heap.size with hlt | hge
   ·exact hlt
   ·rw [Array.getElem?_eq_none hge] at hh;cases hh
  rw [k.block b hlt (by omega)];exact hh
theorem Own.some {α:Type} {e:TypeId} {sz:Nat} {c:α->Array Value} {w:World} {base:Nat} {v:Value} {xs:List α} (h:Own e sz c w base v xs) (hc:∀ x,(c x).size=sz) (hx:0 < xs.length) :
  ∃ b cap,v = .slice (Option.some ⟨b,0,none⟩) xs.length cap /\ cH sz c w (Option.some ⟨b,0,none⟩) xs /\ xs.length <= cap /\ cap <= maxLen:=by
 obtain ⟨a,cap,rfl,l,h1,h2⟩:=h.slice hc
 obtain ⟨_,⟨e,_⟩ | ⟨b,cp,cur,e,_⟩⟩:=h
 ·simp only [Value.slice.injEq] at e;omega
 ·simp only [Value.slice.injEq] at e
  obtain ⟨rfl,-,-⟩:=e
  exact ⟨b,cap,rfl,l,h1,h2⟩
theorem ab.grown {g:Nat} {w a b:World} {row:Option Nat} (h:ab g w a) (hg:a.grownBy b row) (hr:∀ k,row=some k->w.heap.size <= k):ab g w b :=
 ⟨hg.os.trans h.os,hg.tape.trans h.tape,hg.output.trans h.output,Nat.le_trans h.size hg.size,fun k hk hkg=>(hg.block k (Nat.lt_of_lt_of_le hk h.size) (fun e=>by have:=hr k e.symm;omega)).trans (h.block k hk hkg)⟩
theorem Bytes.same {g:Nat} {w w':World} {a:Option Addr} {n:Nat} (h:Bytes g w a n) (k:∀ i,i <= g->w'.heap[i]?=w.heap[i]?):Bytes g w' a n:=by
 rcases h with h | ⟨b,off,rfl,hg,h⟩
 ·exact .inl h
 ·exact .inr ⟨b,off,rfl,hg,fun j hj=>by obtain ⟨z,h0,h1,hc⟩:=h j hj;exact ⟨z,h0,h1,(World.cell?_of_block (w:=w) (k b (by omega))).trans hc⟩⟩
theorem bj.same {w w':World} {g:Nat} (h:bj w g) (k:∀ i,i <= g->w'.heap[i]?=w.heap[i]?):bj w' g:=by
 obtain ⟨a,n,cap,i,h,c0,c1,c2,f1,f2,hi,hn,hb⟩:=h
 have e:=k g (Nat.le_refl _)
 exact ⟨a,n,cap,i,h,(World.cell?_of_block (w:=w) e).trans c0,(World.cell?_of_block (w:=w) e).trans c1,(World.cell?_of_block (w:=w) e).trans c2,(World.frozen?_of_block (w:=w) e).trans f1,(World.frozen?_of_block (w:=w) e).trans f2,hi,hn,hb.same k⟩
theorem bj.grown {w w':World} {g:Nat} {row:Option Nat} (h:bj w g) (hg:w.grownBy w' row) (hr:∀ k,row=some k->g < k):bj w' g:=by
 have hl:=h.lt
 exact h.same fun i hi=>hg.block i (by omega) (fun e=>by have:=hr i e.symm;omega)
variable {P:Program}
theorem GM {α:Type} {w:World} {ops:Array Oper} {rest:List Oper} {o:Oper} {a:Act} {Q:Exit->Act->World->Prop} (hgd:o.guard=none) (s x:Operand) (t:TypeId)
  (ho:o.op = .call { callee := .builtin .append,args:=#[s,x],argTypes:=#[t,t] })
  (base:Nat) (e:TypeId) (z:Value) (sz bytes:Nat) (c:α->Array Value) (ht:P.underlying t=some (.slice e)) (hinfo:(P.info? e).map (fun i=>(i.zero,i.size,i.bytes))=some (some z,sz,bytes))
  (hzs:z.cells.size=sz) (hsz:0 < sz) (hc:∀ x,(c x).size=sz) (h1:∀ x,∀ u∈(c x).toList,u.oneCell'=true)
  (v:Value) (xs:List α) (hs:a.eval s=v) (hown:Own e sz c w base v xs) (hbase:base <= w.heap.size)
  (y:α) (b cp:Nat) (hb:ai w b (c y)) (hx:a.eval x = .slice (some ⟨b,0,none⟩) 1 cp)
  (h63:xs.length+1 <= maxLen) (hbytes:(xs.length+1)*bytes <= 140737488355328)
  (h:∀ v' w',Own e sz c w' base v' (xs++[y])->w.grownBy w' v.ownBlock->(∀ k,v.ownBlock=some k->base <= k)->wpList P ops Q rest (a.put o.dst v') w'):wpList P ops Q (o::rest) a w:=by
 obtain ⟨i,hi,hzz⟩:=Option.map_eq_some_iff.1 hinfo
 simp only [Prod.mk.injEq] at hzz
 obtain ⟨hz0,hz1,hz2⟩:=hzz
 have hfl:bD c [y]=(c y).toList:=by simp [bD]
 refine wpList_append_own _ hgd s x t ho base e i z sz bytes ht hi hz0 hz1 hz2 hzs hsz v xs.length (bD c xs) hs hown ⟨b,0,none⟩ 1 cp (bD c [y]) hx (by rw [hfl];simp [hc]) ?_ (pL h1 [y]) h63 hbytes hbase ?_
 ·intro j u hj
  rw [hfl] at hj
  have ea:(⟨b,0,none⟩:Addr).add j=⟨b,j,none⟩:=by unfold Addr.add;by_cases h:j=0 <;> simp [h]
  rw [ea,hb.cells]
  simpa using hj
 ·intro v' w' ho' hg _
  refine h v' w' ?_ hg (fun k hk'=>(hown.lt k hk').1)
  unfold Own
  rw [tq,List.length_append]
  exact ho'
abbrev putAt (w:World) (b o:Nat) (t:ag):World:=((((((((((((((w.setCell ⟨b,o,none⟩ (.int .i64 t.no)).setCell ⟨b,o+1,none⟩ (.int .i64 t.cls)).setCell ⟨b,o+2,none⟩ (.int .i64 t.cpu)).setCell ⟨b,o+3,none⟩ (.int .i64 t.st)).setCell ⟨b,o+4,none⟩ (.bool t.idle)).setCell ⟨b,o+5,none⟩ (.int .i64 t.q)).setCell ⟨b,o+6,none⟩ (.int .i64 t.p)).setCell ⟨b,o+7,none⟩ (.int .i64 t.left)).setCell ⟨b,o+8,none⟩ (.int .i64 t.due)).setCell ⟨b,o+9,none⟩ (.int .i64 t.prio)).setCell ⟨b,o+10,none⟩ (.int .i64 t.round)).setCell ⟨b,o+11,none⟩ (.int .i64 t.seq)).setCell ⟨b,o+12,none⟩ (.int .i64 t.nice)).setCell ⟨b,o+13,none⟩ (.int .i64 t.v))
theorem aa.putAt {a w:World} {b o:Nat} (h:aa a w) (hp:a.heap.size <= b) (t:ag):aa a (Go.Proofs.YteagpjlgjfaclaaGreatDoor.putAt w b o t):=(((((((((((((h.setCell hp _).setCell hp _).setCell hp _).setCell hp _).setCell hp _).setCell hp _).setCell hp _).setCell hp _).setCell hp _).setCell hp _).setCell hp _).setCell hp _).setCell hp _).setCell hp _
end Go.Proofs.YteagpjlgjfaclaaGreatDoor
