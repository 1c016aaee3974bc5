/-
  What is drawn: contracts of the model's cursor over a text'
  The greatest common divisor: contracts of the program's and
  A row of one's own that grows by append: elements of one si
  A row of one's own that grows beside a cursor that turns.
  copy of elements of whatever size into a row that is known
  A task is written over an element of a row.
  Parts of time: contracts of the functions that say which pa
  A region that draws its order and ends in one store for whi
  A region that draws its order and ends in several stores, o
  A part of time is right: the contract of the program's Shar
  What a heap's walk needs of every kind: loops of two rounds
  Rows of numbers: the laws' own helpers over them.
-/
import Derived.Test.YteagpjlgjfaclaaGreatDoorPlain1
import Derived.Deep.AppendLies
import Derived.Laws.OwnMore
import Derived.Laws.CopyOwn
import Derived.Test.YteagpjlgjfaclaaGreatDoorTaskBase
import Derived.Laws.ResultCell
import Derived.Deep.RegionHeld3
import Derived.Test.YteagpjlgjfaclaaGreatDoorBase
import Derived.Deep.RegionLaw
import Derived.BigRegion
namespace Go.Proofs.YteagpjlgjfaclaaGreatDoor
set_option maxRecDepth 100000
open Go.RowKit
theorem s5 (n:Int):bits .and .i64 n 255=n % 256:=by
 have h:(BitVec.ofInt 64 255).toNat=2 ^ 8 - 1:=by decide
 have key:(BitVec.ofInt 64 n &&& BitVec.ofInt 64 255).toNat=(n % ((2 ^ 64:Nat):Int)).toNat % 2 ^ 8:=by
  rw [BitVec.toNat_and,BitVec.toNat_ofInt,h,Nat.and_two_pow_sub_one_eq_mod]
 show IntKind.i64.wrap ((BitVec.ofInt 64 n &&& BitVec.ofInt 64 255).toNat:Nat)=n % 256
 rw [key,IntKind.wrap_i64]
 omega
theorem CX (n:Int):bits .and .i64 n 1073741823=n % 1073741824:=by
 have h:(BitVec.ofInt 64 1073741823).toNat=2 ^ 30 - 1:=by decide
 have key:(BitVec.ofInt 64 n &&& BitVec.ofInt 64 1073741823).toNat=(n % ((2 ^ 64:Nat):Int)).toNat % 2 ^ 30:=by
  rw [BitVec.toNat_and,BitVec.toNat_ofInt,h,Nat.and_two_pow_sub_one_eq_mod]
 show IntKind.i64.wrap ((BitVec.ofInt 64 n &&& BitVec.ofInt 64 1073741823).toNat:Nat)=n % 1073741824
 rw [key,IntKind.wrap_i64]
 omega
def Bytes (g:Nat) (w:World) (a:Option Addr) (n:Nat):Prop :=
 n=0∨∃ b off,a=some ⟨b,off,none⟩ /\ b < g /\ ∀ j,j < n->∃ z:Int,0 <= z /\ z <= 255 /\ w.cell? ⟨b,off+j,none⟩=some (.int .u8 z)
theorem Bytes.but {g:Nat} {w w':World} {a:Option Addr} {n:Nat} (h:Bytes g w a n) (k:ab g w w'):Bytes g w' a n:=by
 rcases h with h | ⟨b,off,rfl,hg,h⟩
 ·exact .inl h
 ·exact .inr ⟨b,off,rfl,hg,fun j hj=>by obtain ⟨z,h0,h1,hc⟩:=h j hj;exact ⟨z,h0,h1,ab.has (by omega) hc _ k⟩⟩
def bf (w:World) (g:Nat):Prop :=
 ∃ (a:Option Addr) (n cap i:Nat) (h:Int),w.cell? ⟨g,0,none⟩=some (.slice a n cap) /\ w.cell? ⟨g,1,none⟩=some (.int .i64 i) /\ w.cell? ⟨g,2,none⟩=some (.int .i64 h) /\
  w.frozen? ⟨g,1,none⟩=false /\ w.frozen? ⟨g,2,none⟩=false /\ i <= n /\ n <= 1048576 /\ Bytes g w a n
theorem pE (w:World) (n:Nat) (a:Addr):(w.drewN n).cell? a=w.cell? a:=rfl
theorem wq (w:World) (n:Nat) (a:Addr):(w.drewN n).frozen? a=w.frozen? a:=rfl
theorem Bytes.drewN {g:Nat} {w:World} {a:Option Addr} {n:Nat} (h:Bytes g w a n) (m:Nat):Bytes g (w.drewN m) a n:=h.but ((ab.refl g w).drewN m)
theorem bf.drewN {w:World} {g:Nat} (h:bf w g) (m:Nat):bf (w.drewN m) g:=by
 obtain ⟨a,n,cap,i,h,c0,c1,c2,f1,f2,hi,hn,hb⟩:=h
 exact ⟨a,n,cap,i,h,c0,c1,c2,f1,f2,hi,hn,hb.drewN m⟩
theorem wt {w:World} {a:Option Addr} {n cap:Nat} {h:Int} (hn:n <= 1048576) (hb:Bytes w.heap.size w a n) (t:TypeId):bf (w.alloc (.cells #[.slice a n cap,.int .i64 0,.int .i64 h] t)) w.heap.size :=
 ⟨a,n,cap,0,h,by simp [go_sem],by simp [go_sem],by simp [go_sem],by simp [go_sem],by simp [go_sem],Nat.zero_le _,hn,hb.but ((ab.refl _ w).alloc _)⟩
theorem wu {w:World} {g:Nat} {a:Option Addr} {n cap i:Nat} {h:Int} (c0:w.cell? ⟨g,0,none⟩=some (.slice a n cap)) (c1:w.cell? ⟨g,1,none⟩=some (.int .i64 i)) (c2:w.cell? ⟨g,2,none⟩=some (.int .i64 h))
  (f1:w.frozen? ⟨g,1,none⟩=false) (f2:w.frozen? ⟨g,2,none⟩=false) (hi:i <= n) (hn:n <= 1048576) (hb:Bytes g w a n) (h':Int) (m:Nat):bf ((w.setCell ⟨g,2,none⟩ (.int .i64 h')).drewN m) g :=
 ⟨a,n,cap,i,h',by rw [pE,fU (by omega),c0],by rw [pE,fU (by omega),c1],by rw [pE,mi c2],by rw [wq];simp [f1],by rw [wq];simp [f2],hi,hn,
  hb.but (((ab.refl g w).setCell _ _).drewN _)⟩
theorem CZ {w:World} {g:Nat} (hc:bf w g) {a:Option Addr} {n cap i:Nat} (c0:w.cell? ⟨g,0,none⟩=some (.slice a n cap)) (c1:w.cell? ⟨g,1,none⟩=some (.int .i64 i)) (hi:i < n):bf (w.setCell ⟨g,1,none⟩ (.int .i64 ((i:Int)+1))) g:=by
 obtain ⟨a',n',cap',i',h,d0,d1,d2,f1,f2,_,hn,hb⟩:=hc
 rw [c0] at d0
 rw [c1] at d1
 simp only [Option.some.injEq,Value.slice.injEq,Value.int.injEq,true_and] at d0 d1
 obtain ⟨rfl,rfl,rfl⟩:=d0
 exact ⟨a,n,cap,i+1,h,by rw [fU (by omega),c0],by rw [mi c1];rfl,by rw [fU (by omega),d2],by simp [f1],by simp [f2],by omega,hn,hb.but ((ab.refl g w).setCell _ _)⟩
set_option maxHeartbeats 1000000 in
theorem C7 (g:Nat) (w:World) (hc:bf w g) :
  Calls Tryz.prog 98 #[.pointer (some ⟨g,0,none⟩)] w fun e w'=>∃ x:Int,e = .returned (.int .i64 x) /\ 0 <= x /\ x <= 255 /\ bf w' g /\ ab g w w':=by
 obtain ⟨a,n,cap,i,h,c0,c1,c2,f1,f2,hi,hn,hb⟩:=hc
 by_cases hlt:i < n
 ·rcases hb with hb | ⟨b,off,rfl,hg,hb⟩
  ·omega
  obtain ⟨z,hz0,hz1,hcz⟩:=hb i hlt
  have hgn:g≠b:=by omega
  have C8:b≠g:=by omega
  have hlt':(i:Int) < (n:Int):=by omega
  go_enter Tryz.func98,Tryz.ntmps98
  go_wp2
  generalize wrap64 (wrap64 (h*6364136223846793005)+1442695040888963407)=h'
  go_quiet (fail)
  go_wp2
  simp only [s5]
  generalize bits BinOp.xor IntKind.i64 (h' / 8589934592) (h' / 35184372088832)=X
  have hx0:0 <= X % 256:=by omega
  have hx1:X % 256 <= 255:=by omega
  generalize X % 256=x at *
  go_quiet (fail)
  go_wp2
  go_quiet (fail)
  go_wp2
  simp only [s5]
  go_ret
  refine ⟨(x+z) % 256,rfl,by omega,by omega,CZ (wu c0 c1 c2 f1 f2 hi hn (.inr ⟨b,off,rfl,hg,hb⟩) _ _) (a:=some ⟨b,off,none⟩) (n:=n) (cap:=cap) ?_ ?_ hlt,(((ab.refl g w).setCell _ _).drewN _).setCell _ _⟩
  ·rw [pE,fU (by omega),c0]
  ·rw [pE,fU (by omega),c1]
 ·go_enter Tryz.func98,Tryz.ntmps98
  go_wp2
  generalize wrap64 (wrap64 (h*6364136223846793005)+1442695040888963407)=h'
  go_quiet (fail)
  go_wp2
  simp only [s5]
  generalize bits BinOp.xor IntKind.i64 (h' / 8589934592) (h' / 35184372088832)=X
  have hx0:0 <= X % 256:=by omega
  have hx1:X % 256 <= 255:=by omega
  generalize X % 256=x at *
  go_quiet (fail)
  go_wp2
  go_ret
  exact ⟨x,rfl,hx0,hx1,(wu c0 c1 c2 f1 f2 hi hn hb _ _).drewN _,(((ab.refl g w).setCell _ _).drewN _).drewN _⟩
set_option maxHeartbeats 1000000 in
theorem cl (g:Nat) (n:Int) (w:World) (hc:bf w g) (h1:1 <= n) (h2:n <= 256) :
  Calls Tryz.prog 49 #[.pointer (some ⟨g,0,none⟩),.int .i64 n] w fun e w'=>∃ x:Int,e = .returned (.int .i64 x) /\ 0 <= x /\ x < n /\ bf w' g /\ ab g w w':=by
 go_enter Tryz.func49,Tryz.ntmps49
 go_wp2_with (go_at_call 98;refine (C7 g _ hc).mono ?_;rintro e w1 ⟨x,rfl,hx0,hx1,hc1,k1⟩)
 go_ret
 exact ⟨x % n,rfl,Int.emod_nonneg _ (by omega),Int.emod_lt_of_pos _ (by omega),hc1,k1⟩
theorem lL (g:Nat) (n:Int) (w:World) (hc:bf w g) (h1:1 <= n) (h2:n <= 256) :
  Calls Tryz.prog 57 #[.pointer (some ⟨g,0,none⟩),.int .i64 n] w fun e w'=>∃ x:Bool,e = .returned (.bool x) /\ bf w' g /\ ab g w w':=by
 go_enter Tryz.func57,Tryz.ntmps57
 go_wp2_with (go_at_call 49;refine (cl g _ _ hc ?_ ?_).mono ?_;omega;omega;rintro e w1 ⟨x,rfl,hx0,hx1,hc1,k1⟩)
 go_ret
 exact ⟨_,rfl,hc1,k1⟩
theorem C9 (p:Int->Prop) (g b off cap:Nat) (zs:List Int) (w:World) (hc:bf w g) (hg:b≠g) (h1:1 <= zs.length) (h2:zs.length <= 256)
  (hz:∀ j,j < zs.length->w.cell? ⟨b,off+j,none⟩=some (.int .i64 (zs.getD j 0))) (hp:∀ z∈zs,p z) :
  Calls Tryz.prog 50 #[.pointer (some ⟨g,0,none⟩),.slice (some ⟨b,off,none⟩) zs.length cap] w fun e w'=>∃ x:Int,e = .returned (.int .i64 x) /\ p x /\ bf w' g /\ ab g w w':=by
 generalize hn:zs.length=n at *
 have Hn:Hid (zs.length=n):=hn
 clear hn
 go_enter Tryz.func50,Tryz.ntmps50
 go_wp2_with fail
 refine (cl g _ _ hc (by omega) (by omega)).mono ?_
 rintro e w1 ⟨x,rfl,hx0,hx1,hc1,k1⟩
 obtain ⟨j,rfl⟩:=Int.eq_ofNat_of_zero_le hx0
 have hj:j < n:=by omega
 have r:=ab.has hg (hz j hj) w1 k1
 generalize hv:zs.getD j 0=v at r
 have Hv:Hid (zs.getD j 0=v):=hv
 clear hv hz
 go_wp2
 go_ret
 refine ⟨v,rfl,?_,hc1,k1⟩
 rw [<- Hv.out]
 have hj':j < zs.length:=by rw [Hn.out];exact hj
 have e:zs.getD j 0=zs[j]:=by simp [hj']
 rw [e]
 exact hp _ (List.getElem_mem hj')
theorem bf.lt {w:World} {g:Nat} (h:bf w g):g < w.heap.size:=by
 obtain ⟨_,_,_,_,_,c0,_⟩:=h
 exact World.block_lt_of_cell? w _ c0
theorem bf.keeps {w w':World} {g:Nat} (h:bf w g) (k:aa w w'):bf w' g:=by
 have hl:=h.lt
 obtain ⟨a,n,cap,i,h,c0,c1,c2,f1,f2,hi,hn,hb⟩:=h
 exact ⟨a,n,cap,i,h,aa.has c0 _ k,aa.has c1 _ k,aa.has c2 _ k,(k.aO g 1 hl).trans f1,(k.aO g 2 hl).trans f2,hi,hn,hb.but (.of k)⟩
theorem bf.aI {w:World} {g:Nat} (h:bf w g) {b:Nat} (hb:g < b) (o:Nat) (v:Value):bf (w.setCell ⟨b,o,none⟩ v) g:=by
 obtain ⟨a,n,cap,i,h,c0,c1,c2,f1,f2,hi,hn,hB⟩:=h
 refine ⟨a,n,cap,i,h,by rw [fU (by omega),c0],by rw [fU (by omega),c1],by rw [fU (by omega),c2],by simp [f1],by simp [f2],hi,hn,?_⟩
 rcases hB with hB | ⟨b',off,rfl,hg,hB⟩
 ·exact .inl hB
 ·exact .inr ⟨b',off,rfl,hg,fun j hj=>by obtain ⟨z,h0,h1,hc⟩:=hB j hj;exact ⟨z,h0,h1,by rw [fU (by omega),hc]⟩⟩
theorem iu (p:Int->Prop) (g:Nat) (zs:List Int) (C:Array Value) (t:TypeId) (n cap B:Nat) (w:World) (hB:w.heap.size=B) (hc:bf w g) (hn:zs.length=n) (h1:1 <= n) (h2:n <= 256) (hC:C=(zs.map (Value.int .i64)).toArray) (hp:∀ z∈zs,p z) :
  Calls Tryz.prog 50 #[.pointer (some ⟨g,0,none⟩),.slice (some ⟨B,0,none⟩) n cap] (w.alloc (.cells C t)) fun e w'=>∃ x:Int,e = .returned (.int .i64 x) /\ p x /\ bf w' g /\ ab g w w':=by
 have hl:=hc.lt
 subst hC
 subst hn
 subst hB
 refine (C9 p g w.heap.size 0 cap zs _ (hc.keeps ((aa.refl _).alloc _)) (by omega) h1 h2 ?_ hp).mono ?_
 ·intro j hj
  simp [go_sem,hj]
 ·rintro e w' ⟨x,rfl,hx,hc',k⟩
  exact ⟨x,rfl,hx,hc',((ab.refl g w).alloc _).trans k⟩
set_option maxHeartbeats 1000000 in
theorem Da (a:Option Addr) (n cap:Nat) (w:World) (hn:n <= 1048576) (hb:∀ g,w.heap.size <= g->Bytes g w a n) :
  Calls Tryz.prog 21 #[.slice a n cap] w fun e w'=>∃ g,e = .returned (.pointer (some ⟨g,0,none⟩)) /\ w.heap.size <= g /\ bf w' g /\ aa w w':=by
 have hb0:=hb w.heap.size (Nat.le_refl _)
 have HB:Hid (Bytes w.heap.size w a n):=hb0
 clear hb
 go_enter Tryz.func21,Tryz.ntmps21
 go_wp2
 go_loop [3,4] (fun s i=>∃ k:Nat,k <= n /\ i = .int .i64 k /\ ∃ h:Int,s = .int .i64 h /\ 0 <= h /\ h <= 1073741823) (fun _ i=>n - (intOf i).toNat)
 case atStart=>exact ⟨0,Nat.zero_le _,rfl,_,rfl,by omega,by omega⟩
 case round =>
  obtain ⟨k,hk,rfl,h,rfl,h0,h1⟩:=hrel
  by_cases hlt:k < n
  ·rcases hb0 with hb0 | ⟨b,off,rfl,hg,hz⟩
   ·omega
   obtain ⟨z,hz0,hz1,hcz⟩:=hz k hlt
   have hlt':(k:Int) < (n:Int):=by omega
   by_cases h4:k < 4000
   ·have h4':(k:Int) < 4000:=by omega
    go_wp2
    simp only [CX]
    go_round
    case rel=>exact ⟨k+1,by omega,by go_num,_,rfl,by omega,by omega⟩
    case measure=>simp only [intOf];omega
   ·have hd:decide ((k:Int) < 4000)=false:=by simp;omega
    go_wp2
    go_ret
    exact ⟨w.heap.size,rfl,Nat.le_refl _,wt hn HB.out _,(aa.refl _).alloc _⟩
  ·have hd:decide ((k:Int) < (n:Int))=false:=by simp;omega
   go_wp2
   go_ret
   exact ⟨w.heap.size,rfl,Nat.le_refl _,wt hn HB.out _,(aa.refl _).alloc _⟩
theorem wv (a:Option Addr) (n cap:Nat) (w:World) (_hn:n <= maxLen) :
  Calls Tryz.prog 6 #[.slice a n cap] w fun e w'=>e = .returned (.bool (decide (1048576 < (n:Int)))) /\ w'=w:=by
 unfold maxLen at _hn
 go_enter Tryz.func6,Tryz.ntmps6
 go_wp2
 go_ret
 exact ⟨rfl,rfl⟩
theorem wD (x y:Nat):Nat.gcd y (x % y)=Nat.gcd x y:=by
 rw [Nat.gcd_comm x y,Nat.gcd_rec y x,Nat.gcd_comm]
set_option maxHeartbeats 400000 in
theorem Dc (a b:Nat) (w:World) (ha:a <= 9223372036854775807) (hb:b <= 9223372036854775807) :
  Calls Tryz.prog 112 #[.int .i64 a,.int .i64 b] w fun e w'=>e = .returned (.int .i64 (Nat.gcd a b)) /\ Quiet w w':=by
 go_enter Tryz.func112,Tryz.ntmps112
 go_wp2
 go_loopw [0,1] (fun s t wr=>∃ x y:Nat,x <= 9223372036854775807 /\ y <= 9223372036854775807 /\ s = .int .i64 x /\ t = .int .i64 y /\ Hid (Nat.gcd x y=Nat.gcd a b) /\ Quiet w wr) (fun _ t _=>(intOf t).toNat)
 case atStart=>exact ⟨a,b,ha,hb,rfl,rfl,rfl,Quiet.refl _⟩
 case round =>
  obtain ⟨x,y,hx,hy,rfl,rfl,hg,hq⟩:=hrel
  by_cases h0:0 < y
  ·have h1:x % y < y:=Nat.mod_lt _ h0
   have hn:((y:Int) != 0)=true:=by rw [bne_iff_ne];omega
   go_wp2
   go_quiet (fail)
   go_wp2
   go_roundw
   case rel=>exact ⟨y,x % y,hy,by omega,rfl,rfl,(wD x y).trans hg.out,hq.drewN _⟩
   case measure=>simp only [intOf];omega
  ·have h2:y=0:=by omega
   subst h2
   go_wp2
   go_ret
   exact ⟨by rw [<- hg.out];simp,hq⟩
set_option maxHeartbeats 400000 in
theorem Dd (a b:Nat) (w:World) (ha:a <= 9223372036854775807) (hb:b <= 9223372036854775807) :
  Calls Tryz.prog 185 #[.int .i64 a,.int .i64 b] w fun e w'=>e = .returned (.int .i64 (Nat.gcd a b)) /\ Quiet w w':=by
 go_enter Tryz.func185,Tryz.ntmps185
 go_wp2
 go_loopw [0,1] (fun s t wr=>∃ x y:Nat,x <= 9223372036854775807 /\ y <= 9223372036854775807 /\ s = .int .i64 x /\ t = .int .i64 y /\ Hid (Nat.gcd x y=Nat.gcd a b) /\ Quiet w wr) (fun _ t _=>(intOf t).toNat)
 case atStart=>exact ⟨a,b,ha,hb,rfl,rfl,rfl,Quiet.refl _⟩
 case round =>
  obtain ⟨x,y,hx,hy,rfl,rfl,hg,hq⟩:=hrel
  by_cases h0:0 < y
  ·have h1:x % y < y:=Nat.mod_lt _ h0
   have hn:((y:Int) != 0)=true:=by rw [bne_iff_ne];omega
   go_wp2
   go_quiet (fail)
   go_wp2
   go_roundw
   case rel=>exact ⟨y,x % y,hy,by omega,rfl,rfl,(wD x y).trans hg.out,hq.drewN _⟩
   case measure=>simp only [intOf];omega
  ·have h2:y=0:=by omega
   subst h2
   go_wp2
   go_ret
   exact ⟨by rw [<- hg.out];simp,hq⟩
theorem vu (a b:Int) (w:World) :
  Calls Tryz.prog 56 #[.int .i64 a,.int .i64 b] w fun e w'=>e = .returned (.int .i64 (max a b)) /\ w'=w:=by
 by_cases h0:b < a
 ·have Hr:Hid (max a b=a):=by show _=_;omega
  go_enter Tryz.func56,Tryz.ntmps56
  go_wp2
  go_ret
  exact ⟨by rw [Hr.out];rfl,rfl⟩
 ·have Hr:Hid (max a b=b):=by show _=_;omega
  go_enter Tryz.func56,Tryz.ntmps56
  go_wp2
  go_ret
  exact ⟨by rw [Hr.out];rfl,rfl⟩
def aV {α:Type} (c:α->Array Value) (xs:List α):List Value:=xs.flatMap fun x=>(c x).toList
theorem oc {α:Type} (c:α->Array Value) (xs ys:List α):aV c (xs++ys)=aV c xs++aV c ys:=by simp [aV]
theorem fG {α:Type} {c:α->Array Value} {sz:Nat} (hc:∀ x,(c x).size=sz) (xs:List α):(aV c xs).length=xs.length*sz:=by
 induction xs with
 | nil=>simp [aV]
 | cons x r ih =>
  have e:aV c (x::r)=(c x).toList++aV c r:=rfl
  rw [e,List.length_append,ih,List.length_cons,Nat.add_mul,Nat.one_mul,Array.length_toList,hc,Nat.add_comm]
theorem qc6 {α:Type} {c:α->Array Value} {sz:Nat} (hc:∀ x,(c x).size=sz):∀ (xs:List α) (i:Nat) (x:α),xs[i]?=some x->∀ k,k < sz->(aV c xs)[i*sz+k]?=(c x)[k]?
 | [],i,x,h,_,_=>by simp at h
 | y::r,0,x,h,k,hk=>by
  simp at h
  subst h
  have e:aV c (y::r)=(c y).toList++aV c r:=rfl
  rw [e,Nat.zero_mul,Nat.zero_add,List.getElem?_append_left (by simp [hc,hk])]
  simp
 | y::r,i+1,x,h,k,hk=>by
  have ih:=qc6 hc r i x (by simpa using h) k hk
  have e:aV c (y::r)=(c y).toList++aV c r:=rfl
  rw [e,List.getElem?_append_right (by simp only [Array.length_toList,hc,Nat.add_mul,Nat.one_mul];omega),<- ih]
  congr 1
  simp only [Array.length_toList,hc,Nat.add_mul,Nat.one_mul]
  omega
theorem od {α:Type} {c:α->Array Value} (h1:∀ x,∀ u∈(c x).toList,u.oneCell'=true) (xs:List α):∀ u∈aV c xs,u.oneCell'=true:=by
 intro u hu
 simp only [aV,List.mem_flatMap] at hu
 obtain ⟨x,_,hx⟩:=hu
 exact h1 x u hx
def Own {α:Type} (e:TypeId) (sz:Nat) (c:α->Array Value) (w:World) (base:Nat) (v:Value) (xs:List α):Prop:=w.ownsRow base e sz v xs.length (aV c xs)
theorem Own.new {α:Type} (e:TypeId) (sz:Nat) (c:α->Array Value) (w:World) {base:Nat} (hb:base <= w.heap.size):Own e sz c (w.alloc (.cells #[] e)) base (.slice (some ⟨w.heap.size,0,none⟩) 0 0) [] :=
 World.ownsRow_made w #[] 0 hb (by simp) (by simp)
theorem Own.keeps {α:Type} {e:TypeId} {sz:Nat} {c:α->Array Value} {w w':World} {base:Nat} {v:Value} {xs:List α} (h:Own e sz c w base v xs) (k:aa w w'):Own e sz c w' base v xs:=by
 obtain ⟨h1,h2⟩:=h
 refine ⟨h1,?_⟩
 rcases h2 with h2 | ⟨b,cap,cur,hv,hb,hh,r⟩
 ·exact .inl h2
 ·refine .inr ⟨b,cap,cur,hv,hb,?_,r⟩
  have hlt:b < w.heap.size:=by
   rcases Nat.lt_or_ge b w.heap.size with hlt | hge
   ·exact hlt
   ·rw [Array.getElem?_eq_none hge] at hh;cases hh
  rw [Below.block k b hlt];exact hh
theorem Own.alloc {α:Type} {e:TypeId} {sz:Nat} {c:α->Array Value} {w:World} {base:Nat} {v:Value} {xs:List α} (h:Own e sz c w base v xs) (o:Obj):Own e sz c (w.alloc o) base v xs:=h.keeps ((aa.refl w).alloc o)
theorem Own.base {α:Type} {e:TypeId} {sz:Nat} {c:α->Array Value} {w:World} {base base':Nat} {v:Value} {xs:List α} (h:Own e sz c w base v xs) (hb:base' <= base):Own e sz c w base' v xs:=by
 obtain ⟨h1,h2⟩:=h
 refine ⟨h1,?_⟩
 rcases h2 with h2 | ⟨b,cap,cur,hv,hg,r⟩
 ·exact .inl h2
 ·exact .inr ⟨b,cap,cur,hv,Nat.le_trans hb hg,r⟩
theorem Own.slice {α:Type} {e:TypeId} {sz:Nat} {c:α->Array Value} {w:World} {base:Nat} {v:Value} {xs:List α} (h:Own e sz c w base v xs) (hc:∀ x,(c x).size=sz) :
  ∃ a cap,v = .slice a xs.length cap /\ cm sz c w a xs /\ xs.length <= cap /\ cap <= maxLen:=by
 obtain ⟨_,⟨rfl,hn⟩ | ⟨b,cap,cur,rfl,hb,hh,hl,hm,hs,hx⟩⟩:=h
 ·have:xs=[]:=List.length_eq_zero_iff.1 hn
  subst this
  exact ⟨none,0,rfl,.inl rfl,by simp,by simp⟩
 ·have hlt:b < w.heap.size:=by
   rcases Nat.lt_or_ge b w.heap.size with hlt | hge
   ·exact hlt
   ·rw [Array.getElem?_eq_none hge] at hh;cases hh
  refine ⟨_,cap,rfl,.inr ⟨b,0,rfl,hlt,fun i x hx' k hk => ?_⟩,hl,hm⟩
  have hi:i < xs.length:=by
   rcases Nat.lt_or_ge i xs.length with h | h
   ·exact h
   ·simp [List.getElem?_eq_none h] at hx'
  have hj:i*sz+k < xs.length*sz:=by
   have h1:(i+1)*sz <= xs.length*sz:=Nat.mul_le_mul_right sz hi
   rw [Nat.add_mul,Nat.one_mul] at h1
   omega
  rw [Nat.zero_add,<- qc6 hc xs i x hx' k hk,<- hx]
  simp [World.cell?,hh,hj]
theorem aa.grown {w a b:World} {row:Option Nat} (h:aa w a) (hg:a.grownBy b row) (hr:∀ k,row=some k->w.heap.size <= k):aa w b :=
 ⟨hg.os.trans h.os,hg.tape.trans h.tape,hg.output.trans h.output,Nat.le_trans h.size hg.size,fun k hk=>(hg.block k (Nat.lt_of_lt_of_le hk h.size) (fun e=>by have:=hr k e.symm;omega)).trans (h.block k hk)⟩
variable {P:Program}
theorem s7 {α:Type} {w:World} {ops:Array Oper} {rest:List Oper} {o:Oper} {a:Act} {Q:Exit->Act->World->Prop} (hgd:o.guard=none) (s x:Operand) (t:TypeId)
  (ho:o.op = .call { callee := .builtin .append,args:=#[s,x],argTypes:=#[t,t] })
  (W0:World) (e:TypeId) (z:Value) (sz bytes:Nat) (c:α->Array Value) (ht:P.underlying t=some (.slice e)) (hinfo:(P.info? e).map (fun i=>(i.zero,i.size,i.bytes))=some (some z,sz,bytes))
  (hzs:z.cells.size=sz) (hsz:0 < sz) (hc:∀ x,(c x).size=sz) (h1:∀ x,∀ u∈(c x).toList,u.oneCell'=true)
  (v:Value) (xs:List α) (hs:a.eval s=v) (hown:Own e sz c w W0.heap.size v xs) (hk:aa W0 w)
  (b off cp:Nat) (ys:List α) (hx:a.eval x = .slice (some ⟨b,off,none⟩) ys.length cp) (hl:cm sz c w (some ⟨b,off,none⟩) ys)
  (h63:xs.length+ys.length <= maxLen) (hbytes:(xs.length+ys.length)*bytes <= 140737488355328)
  (h:∀ v' w',Own e sz c w' W0.heap.size v' (xs++ys)->aa W0 w'->(∀ k,k < w.heap.size->some k≠v.ownBlock->w'.heap[k]?=w.heap[k]?)->wpList P ops Q rest (a.put o.dst v') w'):wpList P ops Q (o::rest) a w:=by
 obtain ⟨i,hi,hzz⟩:=Option.map_eq_some_iff.1 hinfo
 simp only [Prod.mk.injEq] at hzz
 obtain ⟨hz0,hz1,hz2⟩:=hzz
 refine wpList_append_own _ hgd s x t ho W0.heap.size e i z sz bytes ht hi hz0 hz1 hz2 hzs hsz v xs.length (aV c xs) hs hown ⟨b,off,none⟩ ys.length cp (aV c ys) hx (fG hc ys) ?_ (od h1 ys) h63 hbytes hk.size ?_
 ·intro j u hj
  have hjl:j < ys.length*sz:=by
   have:=fG hc ys
   rcases Nat.lt_or_ge j (ys.length*sz) with h | h
   ·exact h
   ·rw [List.getElem?_eq_none (by omega)] at hj;cases hj
  have hq:j / sz < ys.length:=Nat.div_lt_of_lt_mul (by rw [Nat.mul_comm];exact hjl)
  have hm:j % sz < sz:=Nat.mod_lt _ hsz
  have hjj:j / sz*sz+j % sz=j:=by rw [Nat.mul_comm];exact Nat.div_add_mod j sz
  have h2:=qc6 hc ys (j / sz) ys[j / sz] (List.getElem?_eq_getElem hq) (j % sz) hm
  rw [hjj,hj] at h2
  rcases hl with hl | ⟨b',off',e',hb',hl⟩
  ·rw [hl] at hq;simp at hq
  ·simp only [Option.some.injEq,Addr.mk.injEq] at e'
   obtain ⟨rfl,rfl,-⟩:=e'
   have h3:=hl (j / sz) ys[j / sz] (List.getElem?_eq_getElem hq) (j % sz) hm
   have ea:(⟨b,off,none⟩:Addr).add j=⟨b,off+j,none⟩:=by unfold Addr.add;by_cases h:j=0 <;> simp [h]
   rw [ea,<- hjj,<- Nat.add_assoc,h3,<- h2]
 ·intro v' w' ho' hg _
  refine h v' w' ?_ (hk.grown hg fun k hk'=>(hown.lt k hk').1) hg.block
  unfold Own
  rw [oc,List.length_append]
  exact ho'
theorem ib {α:Type} {w:World} {ops:Array Oper} {rest:List Oper} {o:Oper} {a:Act} {Q:Exit->Act->World->Prop} (hgd:o.guard=none) (s x:Operand) (t:TypeId)
  (ho:o.op = .call { callee := .builtin .append,args:=#[s,x],argTypes:=#[t,t] })
  (W0:World) (e:TypeId) (z:Value) (sz bytes:Nat) (c:α->Array Value) (ht:P.underlying t=some (.slice e)) (hinfo:(P.info? e).map (fun i=>(i.zero,i.size,i.bytes))=some (some z,sz,bytes))
  (hzs:z.cells.size=sz) (hsz:0 < sz) (hc:∀ x,(c x).size=sz) (h1:∀ x,∀ u∈(c x).toList,u.oneCell'=true)
  (v:Value) (xs:List α) (hs:a.eval s=v) (wo:World) (hown:Own e sz c wo W0.heap.size v xs) (hk:aa W0 wo) (ko:aa wo w)
  (y:α) (b cp:Nat) (hb:aq w b (c y)) (hx:a.eval x = .slice (some ⟨b,0,none⟩) 1 cp)
  (h63:xs.length+1 <= maxLen) (hbytes:(xs.length+1)*bytes <= 140737488355328)
  (h:∀ v' w',Own e sz c w' W0.heap.size v' (xs++[y])->aa W0 w'->(∀ k,k < wo.heap.size->some k≠v.ownBlock->w'.heap[k]?=wo.heap[k]?)->wpList P ops Q rest (a.put o.dst v') w'):wpList P ops Q (o::rest) a w:=by
 refine s7 hgd s x t ho W0 e z sz bytes c ht hinfo hzs hsz hc h1 v xs hs (hown.keeps ko) (hk.trans ko) b 0 cp [y] hx ?_ h63 hbytes (fun v' w' h2 h3 h4=>h v' w' h2 h3 fun k hk hne => ?_)
 ·refine .inr ⟨_,_,rfl,hb.lt,fun i x hx k hk => ?_⟩
  cases i with
  | zero=>simp at hx;subst hx;simpa using hb.cells k
  | succ i=>simp at hx
 ·rw [h4 k (Nat.lt_of_lt_of_le hk ko.size) hne]
  exact Below.block ko k hk
theorem Own.cy {α:Type} {e:TypeId} {sz:Nat} {c:α->Array Value} {g:Nat} {w w':World} {base:Nat} {v:Value} {xs:List α} (h:Own e sz c w base v xs) (k:ab g w w') (hg:g < base):Own e sz c w' base v xs:=by
 obtain ⟨h1,h2⟩:=h
 refine ⟨h1,?_⟩
 rcases h2 with h2 | ⟨b,cap,cur,hv,hb,hh,r⟩
 ·exact .inl h2
 ·refine .inr ⟨b,cap,cur,hv,hb,?_,r⟩
  have hlt:b < w.heap.size:=by
   rcases Nat.lt_or_ge b w.heap.size with hlt | hge
   ·exact hlt
   ·rw [Array.getElem?_eq_none hge] at hh;cases hh
  rw [k.block b hlt (by omega)];exact hh
theorem Own.some {α:Type} {e:TypeId} {sz:Nat} {c:α->Array Value} {w:World} {base:Nat} {v:Value} {xs:List α} (h:Own e sz c w base v xs) (hc:∀ x,(c x).size=sz) (hx:0 < xs.length) :
  ∃ b cap,v = .slice (Option.some ⟨b,0,none⟩) xs.length cap /\ cm sz c w (Option.some ⟨b,0,none⟩) xs /\ xs.length <= cap /\ cap <= maxLen:=by
 obtain ⟨a,cap,rfl,l,h1,h2⟩:=h.slice hc
 obtain ⟨_,⟨e,_⟩ | ⟨b,cp,cur,e,_⟩⟩:=h
 ·simp only [Value.slice.injEq] at e;omega
 ·simp only [Value.slice.injEq] at e
  obtain ⟨rfl,-,-⟩:=e
  exact ⟨b,cap,rfl,l,h1,h2⟩
theorem ab.grown {g:Nat} {w a b:World} {row:Option Nat} (h:ab g w a) (hg:a.grownBy b row) (hr:∀ k,row=some k->w.heap.size <= k):ab g w b :=
 ⟨hg.os.trans h.os,hg.tape.trans h.tape,hg.output.trans h.output,Nat.le_trans h.size hg.size,fun k hk hkg=>(hg.block k (Nat.lt_of_lt_of_le hk h.size) (fun e=>by have:=hr k e.symm;omega)).trans (h.block k hk hkg)⟩
theorem Bytes.same {g:Nat} {w w':World} {a:Option Addr} {n:Nat} (h:Bytes g w a n) (k:∀ i,i <= g->w'.heap[i]?=w.heap[i]?):Bytes g w' a n:=by
 rcases h with h | ⟨b,off,rfl,hg,h⟩
 ·exact .inl h
 ·exact .inr ⟨b,off,rfl,hg,fun j hj=>by obtain ⟨z,h0,h1,hc⟩:=h j hj;exact ⟨z,h0,h1,(World.cell?_of_block (w:=w) (k b (by omega))).trans hc⟩⟩
theorem bf.same {w w':World} {g:Nat} (h:bf w g) (k:∀ i,i <= g->w'.heap[i]?=w.heap[i]?):bf w' g:=by
 obtain ⟨a,n,cap,i,h,c0,c1,c2,f1,f2,hi,hn,hb⟩:=h
 have e:=k g (Nat.le_refl _)
 exact ⟨a,n,cap,i,h,(World.cell?_of_block (w:=w) e).trans c0,(World.cell?_of_block (w:=w) e).trans c1,(World.cell?_of_block (w:=w) e).trans c2,(World.frozen?_of_block (w:=w) e).trans f1,(World.frozen?_of_block (w:=w) e).trans f2,hi,hn,hb.same k⟩
theorem bf.grown {w w':World} {g:Nat} {row:Option Nat} (h:bf w g) (hg:w.grownBy w' row) (hr:∀ k,row=some k->g < k):bf w' g:=by
 have hl:=h.lt
 exact h.same fun i hi=>hg.block i (by omega) (fun e=>by have:=hr i e.symm;omega)
variable {P:Program}
theorem De {α:Type} {w:World} {ops:Array Oper} {rest:List Oper} {o:Oper} {a:Act} {Q:Exit->Act->World->Prop} (hgd:o.guard=none) (s x:Operand) (t:TypeId)
  (ho:o.op = .call { callee := .builtin .append,args:=#[s,x],argTypes:=#[t,t] })
  (base:Nat) (e:TypeId) (z:Value) (sz bytes:Nat) (c:α->Array Value) (ht:P.underlying t=some (.slice e)) (hinfo:(P.info? e).map (fun i=>(i.zero,i.size,i.bytes))=some (some z,sz,bytes))
  (hzs:z.cells.size=sz) (hsz:0 < sz) (hc:∀ x,(c x).size=sz) (h1:∀ x,∀ u∈(c x).toList,u.oneCell'=true)
  (v:Value) (xs:List α) (hs:a.eval s=v) (hown:Own e sz c w base v xs) (hbase:base <= w.heap.size)
  (y:α) (b cp:Nat) (hb:aq w b (c y)) (hx:a.eval x = .slice (some ⟨b,0,none⟩) 1 cp)
  (h63:xs.length+1 <= maxLen) (hbytes:(xs.length+1)*bytes <= 140737488355328)
  (h:∀ v' w',Own e sz c w' base v' (xs++[y])->w.grownBy w' v.ownBlock->(∀ k,v.ownBlock=some k->base <= k)->wpList P ops Q rest (a.put o.dst v') w'):wpList P ops Q (o::rest) a w:=by
 obtain ⟨i,hi,hzz⟩:=Option.map_eq_some_iff.1 hinfo
 simp only [Prod.mk.injEq] at hzz
 obtain ⟨hz0,hz1,hz2⟩:=hzz
 have hfl:aV c [y]=(c y).toList:=by simp [aV]
 refine wpList_append_own _ hgd s x t ho base e i z sz bytes ht hi hz0 hz1 hz2 hzs hsz v xs.length (aV c xs) hs hown ⟨b,0,none⟩ 1 cp (aV c [y]) hx (by rw [hfl];simp [hc]) ?_ (od h1 [y]) h63 hbytes hbase ?_
 ·intro j u hj
  rw [hfl] at hj
  have ea:(⟨b,0,none⟩:Addr).add j=⟨b,j,none⟩:=by unfold Addr.add;by_cases h:j=0 <;> simp [h]
  rw [ea,hb.cells]
  simpa using hj
 ·intro v' w' ho' hg _
  refine h v' w' ?_ hg (fun k hk'=>(hown.lt k hk').1)
  unfold Own
  rw [oc,List.length_append]
  exact ho'
def Row (w:World) (g:Nat) (t:TypeId) (C:Array Value):Prop:=w.heap[g]?=some (.cells C t (0,0))
theorem Row.lt {w:World} {g:Nat} {t:TypeId} {C:Array Value} (h:Row w g t C):g < w.heap.size:=by
 rcases Nat.lt_or_ge g w.heap.size with hlt | hge
 ·exact hlt
 ·unfold Row at h;rw [Array.getElem?_eq_none hge] at h;cases h
theorem Row.keeps {w w':World} {g:Nat} {t:TypeId} {C:Array Value} (h:Row w g t C) (k:aa w w'):Row w' g t C:=(Below.block k g h.lt).trans h
theorem Row.new (w:World) (C:Array Value) (t:TypeId):Row (w.alloc (.cells C t)) w.heap.size t C:=by
 show (w.heap.push (.cells C t))[w.heap.size]?=_
 simp
theorem Row.cell {w:World} {g:Nat} {t:TypeId} {C:Array Value} (h:Row w g t C) (i:Nat):w.cell? ⟨g,i,none⟩=C[i]?:=by
 have h':w.heap[g]?=some (.cells C t (0,0)):=h
 by_cases hi:i < C.size
 ·simp [World.cell?,h',hi]
 ·simp [World.cell?,h',hi]
theorem Row.frozen {w:World} {g:Nat} {t:TypeId} {C:Array Value} (h:Row w g t C) (i:Nat):w.frozen? ⟨g,i,none⟩=false:=by
 have h':w.heap[g]?=some (.cells C t (0,0)):=h
 simp [World.frozen?,h']
theorem Row.setRow {w:World} {g:Nat} {t:TypeId} {C:Array Value} (h:Row w g t C) (D:Array Value):Row (w.setRow g D) g t D:=setRow_heap w g C D t _ h
theorem aa.setRow {w0 w:World} {g:Nat} (h:aa w0 w) (hg:w0.heap.size <= g) (D:Array Value):aa w0 (w.setRow g D):=below_setRow h hg D
theorem Df (L:List Value) (C:Array Value) (k:Nat) (h:k+L.length <= C.size):(C.toList.take k++L++C.toList.drop (k+L.length)).toArray=bQ C k L:=by
 apply Array.ext_getElem?
 intro i
 rw [pF _ _ _ _ h]
 simp only [List.getElem?_toArray,List.append_assoc]
 by_cases h1:i < k
 ·rw [if_neg (by omega),List.getElem?_append_left (by simp;omega)]
  simp [h1]
 ·rw [List.getElem?_append_right (by simp;omega)]
  have e:min k C.size=k:=by omega
  by_cases h2:i < k+L.length
  ·rw [if_pos (by omega),List.getElem?_append_left (by simp;omega)]
   simp [e]
  ·rw [if_neg (by omega),List.getElem?_append_right (by simp;omega)]
   simp only [List.length_take,Array.length_toList,e,List.getElem?_drop,Array.getElem?_toList]
   congr 1
   omega
theorem Row.putC {g:Nat} {t:TypeId}:∀ (L:List Value) {w:World} {C:Array Value} (k:Nat),Row w g t C->Row (putC w g k L) g t (bQ C k L)
 | [],_,_,_,h=>h
 | v::r,w,C,k,h=>by
  have e:w.setCell ⟨g,k,none⟩ v=w.setRow g (C.setIfInBounds k v):=setCell_eq_setRow w g k C t (0,0) v h
  exact Row.putC r (k+1) (by rw [e];exact h.setRow _)
variable {P:Program}
theorem Dg (w:World) (dT sT ty elem:TypeId) (sz g o dLen dCap:Nat) (a:Addr) (sLen sCap:Nat) (C:Array Value) (t:TypeId) (n:Nat) (cs:List Value)
  (hu:P.underlying dT=some (.slice elem)) (hs:(P.info? elem).map (·.size)=some sz)
  (hg:Row w g t C) (hm:n=Nat.min sLen dLen) (hn:cs.length=n*sz)
  (hsrc:∀ j v,cs[j]?=some v->w.cell? (a.add j)=some v) (hfit:o+cs.length <= C.size) (h1:∀ v∈cs,v.oneCell'=true) :
  (Builtin.copy_ #[dT,sT] ty #[.slice (some ⟨g,o,none⟩) dLen dCap,.slice (some a) sLen sCap]).run P w = .ok (goInt n) (w.setRow g (bQ C o cs)):=by
 have hl:=run_loadCells_list (P:=P) w a cs hsrc
 have hst:=run_storeCells_at P g o t cs 0 C w hg (by simpa using hfit) h1
 simp only [Nat.add_zero] at hst
 rw [Df cs C o hfit] at hst
 cases hq:P.info? elem with
 | none=>simp [hq] at hs
 | some i =>
  have hi:i.size=sz:=by simpa [hq] using hs
  simp [Builtin.copy_,run_underlying hu,Builtin.lenOf,Builtin.firstCells,sizeOf,typeInfo,hq,hi,<- hm,<- hn,hl,hst]
theorem wE (w:World) (dT sT ty elem:TypeId) (d a:Option Addr) (sz dLen dCap sLen sCap:Nat) (hu:P.underlying dT=some (.slice elem)) (hs:(P.info? elem).map (·.size)=some sz) (hn:Nat.min sLen dLen=0) :
  (Builtin.copy_ #[dT,sT] ty #[.slice d dLen dCap,.slice a sLen sCap]).run P w = .ok (goInt 0) w:=by
 cases hq:P.info? elem with
 | none=>simp [hq] at hs
 | some i =>
  have hl:∀ (x:Addr),(loadCells x 0).run P w = .ok #[] w:=fun x=>by simpa using run_loadCells_list (P:=P) w x [] (by simp)
  cases d <;> cases a <;> simp [Builtin.copy_,run_underlying hu,Builtin.lenOf,Builtin.firstCells,sizeOf,typeInfo,hq,hn,storeCells,hl]
theorem qX {α:Type} (c:α->Array Value) (sz:Nat) (hc:∀ x,(c x).size=sz) (h0:0 < sz) (h1:∀ x,∀ u∈(c x).toList,u.oneCell'=true)
  (w:World) (dT sT ty elem:TypeId) (dp sp:Option Addr) (dLen dCap sLen sCap:Nat) (C:Array Value) (t:TypeId) (g off:Nat) (ys:List α)
  (hu:P.underlying dT=some (.slice elem)) (hs:(P.info? elem).map (·.size)=some sz) (hg:Row w g t C) (hn:ys.length=Nat.min sLen dLen)
  (hd:0 < ys.length->dp=some ⟨g,off,none⟩) (hl:cm sz c w sp ys) (hfit:off+ys.length*sz <= C.size) :
  (Builtin.copy_ #[dT,sT] ty #[.slice dp dLen dCap,.slice sp sLen sCap]).run P w = .ok (goInt ys.length) (w.setRow g (bQ C off (aV c ys))):=by
 rcases hl with rfl | ⟨b,o,rfl,hb,hl⟩
 ·have e:bQ C off (aV c ([]:List α))=C:=rfl
  rw [e,setRow_self w g C t (0,0) hg]
  exact wE w dT sT ty elem dp sp sz dLen dCap sLen sCap hu hs (by simpa using hn.symm)
 ·by_cases hz:ys.length=0
  ·obtain rfl:ys=[]:=List.eq_nil_of_length_eq_zero hz
   have e:bQ C off (aV c ([]:List α))=C:=rfl
   rw [e,setRow_self w g C t (0,0) hg]
   exact wE w dT sT ty elem dp _ sz dLen dCap sLen sCap hu hs (by simpa using hn.symm)
  ·obtain rfl:=hd (by omega)
   refine Dg w dT sT ty elem sz g off dLen dCap ⟨b,o,none⟩ sLen sCap C t ys.length (aV c ys) hu hs hg hn (fG hc ys) ?_ (by rw [fG hc ys];exact hfit) (od h1 ys)
   intro j u hj
   have hjl:j < ys.length*sz:=by
    have:=fG hc ys
    rcases Nat.lt_or_ge j (ys.length*sz) with h | h
    ·exact h
    ·rw [List.getElem?_eq_none (by omega)] at hj;cases hj
   have hq:j / sz < ys.length:=Nat.div_lt_of_lt_mul (by rw [Nat.mul_comm];exact hjl)
   have hm:j % sz < sz:=Nat.mod_lt _ h0
   have hjj:j / sz*sz+j % sz=j:=by rw [Nat.mul_comm];exact Nat.div_add_mod j sz
   have h2:=qc6 hc ys (j / sz) ys[j / sz] (List.getElem?_eq_getElem hq) (j % sz) hm
   rw [hjj,hj] at h2
   have h3:=hl (j / sz) ys[j / sz] (List.getElem?_eq_getElem hq) (j % sz) hm
   have ea:(⟨b,o,none⟩:Addr).add j=⟨b,o+j,none⟩:=by unfold Addr.add;by_cases h:j=0 <;> simp [h]
   rw [ea,<- hjj,<- Nat.add_assoc,h3,<- h2]
theorem Row.own {α:Type} {c:α->Array Value} {sz:Nat} (hc:∀ x,(c x).size=sz) {w:World} {g:Nat} {t:TypeId} {xs:List α} (h:Row w g t (aV c xs).toArray) {base:Nat} (hb:base <= g) (hm:xs.length <= maxLen) :
  Own t sz c w base (.slice (some ⟨g,0,none⟩) xs.length xs.length) xs :=
 ⟨fG hc xs,.inr ⟨g,xs.length,_,rfl,hb,h,Nat.le_refl _,hm,by simp [fG hc xs],by rw [<- fG hc xs];simp⟩⟩
abbrev putAt (w:World) (b o:Nat) (t:ar):World:=((((((((((((((w.setCell ⟨b,o,none⟩ (.int .i64 t.no)).setCell ⟨b,o+1,none⟩ (.int .i64 t.cls)).setCell ⟨b,o+2,none⟩ (.int .i64 t.cpu)).setCell ⟨b,o+3,none⟩ (.int .i64 t.st)).setCell ⟨b,o+4,none⟩ (.bool t.idle)).setCell ⟨b,o+5,none⟩ (.int .i64 t.q)).setCell ⟨b,o+6,none⟩ (.int .i64 t.p)).setCell ⟨b,o+7,none⟩ (.int .i64 t.left)).setCell ⟨b,o+8,none⟩ (.int .i64 t.due)).setCell ⟨b,o+9,none⟩ (.int .i64 t.prio)).setCell ⟨b,o+10,none⟩ (.int .i64 t.round)).setCell ⟨b,o+11,none⟩ (.int .i64 t.seq)).setCell ⟨b,o+12,none⟩ (.int .i64 t.nice)).setCell ⟨b,o+13,none⟩ (.int .i64 t.v))
theorem aa.putAt {a w:World} {b o:Nat} (h:aa a w) (hp:a.heap.size <= b) (t:ar):aa a (Go.Proofs.YteagpjlgjfaclaaGreatDoor.putAt w b o t):=(((((((((((((h.setCell hp _).setCell hp _).setCell hp _).setCell hp _).setCell hp _).setCell hp _).setCell hp _).setCell hp _).setCell hp _).setCell hp _).setCell hp _).setCell hp _).setCell hp _).setCell hp _
section
variable {P:Program} {ops:Array Oper} {Q:Exit->Act->World->Prop} {md:Region.Mode} {S:World->Prop} {L:Nat}
def jA (P:Program) (md:Region.Mode) (ops:Array Oper) (Q:Exit->Act->World->Prop) (S:World->Prop) (L:Nat):Nat->Array Bool->Act->World->Prop
 | 0,listed,a,w=>Region.ready md ops listed=[] /\ Q .normal a w
 | n+1,listed,a,w=>(Region.ready md ops listed=[]->Q .normal a w) /\ ∀ i∈Region.ready md ops listed,wpOp P ops Q i (fun a' w'=>(i≠L->S w') /\ jA P md ops Q S L n (listed.setIfInBounds i true) a' w') a w
theorem wF:∀ (n:Nat) (listed:Array Bool) (a:Act) (w:World),jA P md ops Q S L n listed a w->wpAny P md ops Q n listed a w
 | 0,_,_,_,h=>h
 | n+1,_,_,_,h=>⟨h.1,fun i hi=>wpOp_mono (fun a' w' h'=>wF n _ a' w' h'.2) (h.2 i hi)⟩
def lz (md:Region.Mode) (ops:Array Oper) (L i:Nat):Bool:=match ops[L]? with
 | some o=>o.after.any fun e=>Region.binds md e&&e.on==i
 | none=>true
theorem s8 {i:Nat} {listed:Array Bool} (h:lz md ops L i=true) (hi:i∈Region.ready md ops listed):L ∉ Region.ready md ops listed:=by
 intro hL
 obtain ⟨_,o,ho,hall⟩:=mem_ready.1 hL
 unfold lz at h
 rw [ho] at h
 obtain ⟨e,he,h2⟩:=Array.any_eq_true'.1 h
 simp only [Bool.and_eq_true,beq_iff_eq] at h2
 have h1:=hall e he h2.1
 have h0:=(mem_ready.1 hi).1
 rw [h2.2] at h1
 rcases Nat.lt_or_ge i listed.size with h' | h'
 ·simp [h'] at h0 h1;rw [h0] at h1;cases h1
 ·simp [Array.getElem?_eq_none h'] at h1
theorem wG {i:Nat} {oi:Oper} {v:Value} (hi:ops[i]?=some oi) (hsel:∀ (j:Nat) (o:Oper) cs b,ops[j]?=some o->o.op ≠ .select cs b) (hL:lz md ops L i=true)
  (hQ:∀ c a w,Q (.panic c) (a.put oi.dst v) w->Q (.panic c) a w) :
  ∀ (n:Nat) (listed:Array Bool) (a:Act) (w:World),(∀ j oj,ops[j]?=some oj->j≠i->listed.getD j true=false->(∀ e∈oj.after,Region.binds md e=true->e.on≠i)->oi.apart ops oj=true) ->
   i∈Region.ready md ops listed->YieldsIf P ops S oi v a->S w->jA P md ops Q S L n (listed.setIfInBounds i true) (a.put oi.dst v) w->jA P md ops Q S L (n+1) listed a w
 | 0,listed,a,w,_,hr,hy,hS,H=>by
  refine ⟨fun h=>(by rw [h] at hr;cases hr),fun j hj => ?_⟩
  by_cases hji:j=i
  ·subst hji;exact hy.wpOp hi hS ⟨fun _=>hS,H⟩
  ·have:=ready_mono hj hji
   rw [H.1] at this
   cases this
 | n+1,listed,a,w,hfree,hr,hy,hS,H=>by
  refine ⟨fun h=>(by rw [h] at hr;cases hr),fun j hj => ?_⟩
  by_cases hji:j=i
  ·subst hji;exact hy.wpOp hi hS ⟨fun _=>hS,H⟩
  ·have pG:j≠L:=fun e=>s8 hL hr (e ▸ hj)
   have h1:=H.2 j (ready_mono hj hji)
   obtain ⟨hjun,oj,hoj,hall⟩:=mem_ready.1 hj
   have hnot:∀ e∈oj.after,Region.binds md e=true->e.on≠i:=fun e he hb heq=>by
    have h1:=hall e he hb
    have h0:=(mem_ready.1 hr).1
    rw [heq] at h1
    rcases Nat.lt_or_ge i listed.size with h' | h'
    ·simp [h'] at h0 h1;rw [h0] at h1;cases h1
    ·simp [Array.getElem?_eq_none h'] at h1
   have h2:=wpOp_putIf hoj (hfree j oj hoj hji hjun hnot) (fun cs b=>hsel i oi cs b hi) (fun cs b=>hsel j oj cs b hoj) hQ hy h1
   have hfree':∀ k ok,ops[k]?=some ok->k≠i->(listed.setIfInBounds j true).getD k true=false->(∀ e∈ok.after,Region.binds md e=true->e.on≠i)->oi.apart ops ok=true:=fun k ok hk hki hun hno=>by
    refine hfree k ok hk hki ?_ hno
    by_cases hjk:j=k
    ·subst hjk;exact hjun
    ·rw [getD_set_ne true hjk] at hun;exact hun
   refine wpOp_mono (fun a' w' h3=>⟨h3.2.1,wG hi hsel hL hQ n (listed.setIfInBounds j true) a' w' hfree' (ready_mono hr (Ne.symm hji)) h3.1 (h3.2.1 pG) ?_⟩) h2
   rw [Array.setIfInBounds_comm _ _ hji]
   exact h3.2.2
theorem Dh {i:Nat} {oi:Oper} {v:Value} {n:Nat} {listed:Array Bool} {a:Act} {w:World} (hi:ops[i]?=some oi)
  (hs:Region.noSelect ops=true) (hf:Region.free md ops listed i=true) (hr:(Region.ready md ops listed).contains i=true) (hL:lz md ops L i=true)
  (hQ:∀ c a w,Q (.panic c) (a.put oi.dst v) w->Q (.panic c) a w) (hy:YieldsIf P ops S oi v a) (hS:S w)
  (h:jA P md ops Q S L n (listed.setIfInBounds i true) (a.put oi.dst v) w):jA P md ops Q S L (n+1) listed a w :=
 wG hi (Region.noSelect_spec hs) hL hQ n listed a w (Region.free_spec hi hf) (by simpa using hr) hy hS h
theorem gN {i:Nat} {R:List Nat} {oi:Oper} {v:Value} {n:Nat} {listed:Array Bool} {a:Act} {w:World} (hi:ops[i]?=some oi:=by simp only [iM];rfl)
  (hb:(Region.noSelect ops&&Region.free md ops listed i&&(Region.ready md ops listed).contains i&&lz md ops L i)=true:=by kernel_rfl) (hQ:∀ c a w,Q (.panic c) (a.put oi.dst v) w->Q (.panic c) a w:=by exact fun _ _ _ h=>h) (hg:Region.wanted oi (yielded ops a.tmps)=true:=by rfl) (hS:S w:=by assumption)
  (hy:∀ w,S w->(execOp a.eval oi).run P w = .ok (.value v) w:=by intro w _;go_simp;try (with_reducible rfl)) (h:ad R (jA P md ops Q S L n (listed.setIfInBounds i true) (a.put oi.dst v) w)):ad (i::R) (jA P md ops Q S L (n+1) listed a w):=by
 simp only [Bool.and_eq_true] at hb
 exact Dh hi hb.1.1.1 hb.1.1.2 hb.1.2 hb.2 hQ (Or.inl ⟨hg,hy⟩) hS h
theorem gy {i:Nat} {o:Oper} {n:Nat} {listed:Array Bool} {a:Act} {w:World} (hr:Region.ready md ops listed=[i]:=by kernel_rfl) (ho:ops[i]?=some o:=by simp only [iM];rfl)
  (h:∀ K':Act->World->Prop,Shut (∀ a w,S w->(S w->jA P md ops Q S L n (listed.setIfInBounds i true) a w)->K' a w)->if Region.wanted o (yielded ops a.tmps)=true then Oper.wp P o a w K' Q else K' (a.put o.dst undef) w):jA P md ops Q S L (n+1) listed a w:=by
 refine ⟨fun e=>absurd (hr ▸ e) (by simp),fun j hj => ?_⟩
 rw [hr] at hj
 obtain rfl:j=i:=by simpa using hj
 exact wpOp_step ho (fun K' hK=>h K' (fun a w hS hW=>hK a w ⟨fun _=>hS,hW hS⟩))
theorem ku {o:Oper} {n:Nat} {listed:Array Bool} {a:Act} {w:World} (hr:Region.ready md ops listed=[L]:=by kernel_rfl) (ho:ops[L]?=some o:=by simp only [iM];rfl) (hd:Region.ready md ops (listed.setIfInBounds L true)=[]:=by kernel_rfl)
  (h:∀ K':Act->World->Prop,Shut (∀ a w,Q .normal a w->K' a w)->if Region.wanted o (yielded ops a.tmps)=true then Oper.wp P o a w K' Q else K' (a.put o.dst undef) w):jA P md ops Q S L (n+1) listed a w:=by
 refine ⟨fun e=>absurd (hr ▸ e) (by simp),fun j hj => ?_⟩
 rw [hr] at hj
 obtain rfl:j=L:=by simpa using hj
 refine wpOp_step ho (fun K' hK=>h K' (fun a w hW=>hK a w ⟨fun e=>absurd rfl e,?_⟩))
 cases n with
 | zero=>exact ⟨hd,hW⟩
 | succ n=>exact ⟨fun _=>hW,by rw [hd];simp⟩
theorem kt (L:Nat) {id:Nat} {a:Act} {w:World} (hm:P.follows .mixedOrders=true) (hS:S w.drew)
  (h:S w.drew->jA P .any ops Q S L ops.size (Array.replicate ops.size false) a w.drew):(Code.region id ops true).wp P Q a w :=
 wp_region_any hm (wF _ _ _ _ (h hS))
end
section
variable {P:Program} {ops:Array Oper} {Q:Exit->Act->World->Prop} {md:Region.Mode} {S:World->Prop} {L:Nat}
def jB (P:Program) (md:Region.Mode) (ops:Array Oper) (Q:Exit->Act->World->Prop) (S:World->Prop) (L:Nat):Nat->Array Bool->Act->World->Prop
 | 0,listed,a,w=>Region.ready md ops listed=[] /\ Q .normal a w
 | n+1,listed,a,w=>(Region.ready md ops listed=[]->Q .normal a w) /\ ∀ i∈Region.ready md ops listed,wpOp P ops Q i (fun a' w'=>(i < L->S w') /\ jB P md ops Q S L n (listed.setIfInBounds i true) a' w') a w
theorem wH:∀ (n:Nat) (listed:Array Bool) (a:Act) (w:World),jB P md ops Q S L n listed a w->wpAny P md ops Q n listed a w
 | 0,_,_,_,h=>h
 | n+1,_,_,_,h=>⟨h.1,fun i hi=>wpOp_mono (fun a' w' h'=>wH n _ a' w' h'.2) (h.2 i hi)⟩
def s9 (md:Region.Mode) (ops:Array Oper) (L i:Nat):Bool:=(List.range ops.size).all fun j=>decide (j < L)||lz md ops j i
theorem Di {i j:Nat} {listed:Array Bool} (h:s9 md ops L i=true) (hi:i∈Region.ready md ops listed) (hj:j∈Region.ready md ops listed):j < L:=by
 rcases Nat.lt_or_ge j L with h1 | h1
 ·exact h1
 ·exfalso
  obtain ⟨_,o,ho,_⟩:=mem_ready.1 hj
  have hs:j < ops.size:=(Array.getElem?_eq_some_iff.1 ho).1
  have h2:=List.all_eq_true.1 h j (List.mem_range.2 hs)
  rw [decide_eq_false (by omega),Bool.false_or] at h2
  exact s8 h2 hi hj
theorem wI {i:Nat} {oi:Oper} {v:Value} (hi:ops[i]?=some oi) (hsel:∀ (j:Nat) (o:Oper) cs b,ops[j]?=some o->o.op ≠ .select cs b) (hL:s9 md ops L i=true)
  (hQ:∀ c a w,Q (.panic c) (a.put oi.dst v) w->Q (.panic c) a w) :
  ∀ (n:Nat) (listed:Array Bool) (a:Act) (w:World),(∀ j oj,ops[j]?=some oj->j≠i->listed.getD j true=false->(∀ e∈oj.after,Region.binds md e=true->e.on≠i)->oi.apart ops oj=true) ->
   i∈Region.ready md ops listed->YieldsIf P ops S oi v a->S w->jB P md ops Q S L n (listed.setIfInBounds i true) (a.put oi.dst v) w->jB P md ops Q S L (n+1) listed a w
 | 0,listed,a,w,_,hr,hy,hS,H=>by
  refine ⟨fun h=>(by rw [h] at hr;cases hr),fun j hj => ?_⟩
  by_cases hji:j=i
  ·subst hji;exact hy.wpOp hi hS ⟨fun _=>hS,H⟩
  ·have:=ready_mono hj hji
   rw [H.1] at this
   cases this
 | n+1,listed,a,w,hfree,hr,hy,hS,H=>by
  refine ⟨fun h=>(by rw [h] at hr;cases hr),fun j hj => ?_⟩
  by_cases hji:j=i
  ·subst hji;exact hy.wpOp hi hS ⟨fun _=>hS,H⟩
  ·have pG:j < L:=Di hL hr hj
   have h1:=H.2 j (ready_mono hj hji)
   obtain ⟨hjun,oj,hoj,hall⟩:=mem_ready.1 hj
   have hnot:∀ e∈oj.after,Region.binds md e=true->e.on≠i:=fun e he hb heq=>by
    have h1:=hall e he hb
    have h0:=(mem_ready.1 hr).1
    rw [heq] at h1
    rcases Nat.lt_or_ge i listed.size with h' | h'
    ·simp [h'] at h0 h1;rw [h0] at h1;cases h1
    ·simp [Array.getElem?_eq_none h'] at h1
   have h2:=wpOp_putIf hoj (hfree j oj hoj hji hjun hnot) (fun cs b=>hsel i oi cs b hi) (fun cs b=>hsel j oj cs b hoj) hQ hy h1
   have hfree':∀ k ok,ops[k]?=some ok->k≠i->(listed.setIfInBounds j true).getD k true=false->(∀ e∈ok.after,Region.binds md e=true->e.on≠i)->oi.apart ops ok=true:=fun k ok hk hki hun hno=>by
    refine hfree k ok hk hki ?_ hno
    by_cases hjk:j=k
    ·subst hjk;exact hjun
    ·rw [getD_set_ne true hjk] at hun;exact hun
   refine wpOp_mono (fun a' w' h3=>⟨h3.2.1,wI hi hsel hL hQ n (listed.setIfInBounds j true) a' w' hfree' (ready_mono hr (Ne.symm hji)) h3.1 (h3.2.1 pG) ?_⟩) h2
   rw [Array.setIfInBounds_comm _ _ hji]
   exact h3.2.2
theorem j4 {i:Nat} {R:List Nat} {oi:Oper} {v:Value} {n:Nat} {listed:Array Bool} {a:Act} {w:World} (hi:ops[i]?=some oi:=by simp only [iM];rfl)
  (hb:(Region.noSelect ops&&Region.free md ops listed i&&(Region.ready md ops listed).contains i&&s9 md ops L i)=true:=by kernel_rfl) (hQ:∀ c a w,Q (.panic c) (a.put oi.dst v) w->Q (.panic c) a w:=by exact fun _ _ _ h=>h) (hg:Region.wanted oi (yielded ops a.tmps)=true:=by rfl) (hS:S w:=by assumption)
  (hy:∀ w,S w->(execOp a.eval oi).run P w = .ok (.value v) w:=by intro w _;go_simp;try (with_reducible rfl)) (h:ad R (jB P md ops Q S L n (listed.setIfInBounds i true) (a.put oi.dst v) w)):ad (i::R) (jB P md ops Q S L (n+1) listed a w):=by
 simp only [Bool.and_eq_true] at hb
 exact wI hi (Region.noSelect_spec hb.1.1.1) hb.2 hQ n listed a w (Region.free_spec hi hb.1.1.2) (by simpa using hb.1.2) (Or.inl ⟨hg,hy⟩) hS h
theorem mW {i:Nat} {o:Oper} {n:Nat} {listed:Array Bool} {a:Act} {w:World} (hr:Region.ready md ops listed=[i]:=by kernel_rfl) (ho:ops[i]?=some o:=by simp only [iM];rfl)
  (h:∀ K':Act->World->Prop,Shut (∀ a w,S w->(S w->jB P md ops Q S L n (listed.setIfInBounds i true) a w)->K' a w)->if Region.wanted o (yielded ops a.tmps)=true then Oper.wp P o a w K' Q else K' (a.put o.dst undef) w):jB P md ops Q S L (n+1) listed a w:=by
 refine ⟨fun e=>absurd (hr ▸ e) (by simp),fun j hj => ?_⟩
 rw [hr] at hj
 obtain rfl:j=i:=by simpa using hj
 exact wpOp_step ho (fun K' hK=>h K' (fun a w hS hW=>hK a w ⟨fun _=>hS,hW hS⟩))
theorem j5 {i:Nat} {o:Oper} {n:Nat} {listed:Array Bool} {a:Act} {w:World} (hr:Region.ready md ops listed=[i]:=by kernel_rfl) (hi:(decide (L <= i))=true:=by decide) (ho:ops[i]?=some o:=by simp only [iM];rfl)
  (h:∀ K':Act->World->Prop,Shut (∀ a w,jB P md ops Q S L n (listed.setIfInBounds i true) a w->K' a w)->if Region.wanted o (yielded ops a.tmps)=true then Oper.wp P o a w K' Q else K' (a.put o.dst undef) w):jB P md ops Q S L (n+1) listed a w:=by
 refine ⟨fun e=>absurd (hr ▸ e) (by simp),fun j hj => ?_⟩
 rw [hr] at hj
 obtain rfl:j=i:=by simpa using hj
 have hi':L <= j:=of_decide_eq_true hi
 exact wpOp_step ho (fun K' hK=>h K' (fun a w hW=>hK a w ⟨fun e=>absurd e (by omega),hW⟩))
theorem td {n:Nat} {listed:Array Bool} {a:Act} {w:World} (hr:Region.ready md ops listed=[]) (h:Q .normal a w):jB P md ops Q S L n listed a w:=by
 cases n with
 | zero=>exact ⟨hr,h⟩
 | succ n=>exact ⟨fun _=>h,by rw [hr];simp⟩
theorem tf (L:Nat) {id:Nat} {a:Act} {w:World} (hm:P.follows .mixedOrders=true) (hS:S w.drew)
  (h:S w.drew->jB P .any ops Q S L ops.size (Array.replicate ops.size false) a w.drew):(Code.region id ops true).wp P Q a w :=
 wp_region_any hm (wH _ _ _ _ (h hS))
end
theorem Own.free {α:Type} {e:TypeId} {sz:Nat} {c:α->Array Value} {w:World} {base b cap n:Nat} {xs:List α} (h:Own e sz c w base (.slice (Option.some ⟨b,0,none⟩) n cap) xs):base <= b /\ b < w.heap.size /\ ∀ k,w.frozen? ⟨b,k,none⟩=false:=by
 obtain ⟨_,⟨e,_⟩ | ⟨b',cp,cur,e,hb,hh,_⟩⟩:=h
 ·simp at e
 ·simp only [Value.slice.injEq,Option.some.injEq,Addr.mk.injEq] at e
  obtain ⟨⟨rfl,-⟩,-,-⟩:=e
  have hlt:b < w.heap.size:=by
   rcases Nat.lt_or_ge b w.heap.size with hlt | hge
   ·exact hlt
   ·rw [Array.getElem?_eq_none hge] at hh;cases hh
  exact ⟨hb,hlt,fun k=>by simp [World.frozen?,hh]⟩
theorem aq.grown {w w':World} {b:Nat} {C:Array Value} {row:Option Nat} (h:aq w b C) (hg:w.grownBy w' row) (hr:∀ k,row=some k->k≠b):aq w' b C:=by
 have e:=hg.block b h.lt (fun e=>hr b e.symm rfl)
 exact ⟨Nat.lt_of_lt_of_le h.lt hg.size,fun k=>(World.cell?_of_block (w:=w) e).trans (h.cells k),fun k=>(World.frozen?_of_block (w:=w) e).trans (h.aO k)⟩
section
attribute [local go_sem] aa.refl aa.alloc aa.drew aa.drewN
theorem cd {α:Type} {xs:List α} {k:Nat} (h:k < xs.length):∃ x,xs[k]?=some x:=⟨xs[k],List.getElem?_eq_getElem h⟩
theorem cZ {α:Type} {xs:List α} {k:Nat} {x:α} (h:xs[k]?=some x):k < xs.length:=by
 rcases Nat.lt_or_ge k xs.length with h' | h'
 ·exact h'
 ·rw [List.getElem?_eq_none h'] at h;cases h
abbrev ic (x:Int):Array Value:=#[.int .i64 x]
theorem fq (x:Int):(ic x).size=1:=rfl
theorem kV (x:Int):∀ u∈(ic x).toList,u.oneCell'=true:=by
 intro u hu
 simp at hu
 subst hu
 rfl
def Ns (w:World) (a:Option Addr) (xs:List Int):Prop:=xs=[]∨∃ b off,a=some ⟨b,off,none⟩ /\ b < w.heap.size /\ ∀ i x,xs[i]?=some x->w.cell? ⟨b,off+i,none⟩=some (.int .i64 x)
theorem Ns.keeps {w w':World} {a:Option Addr} {xs:List Int} (h:Ns w a xs) (k:aa w w'):Ns w' a xs:=by
 rcases h with h | ⟨b,off,rfl,hb,h⟩
 ·exact .inl h
 ·exact .inr ⟨b,off,rfl,Nat.lt_of_lt_of_le hb k.size,fun i x hx=>(k.cells _ _ hb).trans (h i x hx)⟩
theorem Ns.at {w:World} {a:Option Addr} {xs:List Int} (h:Ns w a xs) {i:Nat} {x:Int} (hx:xs[i]?=some x) :
  ∃ b off,a=some ⟨b,off,none⟩ /\ ∀ w',aa w w'->w'.cell? ⟨b,off+i,none⟩=some (.int .i64 x):=by
 rcases h with rfl | ⟨b,off,rfl,hb,h⟩
 ·simp at hx
 ·exact ⟨b,off,rfl,fun w' k=>(k.cells _ _ hb).trans (h i x hx)⟩
theorem Ns.iU {w:World} {a:Option Addr} {xs:List Int} (h:cm 1 ic w a xs):Ns w a xs:=by
 rcases h with h | ⟨b,off,rfl,hb,h⟩
 ·exact .inl h
 ·exact .inr ⟨b,off,rfl,hb,fun i x hx=>by simpa using h i x hx 0 (by omega)⟩
theorem Ns.lies {w:World} {a:Option Addr} {xs:List Int} (h:Ns w a xs):cm 1 ic w a xs:=by
 rcases h with h | ⟨b,off,rfl,hb,h⟩
 ·exact .inl h
 ·refine .inr ⟨b,off,rfl,hb,fun i x hx k hk => ?_⟩
  obtain rfl:k=0:=by omega
  simpa using h i x hx
abbrev aS (w:World) (base:Nat) (v:Value) (xs:List Int):Prop:=Own 3 1 ic w base v xs
theorem Dj (xs:List Int):aV ic xs=xs.map fun x => .int .i64 x:=by
 induction xs with
 | nil=>rfl
 | cons x r ih =>
  show (ic x).toList++aV ic r=_
  rw [ih];rfl
theorem aS.ns {w:World} {base:Nat} {v:Value} {xs:List Int} (h:aS w base v xs):∃ a cap,v = .slice a xs.length cap /\ Ns w a xs /\ xs.length <= cap /\ cap <= maxLen:=by
 obtain ⟨a,cap,e,l,h1,h2⟩:=h.slice fq
 exact ⟨a,cap,e,.iU l,h1,h2⟩
theorem aS.of {w:World} {base b cap:Nat} {xs:List Int} {ys:List Value} (h:w.ownsRow base 3 1 (.slice (some ⟨b,0,none⟩) xs.length cap) xs.length ys) (hy:∀ (j:Nat) (x:Int),xs[j]?=some x->ys[j]?=some (.int .i64 x)):aS w base (.slice (some ⟨b,0,none⟩) xs.length cap) xs:=by
 have e:ys=aV ic xs:=by
  rw [Dj]
  have hl:ys.length=xs.length:=by have:=h.1;omega
  apply List.ext_getElem?
  intro j
  rcases Nat.lt_or_ge j xs.length with hj | hj
  ·rw [hy j xs[j] (List.getElem?_eq_getElem hj)]
   simp [hj]
  ·rw [List.getElem?_eq_none (by omega),List.getElem?_eq_none (by simpa using hj)]
 unfold aS Own
 rw [<- e]
 exact h
end
end Go.Proofs.YteagpjlgjfaclaaGreatDoor
