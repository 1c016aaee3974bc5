/-
  Drawn locks that may be wrong in one place: the contract of
  The program's CallOk.
  New tasks: the program's.
  A list of tasks: the program's TasksOk.
-/
import Derived.Test.YteagpjlgjfaclaaGreatDoorFairList
import Derived.Deep.DeepCutAuto
import Derived.Deep.CutBlock
import Derived.Deep.RegionHeld3
import Derived.Test.YteagpjlgjfaclaaGreatDoorImplLockB
import Derived.Test.YteagpjlgjfaclaaGreatDoorImplWhole
namespace Go.Proofs.YteagpjlgjfaclaaGreatDoor
set_option maxRecDepth 100000
open Go.RowKit
attribute [local go_sem] Keeps.refl Keeps.alloc Keeps.drew Keeps.drewN KeepsBut.refl KeepsBut.drew KeepsBut.alloc KeepsBut.drewN
structure DKat (w wr:World) (g:Nat) (b n cap:Nat) (vs:List Lv) (ls:List Lk) (j:Nat) (x:Lv) (l:Lk):Prop where
 mine:Mine wr w.heap.size wr.heap.size (.slice (some ⟨b,0,none⟩) n cap) vs ls
 vlen:vs.length=n
 hx:vs[j]?=some x
 hl:ls[j]?=some l
 own:Own 37 2 lvc wr w.heap.size (.slice (some ⟨b,0,none⟩) n cap) vs
 lo:w.heap.size <= b
 hi:b < wr.heap.size
 c0:wr.cell? ⟨b,j*2,none⟩=some (.int .i64 x.o)
 c1:wr.cell? ⟨b,j*2+1,none⟩=some x.row
 fz:∀ o,wr.frozen? ⟨b,o,none⟩=false
 xo:x.o=l.owner
 row:OwnN wr w.heap.size x.row l.waits
 far:∀ q,x.row.ownBlock=some q->q < wr.heap.size /\ q≠b
theorem DK.at {w wr:World} {g:Nat} {v:Value} {ls:List Lk} (h:DK w wr g v ls) {j:Nat} {l:Lk} (hl:ls[j]?=some l):∃ b cap vs x,v = .slice (some ⟨b,0,none⟩) ls.length cap /\ DKat w wr g b ls.length cap vs ls j x l:=by
 obtain ⟨vs,M⟩:=h.mine
 have hj:=qaw hl
 have hv:vs.length=ls.length:=M.len
 obtain ⟨b,cap,e⟩:=M.own.blk (by omega)
 rw [hv] at e
 subst e
 obtain ⟨x,hx⟩:=qal (xs:=vs) (k:=j) (by omega)
 have O0:Own 37 2 lvc wr w.heap.size (.slice (some ⟨b,0,none⟩) vs.length cap) vs:=by rw [hv];exact M.own
 have X1:=M.rows j x l hx hl
 exact ⟨b,cap,vs,x,rfl,M,hv,hx,hl,M.own,(O0.ltb b rfl).1,(O0.ltb b rfl).2,O0.cellAt qbj (k:=0) hx (by omega),O0.cellAt qbj (k:=1) hx (by omega),fun o=>O0.frozenAt o,X1.1,X1.2,
  fun q hq=>⟨(X1.2.ltb q hq).2,fun e=>(M.inn j x q hx hq).2 (by rw [e];rfl)⟩⟩
theorem DKat.but {w wr wr':World} {g b n cap:Nat} {vs:List Lv} {ls:List Lk} {j:Nat} {x:Lv} {l:Lk} (h:DKat w wr g b n cap vs ls j x l) (hg:g < w.heap.size) (k:KeepsBut g wr wr'):DKat w wr' g b n cap vs ls j x l:=by
 have hb:wr'.heap[b]?=wr.heap[b]?:=k.block b h.hi (by have:=h.lo;omega)
 exact ⟨(h.mine.same fun q h1 _ h3=>k.block q h3 (by omega)).widen (Nat.le_refl _) k.size,h.vlen,h.hx,h.hl,h.own.same fun q hq=>k.block q (h.own.ltb q hq).2 (by have:=(h.own.ltb q hq).1;omega),h.lo,Nat.lt_of_lt_of_le h.hi k.size,
  (World.cell?_of_block (w:=wr) hb).trans h.c0,(World.cell?_of_block (w:=wr) hb).trans h.c1,fun o=>(World.frozen?_of_block (w:=wr) hb).trans (h.fz o),h.xo,h.row.same fun q hq=>k.block q (h.row.ltb q hq).2 (by have:=(h.row.ltb q hq).1;omega),
  fun q hq=>⟨Nat.lt_of_lt_of_le (h.far q hq).1 k.size,(h.far q hq).2⟩⟩
theorem DKat.setOwner {w wr:World} {g b n cap:Nat} {vs:List Lv} {ls:List Lk} {j:Nat} {x:Lv} {l:Lk} (h:DKat w wr g b n cap vs ls j x l) (hc:Cur wr g) (kb:KeepsBut g w wr) (hg:g < w.heap.size) (c:Int) :
  DK w (wr.setCell ⟨b,j*2,none⟩ (.int .i64 c)) g (.slice (some ⟨b,0,none⟩) n cap) (ls.set j { l with owner:=c }):=by
 have m:=h.mine
 rw [<- h.vlen] at m
 have:=m.setOwner h.hx h.hl c
 rw [List.length_set,h.vlen] at this
 refine ⟨⟨_,this.widen (Nat.le_refl _) (by simp)⟩,hc.setNew (Nat.lt_of_lt_of_le hg h.lo) _ _,kb.setNew h.lo _⟩
theorem DKat.waits {w w5 w6:World} {g b n cap:Nat} {vs:List Lv} {ls:List Lk} {j:Nat} {x:Lv} {l:Lk} (h:DKat w w5 g b n cap vs ls j x l) (hc:Cur w5 g) (kb:KeepsBut g w w5) (hg:g < w.heap.size) {ws:List Int} {a:Option Addr} {m c:Nat}
  (O6:OwnN w6 w.heap.size (.slice a m c) ws) (g6:w5.grownBy w6 x.row.ownBlock) (f6:∀ q,(Value.slice a m c).ownBlock=some q->x.row.ownBlock=some q∨w5.heap.size <= q) :
  DK w (w6.setCell ⟨b,j*2+1,none⟩ (.slice a m c)) g (.slice (some ⟨b,0,none⟩) n cap) (ls.set j { l with waits:=ws }):=by
 have key:∀ q,q < w5.heap.size->x.row.ownBlock≠some q->w6.heap[q]?=w5.heap[q]?:=fun q hq hne=>g6.block q hq (fun e=>hne e.symm)
 have h36:w6.heap[b]?=w5.heap[b]?:=key b h.hi (fun e=>(h.far b e).2 rfl)
 have ow6:Own 37 2 lvc w6 w.heap.size (.slice (some ⟨b,0,none⟩) n cap) vs:=h.own.same fun q hq=>by
  have:q=b:=by simp [Value.ownBlock] at hq;exact hq.symm
  rw [this];exact h36
 have hrow:∀ q,x.row.ownBlock=some q->w.heap.size <= q:=fun q hq=>(h.row.ltb q hq).1
 refine ⟨⟨vs.set j ⟨x.o,a,m,c⟩,?_⟩,?_,?_⟩
 ·refine h.mine.swap (x:=x) (y:=⟨x.o,a,m,c⟩) h.hx (ow6.setAt qbj (i:=j) (j:=1) (x:=x) (y:=⟨x.o,a,m,c⟩) (u := .slice a m c) h.hx (by omega) rfl) (fun q h1 h2 h3 => ?_) h.xo ?_ (by have:=g6.size;simpa using this) (fun q hq => ?_)
  ·have:q≠b:=fun e=>h1 (by rw [e];rfl)
   rw [qa2 this]
   exact key q h3 h2
  ·refine Own.same O6 fun q hq=>qa2 ?_
   rcases f6 q hq with h1 | h1
   ·exact (h.far q h1).2
   ·have:=h.hi;omega
  ·rcases f6 q hq with h1 | h1
   ·exact .inr h1
   ·have:=O6.ltb q hq
    exact .inl ⟨by omega,by simp;omega⟩
 ·exact (hc.grown g6 (fun k hk=>Nat.lt_of_lt_of_le hg (hrow k hk))).setNew (Nat.lt_of_lt_of_le hg h.lo) _ _
 ·exact (kb.grown g6 (fun k hk=>hrow k hk)).setNew h.lo _
theorem DKat.still {w w5 w6:World} {g b n cap:Nat} {vs:List Lv} {ls:List Lk} {j:Nat} {x:Lv} {l:Lk} (h:DKat w w5 g b n cap vs ls j x l) (g6:w5.grownBy w6 x.row.ownBlock):w6.cell? ⟨b,j*2+1,none⟩=some x.row /\ ∀ o,w6.frozen? ⟨b,o,none⟩=false:=by
 have h36:w6.heap[b]?=w5.heap[b]?:=g6.block b h.hi (fun e=>(h.far b e.symm).2 rfl)
 exact ⟨(World.cell?_of_block (w:=w5) h36).trans h.c1,fun o=>(World.frozen?_of_block (w:=w5) h36).trans (h.fz o)⟩
set_option maxHeartbeats 8000000 in
theorem qk6 (g:Nat) (w:World) (hc:Cur w g) :
  Calls Tryz.prog 52 #[.pointer (some ⟨g,0,none⟩)] w fun e w'=>∃ (v:Value) (ls:List Lk),e = .returned v /\ DK w w' g v ls /\ 1 <= ls.length /\ ls.length <= 6 /\ qaj ls <= 17:=by
 have hgl:=hc.lt
 go_enter Tryz.func52,Tryz.ntmps52
 go_wp2_with fail
 refine (qk5 g _ hc).mono ?_
 rintro e w1 ⟨v,ls,rfl,D1,h1,h4,hs⟩
 obtain ⟨vs,M⟩:=D1.mine
 obtain ⟨a,cap,rfl,-,-,-⟩:=M.args
 clear M vs hc
 obtain ⟨n,Hn⟩:∃ n:Nat,Hid (ls.length=n):=⟨_,rfl⟩
 rw [Hn.out] at h1 h4 D1 ⊢
 have Hs:Hid (qaj ls <= 16):=hs
 clear hs
 go_wp2_with fail
 refine (qam g _ _ D1.cur (by omega) (by omega)).mono ?_
 rintro e w2 ⟨jj,rfl,hj0,hj1,hc2,k2⟩
 have D2:=D1.but hgl k2 hc2
 clear D1 hc2 k2
 obtain ⟨j,rfl⟩:=Int.eq_ofNat_of_zero_le hj0
 have hj:j < n:=by omega
 go_wp2_with fail
 refine (qam g _ _ D2.cur (by omega) (by omega)).mono ?_
 rintro e w3 ⟨c,rfl,hx0,hx1,hc3,k3⟩
 have D3:=D2.but hgl k3 hc3
 clear D2 hc3 k3
 obtain ⟨l,hl1⟩:=qal (xs:=ls) (k:=j) (by rw [Hn.out];exact hj)
 have Hl:Hid (ls[j]?=some l):=hl1
 clear hl1
 go_upto_block 0 with fail
 go_cut [3] (fun u wx=>∃ ls':List Lk,Hid (DK w wx g u ls') /\ 1 <= ls'.length /\ ls'.length <= 6 /\ qaj ls' <= 17)
 case first =>
  obtain rfl | rfl | rfl | hc8:c=0∨c=1∨c=2∨3 <= c:=by omega
  ·go_wp2_with fail
   refine (qbC (fun _=>True) g [-1,0,3,1000,1001] _ _ 5 5 _ _ rfl D3.cur rfl (by decide) (by decide) rfl (by simp)).mono ?_
   rintro e w4 ⟨x,rfl,-,hc4,k4⟩
   have D4:=D3.but hgl k4 hc4
   clear D3 k4
   obtain ⟨b,cap2,vs,y,e,A⟩:=D4.at Hl.out
   rw [Hn.out] at e A
   simp only [Value.slice.injEq] at e
   obtain ⟨rfl,-,rfl⟩:=e
   have S:=A.setOwner hc4 D4.kb hgl x
   have HS:Hid (DK w (w4.setCell ⟨b,j*2,none⟩ (.int .i64 x)) g (.slice (some ⟨b,0,none⟩) n cap) (ls.set j { l with owner:=x })):=S
   have q1:=A.c0
   have q2:=A.fz
   clear S A D4 hc4
   go_wp2_with fail
   go_meet
   refine ⟨_,HS,by rw [List.length_set,Hn.out];exact h1,by rw [List.length_set,Hn.out];omega,?_⟩
   have z1:=qfi { l with owner:=x } Hl.out
   have z2:=Hs.out
   dsimp only at z1
   clear HS q1 q2
   omega
  ·obtain ⟨b,cap2,vs,y,e,A0⟩:=D3.at Hl.out
   rw [Hn.out] at e A0
   simp only [Value.slice.injEq] at e
   obtain ⟨rfl,-,rfl⟩:=e
   have A:Hid (DKat w w3 g b n cap vs ls j y l):=A0
   have D:Hid (DK w w3 g (.slice (some ⟨b,0,none⟩) n cap) ls):=D3
   obtain ⟨yo,ya,yn,yc⟩:=y
   have hbg:b≠g:=by have:=A0.lo;omega
   have r1:∀ w',KeepsBut g w3 w'->w'.cell? ⟨b,j*2+1,none⟩=some (.slice ya yn yc):=KeepsBut.has hbg A0.c1
   clear A0 D3
   have hw1:Hid (l.waits.length <= 16):=by show _ <= _;have:=qcM Hl.out;have:=Hs.out;unfold qaj at this;omega
   go_wp2_with fail
   go_region_law (first
    | (go_simp;go_at_call 49;refine (qam g _ _ (D.out.cur.keeps (by first | exact Keeps.refl _ | exact (Keeps.refl _).drew)) (by omega) (by omega)).mono ?_;rintro e w4 ⟨x,rfl,hy0,hy1,hc4,k4⟩;have k4':KeepsBut g w3 w4:=KeepsBut.trans (by first | exact KeepsBut.refl _ _ | exact (KeepsBut.refl _ _).drew) k4;have A5:Hid (DKat w (w4.alloc (.cells #[.int .i64 x] 3)) g b n cap vs ls j ⟨yo,ya,yn,yc⟩ l):=A.out.but hgl (k4'.alloc _);have K5:Hid (KeepsBut g w (w4.alloc (.cells #[.int .i64 x] 3))):=D.out.kb.trans (k4'.alloc _);have C5:Hid (Cur (w4.alloc (.cells #[.int .i64 x] 3)) g):=hc4.keeps ((Keeps.refl _).alloc _))
    | (refine qbU rfl (.tmp 30) (.tmp 33) 27 rfl w.heap.size 3 (.int .i64 0) 1 8 ic Tryz.underlying27 (by kernel_rfl) rfl (by decide) qaW qcH (.slice ya yn yc) l.waits (by simp [Act.eval]) A5.out.row K5.out.size [x] _ 0 1 (qb3 (Blk.new _ _ _)) (by simp [Act.eval]) (by have:=hw1.out;simp [maxLen];omega) (by have:=hw1.out;simp;omega) ?_;intro v6 w6 o6 g6 f6;obtain ⟨a6,c7,e6,-,-,-⟩:=OwnN.ns o6;obtain ⟨m6,Hm6⟩:∃ m,Hid ((l.waits++[x]).length=m):=⟨_,rfl⟩;rw [Hm6.out] at e6;subst e6;obtain ⟨s3,s4⟩:=A5.out.still g6;have FIN:Hid (DK w (w6.setCell ⟨b,j*2+1,none⟩ (.slice a6 m6 c7)) g (.slice (some ⟨b,0,none⟩) n cap) (ls.set j { l with waits:=l.waits++[x] })):=A5.out.waits C5.out K5.out hgl o6 g6 (fun q hq=>(f6 q hq).imp id (fun e=>Nat.le_of_eq e.symm));clear o6 g6 f6))
   all_goals
    go_wp2_with fail
    go_meet
    refine ⟨_,FIN,by rw [List.length_set,Hn.out];exact h1,by rw [List.length_set,Hn.out];omega,?_⟩
    have z1:=qfi { l with waits:=l.waits++[x] } Hl.out
    have z2:=Hs.out
    simp only [List.length_append,List.length_cons,List.length_nil] at z1
    clear FIN r1 s3 s4
    omega
  ·go_wp2_with fail
   refine (qam g _ _ D3.cur (by omega) (by omega)).mono ?_
   rintro e w4 ⟨m,rfl,hm0,hm1,hc4,k4⟩
   obtain ⟨n',Hn'⟩:∃ n:Nat,Hid (5+m=(n:Int)):=⟨(5+m).toNat,by show _=_;omega⟩
   have hn1:1 <= n':=by have:=Hn'.out;omega
   have hn4:n' <= 6:=by have:=Hn'.out;omega
   have hmk:=qgM n' (by omega) (5+m) Hn'.out
   have S:Hid (DK w (w4.alloc (.cells (madeCells #[.int .i64 0,.slice none 0 0] (n'*2)) 37)) g (.slice (some ⟨w4.heap.size,0,none⟩) n' n') (List.replicate n' ⟨0,[]⟩)):=DK.made hc4 (D3.kb.trans k4) n' (by omega)
   clear D3 k4 hc4
   go_wp2_with fail
   go_meet
   exact ⟨_,S,by simp;omega,by simp;omega,by rw [qgL];omega⟩
  ·have n0:(c==0)=false:=by simp;omega
   have n1:(c==1)=false:=by simp;omega
   have n2:(c==2)=false:=by simp;omega
   have HD:Hid (DK w w3 g (.slice a n cap) ls):=D3
   clear D3
   go_wp2_with fail
   go_meet
   exact ⟨_,HD,by rw [Hn.out];omega,by rw [Hn.out];omega,by have:=Hs.out;omega⟩
 case rest =>
 obtain ⟨ls',D9,q1,q2,q3⟩:=hcut
 go_wp2
 go_ret
 exact ⟨_,ls',rfl,D9.out,q1,q2,q3⟩
end Go.Proofs.YteagpjlgjfaclaaGreatDoor
namespace Go.Proofs.YteagpjlgjfaclaaGreatDoor
set_option maxRecDepth 100000
open Go.RowKit
attribute [local go_sem] Keeps.refl Keeps.alloc Keeps.drew Keeps.drewN
attribute [local go_sem high] qfQ
set_option linter.unusedSimpArgs false in
set_option maxHeartbeats 4000000 in
theorem qjy:qik:=by
 intro c w
 cases c1:(c.kind==1)
 rotate_left
 ·have Hr:Hid (qaC c=true):=by
   show _=_
   have hk:c.kind=1:=by simpa using c1
   simp [qaC,qaB,eqC,inB,hk]
  go_enter Tryz.func35,Tryz.ntmps35
  go_wp2
  go_ret
  exact ⟨by rw [Hr.out];rfl,(Keeps.refl w).alloc _⟩
 cases c2:(c.kind==2)
 rotate_left
 ·have Hr:Hid (qaC c=true):=by
   show _=_
   have hk:c.kind=2:=by simpa using c2
   simp [qaC,qaB,eqC,inB,hk]
  go_enter Tryz.func35,Tryz.ntmps35
  go_wp2
  go_ret
  exact ⟨by rw [Hr.out];rfl,(Keeps.refl w).alloc _⟩
 cases c3:(c.kind==3)
 rotate_left
 ·have Hr:Hid (qaC c=eqC c ⟨c.kind,c.no,c.cpu,c.a,0⟩):=by
   show _=_
   have hk:c.kind=3:=by simpa using c3
   simp [qaC,qaB,inB,hk]
  go_enter Tryz.func35,Tryz.ntmps35
  go_wp2
  all_goals go_ret
  all_goals exact ⟨by rw [Hr.out];first | rfl | (simp_all [eqC,go_sem];done),by repeat (first | exact Keeps.refl _ | refine Keeps.alloc ?_ _ | refine Keeps.drewN ?_ _ | refine Keeps.drew ?_)⟩
 cases c4:(c.kind==4)
 rotate_left
 ·have Hr:Hid (qaC c=eqC c ⟨c.kind,c.no,0,0,0⟩):=by
   show _=_
   have hk:c.kind=4:=by simpa using c4
   simp [qaC,qaB,inB,hk]
  go_enter Tryz.func35,Tryz.ntmps35
  go_wp2
  all_goals go_ret
  all_goals exact ⟨by rw [Hr.out];first | rfl | (simp_all [eqC,go_sem];done),by repeat (first | exact Keeps.refl _ | refine Keeps.alloc ?_ _ | refine Keeps.drewN ?_ _ | refine Keeps.drew ?_)⟩
 cases c5:(c.kind==5)
 rotate_left
 ·have Hr:Hid (qaC c=eqC c ⟨c.kind,c.no,0,0,0⟩):=by
   show _=_
   have hk:c.kind=5:=by simpa using c5
   simp [qaC,qaB,inB,hk]
  go_enter Tryz.func35,Tryz.ntmps35
  go_wp2
  all_goals go_ret
  all_goals exact ⟨by rw [Hr.out];first | rfl | (simp_all [eqC,go_sem];done),by repeat (first | exact Keeps.refl _ | refine Keeps.alloc ?_ _ | refine Keeps.drewN ?_ _ | refine Keeps.drew ?_)⟩
 cases c6:(c.kind==6)
 rotate_left
 ·have Hr:Hid (qaC c=eqC c ⟨c.kind,c.no,0,0,0⟩):=by
   show _=_
   have hk:c.kind=6:=by simpa using c6
   simp [qaC,qaB,inB,hk]
  go_enter Tryz.func35,Tryz.ntmps35
  go_wp2
  all_goals go_ret
  all_goals exact ⟨by rw [Hr.out];first | rfl | (simp_all [eqC,go_sem];done),by repeat (first | exact Keeps.refl _ | refine Keeps.alloc ?_ _ | refine Keeps.drewN ?_ _ | refine Keeps.drew ?_)⟩
 cases c7:(c.kind==7)
 rotate_left
 ·have Hr:Hid (qaC c=eqC c ⟨c.kind,c.no,0,c.a,0⟩):=by
   show _=_
   have hk:c.kind=7:=by simpa using c7
   simp [qaC,qaB,inB,hk]
  go_enter Tryz.func35,Tryz.ntmps35
  go_wp2
  all_goals go_ret
  all_goals exact ⟨by rw [Hr.out];first | rfl | (simp_all [eqC,go_sem];done),by repeat (first | exact Keeps.refl _ | refine Keeps.alloc ?_ _ | refine Keeps.drewN ?_ _ | refine Keeps.drew ?_)⟩
 cases c8:(c.kind==8)
 rotate_left
 ·have Hr:Hid (qaC c=eqC c ⟨c.kind,c.no,0,c.a,0⟩):=by
   show _=_
   have hk:c.kind=8:=by simpa using c8
   simp [qaC,qaB,inB,hk]
  go_enter Tryz.func35,Tryz.ntmps35
  go_wp2
  all_goals go_ret
  all_goals exact ⟨by rw [Hr.out];first | rfl | (simp_all [eqC,go_sem];done),by repeat (first | exact Keeps.refl _ | refine Keeps.alloc ?_ _ | refine Keeps.drewN ?_ _ | refine Keeps.drew ?_)⟩
 cases c9:(c.kind==9)
 rotate_left
 ·have Hr:Hid (qaC c=eqC c ⟨c.kind,c.no,0,c.a,0⟩):=by
   show _=_
   have hk:c.kind=9:=by simpa using c9
   simp [qaC,qaB,inB,hk]
  go_enter Tryz.func35,Tryz.ntmps35
  go_wp2
  all_goals go_ret
  all_goals exact ⟨by rw [Hr.out];first | rfl | (simp_all [eqC,go_sem];done),by repeat (first | exact Keeps.refl _ | refine Keeps.alloc ?_ _ | refine Keeps.drewN ?_ _ | refine Keeps.drew ?_)⟩
 cases c10:(c.kind==10)
 rotate_left
 ·have Hr:Hid (qaC c=eqC c ⟨c.kind,c.no,c.cpu,0,0⟩):=by
   show _=_
   have hk:c.kind=10:=by simpa using c10
   simp [qaC,qaB,inB,hk]
  go_enter Tryz.func35,Tryz.ntmps35
  go_wp2
  all_goals go_ret
  all_goals exact ⟨by rw [Hr.out];first | rfl | (simp_all [eqC,go_sem];done),by repeat (first | exact Keeps.refl _ | refine Keeps.alloc ?_ _ | refine Keeps.drewN ?_ _ | refine Keeps.drew ?_)⟩
 cases c11:(c.kind==11)
 rotate_left
 ·have Hr:Hid (qaC c=eqC c ⟨c.kind,0,0,c.a,0⟩):=by
   show _=_
   have hk:c.kind=11:=by simpa using c11
   simp [qaC,qaB,inB,hk]
  go_enter Tryz.func35,Tryz.ntmps35
  go_wp2
  all_goals go_ret
  all_goals exact ⟨by rw [Hr.out];first | rfl | (simp_all [eqC,go_sem];done),by repeat (first | exact Keeps.refl _ | refine Keeps.alloc ?_ _ | refine Keeps.drewN ?_ _ | refine Keeps.drew ?_)⟩
 have Hr:Hid (qaC c=false):=by
  show _=_
  simp only [beq_eq_false_iff_ne,ne_eq] at c1 c2 c3 c4 c5 c6 c7 c8 c9 c10 c11
  have:inB c.kind 1 11=false:=by
   simp [inB]
   omega
  simp [qaC,this]
 go_enter Tryz.func35,Tryz.ntmps35
 go_wp2
 go_ret
 exact ⟨by rw [Hr.out];rfl,(Keeps.refl w).alloc _⟩
end Go.Proofs.YteagpjlgjfaclaaGreatDoor
namespace Go.Proofs.YteagpjlgjfaclaaGreatDoor
set_option maxRecDepth 100000
open Go.RowKit
set_option maxHeartbeats 2000000 in
theorem qe9 (t:Tsk) (w:World) :
  Calls Tryz.prog 188 #[tk t] w fun e w'=>e = .returned (.tuple #[tk (newT t),.bool (qah t)]) /\ Keeps w w':=by
 go_enter Tryz.func188,Tryz.ntmps188
 go_wp2_with fail
 have kW:Keeps w ((w.alloc (.cells (tc t) 43)).alloc (.cells (tc Tsk.zero) 43)):=((Keeps.refl _).alloc _).alloc _
 have B0:=(Blk.new w (tc t) 43).alloc (.cells (tc Tsk.zero) 43)
 have B1:=Blk.new (w.alloc (.cells (tc t) 43)) (tc Tsk.zero) 43
 rw [show (w.alloc (.cells (tc t) 43)).heap.size=w.heap.size+1 by simp] at B1
 refine (qd4 t _).mono ?_
 rintro e w1 ⟨rfl,k1⟩
 have C0:=B0.keeps k1
 have C1:=B1.keeps k1
 have k2:=kW.trans k1
 clear B0 B1 k1 kW
 obtain ⟨_,r1,r2⟩:=C0
 have D1:Hid (Blk w1 (w.heap.size+1) (tc Tsk.zero)):=C1
 obtain ⟨_,r3,r4⟩:=C1
 cases hb:qah t
 ·have Hn:Hid (newT t=Tsk.zero):=by show _=_;simp [newT,hb]
  have Hb:Hid (qah t=false):=hb
  go_wp2
  have D:=D1.out.putT Tsk.zero
  have K:=k2.putT (b:=w.heap.size+1) (by omega) Tsk.zero
  change bodyPost _ _ _ _ _ (putT w1 (w.heap.size+1) Tsk.zero)
  generalize putT w1 (w.heap.size+1) Tsk.zero=X at D K ⊢
  exact bodyPost_ret (v := .tuple #[tk Tsk.zero,.bool false]) (by simp [results,Tryz.results188,go_sem,D.cells]) rfl ⟨by rw [Hn.out,Hb.out],K⟩
 ·have Hn:Hid (newT t=t):=by show _=_;simp [newT,hb]
  have Hb:Hid (qah t=true):=hb
  go_wp2
  have D:=D1.out.putT t
  have K:=k2.putT (b:=w.heap.size+1) (by omega) t
  change bodyPost _ _ _ _ _ (putT w1 (w.heap.size+1) t)
  generalize putT w1 (w.heap.size+1) t=X at D K ⊢
  exact bodyPost_ret (v := .tuple #[tk t,.bool true]) (by simp [results,Tryz.results188,go_sem,D.cells]) rfl ⟨by rw [Hn.out,Hb.out],K⟩
def qa6 (no cpu q p d:Int):Tsk:=⟨no,1,cpu,1,false,q,p,q,d,0,0,0,0,0⟩
theorem qgv {n:Int} (h : -9223372036854775808 <= n /\ n <= 9223372036854775807):wrap64 n=n:=by
 unfold wrap64;omega
theorem qgw {no cpu q p d:Int} (h:okB q p=false):qah (qa6 no cpu q p d)=false:=by
 simp [qah,qa1,qa6,h]
set_option maxHeartbeats 2000000 in
theorem qgx:qmv:=by
 intro no cpu q p now w
 cases h1:inB now 0 100000
 ·have Hb:Hid (qaY no cpu q p now=false):=by show _=_;simp [qaY,h1]
  have Hn:Hid (qaV no cpu q p now=Tsk.zero):=by show _=_;simp [qaV,Hb.out]
  go_enter Tryz.func162,Tryz.ntmps162
  go_wp2_with (go_at_call 105;refine (qaN _ _ _ _).mono ?_;rintro e w' ⟨rfl,rfl⟩)
  exact bodyPost_ret (v := .tuple #[tk Tsk.zero,.bool false]) (by simp [results,Tryz.results162,go_sem,Tsk.zero]) rfl ⟨by rw [Hn.out,Hb.out],(Keeps.refl _).alloc _⟩
 ·have hd:∃ d,Hid (wrap64 (now+p)=d):=⟨_,rfl⟩
  obtain ⟨d,Hd⟩:=hd
  have Hb:Hid (qaY no cpu q p now=qah (qa6 no cpu q p d)):=by
   show _=_
   cases h2:okB q p
   ·rw [qgw h2];simp [qaY,h2]
   ·obtain ⟨i1,i2⟩:=qas.1 h1
    obtain ⟨⟨i3,i4⟩,i5,i6⟩:=qbL.1 h2
    have:d=now+p:=by rw [<- Hd.out];exact qgv (by omega)
    subst this
    simp [qaY,h1,h2,qa6,dueT]
  have Hn:Hid (qaV no cpu q p now=newT (qa6 no cpu q p d)):=by
   show _=_
   cases h2:okB q p
   ·unfold qaV newT;rw [Hb.out,qgw h2];rfl
   ·obtain ⟨i1,i2⟩:=qas.1 h1
    obtain ⟨⟨i3,i4⟩,i5,i6⟩:=qbL.1 h2
    have:d=now+p:=by rw [<- Hd.out];exact qgv (by omega)
    subst this
    unfold qaV newT;rw [Hb.out];rfl
  have hw:wrap64 (now+p)=d:=Hd.out
  go_enter Tryz.func162,Tryz.ntmps162
  go_wp2_with (go_at_call 105;refine (qaN _ _ _ _).mono ?_;rintro e w' ⟨rfl,rfl⟩)
  have hT:(qa6 no cpu q p d).asDue=qa6 no cpu q p d:=rfl
  have H0:Has w (w.heap.size+1) (dnc (qa6 no cpu q p d)) (((w.alloc (.cells (tc Tsk.zero) 43)).alloc (.cells (dnc (qa6 no cpu q p d)) 82))):=⟨((Keeps.refl _).alloc _).alloc _,by have:=Blk.new (w.alloc (.cells (tc Tsk.zero) 43)) (dnc (qa6 no cpu q p d)) 82;simpa only [World.size_alloc] using this⟩
  have R0:Blk (((w.alloc (.cells (tc Tsk.zero) 43)).alloc (.cells (dnc (qa6 no cpu q p d)) 82))) w.heap.size (tc Tsk.zero):=(Blk.new w _ _).alloc _
  have r1:∀ w',Has w (w.heap.size+1) (dnc (qa6 no cpu q p d)) w'->∀ k,w'.cell? ⟨w.heap.size+1,k,none⟩=(dnc (qa6 no cpu q p d))[k]?:=fun w' h=>h.box.cells
  obtain ⟨N,HN⟩:∃ N,Hid (newT (qa6 no cpu q p d)=N):=⟨_,rfl⟩
  obtain ⟨g,Hg⟩:∃ g,Hid (qah (qa6 no cpu q p d)=g):=⟨_,rfl⟩
  refine wp_region_held_drew (S:=(fun w'=>Has w (w.heap.size+1) (dnc (qa6 no cpu q p d)) w')) (by kernel_rfl) ?_ (fun hHeld => ?_)
  ·exact H0.go (Keeps.refl _).drew
  refine Plan.go [0,1,3] ?_
  iterate 3 (refine qac (by simp only [qab];rfl) (by kernel_rfl) (by exact fun _ _ _ h=>h) (by rfl) (by assumption) (fun w _=>by go_simp;try (with_reducible rfl)) ?_;try simp only [qaa])
  refine Plan.nil ?_
  refine qad 2 (by kernel_rfl) (by simp only [qab];rfl) (fun K hK => ?_)
  go_simp
  first
     | (go_at_call 189;refine (qe5 _ _ _ _).mono ?_;rintro e w1 ⟨rfl,k1⟩)
     | (go_at_call 115;refine (qcG (qa6 no cpu q p d) _).mono ?_;rintro e w2 ⟨rfl,k2⟩;rw [hT])
     | (go_at_call 188;refine (qe9 (qa6 no cpu q p d) _).mono ?_;rintro e w3 ⟨rfl,k3⟩;rw [HN.out,Hg.out])
  try go_wp2_with fail
  refine hK.out _ _ ?_ (fun hHeld => ?_)
  ·exact hHeld.go (by assumption)
  clear hK K
  try simp only [qaa]
  refine qar 4 (v := ?_) (by simp only [qab];rfl) (by kernel_rfl) (by exact fun _ _ _ h=>h) (by rfl) (by assumption) ?_ ?_
  rotate_left
  ·(intro w _;go_simp;try (with_reducible rfl))
  try simp only [qaa]
  refine qad 5 (by kernel_rfl) (by simp only [qab];rfl) (fun K hK => ?_)
  go_simp
  first
     | (go_at_call 189;refine (qe5 _ _ _ _).mono ?_;rintro e w1 ⟨rfl,k1⟩)
     | (go_at_call 115;refine (qcG (qa6 no cpu q p d) _).mono ?_;rintro e w2 ⟨rfl,k2⟩;rw [hT])
     | (go_at_call 188;refine (qe9 (qa6 no cpu q p d) _).mono ?_;rintro e w3 ⟨rfl,k3⟩;rw [HN.out,Hg.out])
  try go_wp2_with fail
  refine hK.out _ _ ?_ (fun hHeld => ?_)
  ·exact hHeld.go (by assumption)
  clear hK K
  try simp only [qaa]
  refine qad 6 (by kernel_rfl) (by simp only [qab];rfl) (fun K hK => ?_)
  go_simp
  first
     | (go_at_call 189;refine (qe5 _ _ _ _).mono ?_;rintro e w1 ⟨rfl,k1⟩)
     | (go_at_call 115;refine (qcG (qa6 no cpu q p d) _).mono ?_;rintro e w2 ⟨rfl,k2⟩;rw [hT])
     | (go_at_call 188;refine (qe9 (qa6 no cpu q p d) _).mono ?_;rintro e w3 ⟨rfl,k3⟩;rw [HN.out,Hg.out])
  try go_wp2_with fail
  refine hK.out _ _ ?_ (fun hHeld => ?_)
  ·exact hHeld.go (by assumption)
  clear hK K
  try simp only [qaa]
  refine Plan.go [7,8] ?_
  iterate 2 (refine qac (by simp only [qab];rfl) (by kernel_rfl) (by exact fun _ _ _ h=>h) (by rfl) (by assumption) (fun w _=>by go_simp;try (with_reducible rfl)) ?_;try simp only [qaa])
  refine Plan.nil ?_
  refine qad 9 (by kernel_rfl) (by simp only [qab];rfl) (fun K hK => ?_)
  have HB:=R0.keeps ((Keeps.refl _).drew.trans (k1.trans (k2.trans k3)));have HD:Hid (Blk w3 w.heap.size (tc Tsk.zero)):=HB;obtain ⟨_,q1,q2⟩:=HB
  go_simp
  try go_wp2_with fail
  refine hK.out _ _ ?_ (fun hHeld => ?_)
  ·exact hHeld.put (r:=w.heap.size) (by omega) (by omega) 0 (tc N).toList
  clear hK K
  try simp only [qaa]
  refine qar 10 (v := ?_) (by simp only [qab];rfl) (by kernel_rfl) (by exact fun _ _ _ h=>h) (by rfl) (by assumption) ?_ ?_
  rotate_left
  ·(intro w _;go_simp;try (with_reducible rfl))
  try simp only [qaa]
  refine wpAnyH_done (by kernel_rfl) ?_ _
  go_wp2
  have D:=HD.out.putC (tc N).toList rfl
  have K:=hHeld.keeps
  change bodyPost _ _ _ _ _ (putC w3 w.heap.size 0 (tc N).toList)
  change Keeps w (putC w3 w.heap.size 0 (tc N).toList) at K
  generalize putC w3 w.heap.size 0 (tc N).toList=X at D K ⊢
  exact bodyPost_ret (v := .tuple #[tk N,.bool g]) (by simp [results,Tryz.results162,go_sem,D.cells]) rfl ⟨by first | rw [HN.out,Hg.out] | rw [Hn.out,Hb.out,HN.out,Hg.out],K⟩
end Go.Proofs.YteagpjlgjfaclaaGreatDoor
namespace Go.Proofs.YteagpjlgjfaclaaGreatDoor
set_option maxRecDepth 100000
open Go.RowKit
attribute [local go_sem] Keeps.refl Keeps.alloc Keeps.drew Keeps.drewN
theorem qkz {ts:List Tsk} (h:12 < ts.length):qav ts=false:=by
 have:decide (ts.length <= 12)=false:=by simp;omega
 simp [qav,this]
set_option maxHeartbeats 4000000 in
theorem qfc:qmy:=by
 intro a cap ts w hl hs
 unfold maxLen at hl
 generalize hn:ts.length=n at hl
 have Hn:Hid (ts.length=n):=hn
 clear hn
 by_cases h12:n <= 12
 case neg =>
  have hd:decide (12 < (n:Int))=true:=by simp;omega
  have Hr:Hid (qav ts=false):=qkz (by rw [Hn.out];omega)
  go_enter Tryz.func33,Tryz.ntmps33
  go_wp2
  go_ret
  exact ⟨by rw [Hr.out];rfl,Keeps.refl _⟩
 have hd:decide (12 < (n:Int))=false:=by simp;omega
 go_enter Tryz.func33,Tryz.ntmps33
 go_wp2
 go_loopw [10] (fun i wr=>∃ k:Nat,k <= n /\ i = .int .i64 k /\ Keeps w wr /\ Hid (∀ j t,j < k->ts[j]?=some t->qah t=true) /\ Hid (∀ j s t,j+1 < k->ts[j]?=some s->ts[j+1]?=some t->s.no < t.no)) (fun i _=>n - (intOf i).toNat)
 case atStart=>exact ⟨0,Nat.zero_le _,rfl,Keeps.refl _,fun j t hj=>by omega,fun j s t hj=>by omega⟩
 case round =>
  obtain ⟨k,hk,rfl,hK,H1,H2⟩:=hrel
  by_cases hlt:k < n
  ·obtain ⟨t,ht⟩:=qbP (xs:=ts) (k:=k) (by rw [Hn.out];exact hlt)
   have hlt':(k:Int) < (n:Int):=by omega
   have Ht:Hid (ts[k]?=some t):=ht
   have kW:Keeps w (wr.alloc (.cells (tc t) 43)):=hK.alloc _
   have q1:=blkR wr (tc t) 43
   have K0:=Keeps.refl (wr.alloc (.cells (tc t) 43))
   cases hb:qah t
   ·obtain ⟨b,off,rfl,r0,r1⟩:=hs.at ht (by omega)
    have Hr:Hid (qav ts=false):=qhS ht hb
    clear hs ht
    go_wp2_with fail
    clear r0 r1 hK
    generalize wr.alloc (.cells (tc t) 43)=W at *
    generalize wr.heap.size=s at *
    refine wp_region_held_drew (S:=(fun w'=>Keeps W w')) (by kernel_rfl) ?_ (fun hHeld => ?_)
    ·exact K0.drew
    refine qar 0 (v := ?_) (by simp only [qab];rfl) (by kernel_rfl) (by exact fun _ _ _ h=>h) (by rfl) (by assumption) ?_ ?_
    rotate_left
    ·(intro w _;go_simp;try (with_reducible rfl))
    try simp only [qaa]
    refine qad 1 (by kernel_rfl) (by simp only [qab];rfl) (fun K hK => ?_)
    go_simp
    first
     | (go_at_call 74;refine (qd4 t _).mono ?_;rintro e w' ⟨rfl,hkk⟩;rw [hb])
    try go_wp2_with fail
    refine hK.out _ _ ?_ (fun hHeld => ?_)
    ·exact Keeps.trans (by assumption) (by assumption)
    clear hK K
    try simp only [qaa]
    refine Plan.go [2,3] ?_
    iterate 2 (refine qac (by simp only [qab];rfl) (by kernel_rfl) (by exact fun _ _ _ h=>h) (by rfl) (by assumption) (fun w _=>by go_simp;try (with_reducible rfl)) ?_;try simp only [qaa])
    refine Plan.nil ?_
    refine Plan.go [4,5,6,7,8,9,10,11,12,13,14,15,16] ?_
    iterate 13 (refine qaA (by simp only [qab];rfl) (by kernel_rfl) (by exact fun _ _ _ h=>h) (by rfl) (by assumption) ?_;try simp only [qaa])
    refine Plan.nil ?_
    refine qar 17 (v := ?_) (by simp only [qab];rfl) (by kernel_rfl) (by exact fun _ _ _ h=>h) (by rfl) (by assumption) ?_ ?_
    rotate_left
    ·(intro w _;go_simp;try (with_reducible rfl))
    try simp only [qaa]
    refine wpAnyH_done (by kernel_rfl) ?_ _
    go_wp2
    go_ret
    exact ⟨by rw [Hr.out];rfl,kW.trans (by assumption)⟩
   ·rcases Nat.eq_zero_or_pos k with h0 | h0
    ·obtain ⟨b,off,rfl,r0,r1⟩:=hs.at ht (by omega)
     have hz:decide (0 < k)=false:=by simp;omega
     have H0:Hid (k=0):=h0
     clear hs ht h0
     go_wp2_with fail
     clear r0 r1 hK
     generalize wr.alloc (.cells (tc t) 43)=W at *
     generalize wr.heap.size=s at *
     refine wp_region_held_drew (S:=(fun w'=>Keeps W w')) (by kernel_rfl) ?_ (fun hHeld => ?_)
     ·exact K0.drew
     refine qar 0 (v := ?_) (by simp only [qab];rfl) (by kernel_rfl) (by exact fun _ _ _ h=>h) (by rfl) (by assumption) ?_ ?_
     rotate_left
     ·(intro w _;go_simp;try (with_reducible rfl))
     try simp only [qaa]
     refine qad 1 (by kernel_rfl) (by simp only [qab];rfl) (fun K hK => ?_)
     go_simp
     first
      | (go_at_call 74;refine (qd4 t _).mono ?_;rintro e w' ⟨rfl,hkk⟩;rw [hb])
     try go_wp2_with fail
     refine hK.out _ _ ?_ (fun hHeld => ?_)
     ·exact Keeps.trans (by assumption) (by assumption)
     clear hK K
     try simp only [qaa]
     refine Plan.go [2,3,4,5,6] ?_
     iterate 5 (refine qac (by simp only [qab];rfl) (by kernel_rfl) (by exact fun _ _ _ h=>h) (by rfl) (by assumption) (fun w _=>by go_simp;try (with_reducible rfl)) ?_;try simp only [qaa])
     refine Plan.nil ?_
     refine Plan.go [7,8,9,10,11,12,13,14,15] ?_
     iterate 9 (refine qaA (by simp only [qab];rfl) (by kernel_rfl) (by exact fun _ _ _ h=>h) (by rfl) (by assumption) ?_;try simp only [qaa])
     refine Plan.nil ?_
     refine Plan.go [16,17] ?_
     iterate 2 (refine qac (by simp only [qab];rfl) (by kernel_rfl) (by exact fun _ _ _ h=>h) (by rfl) (by assumption) (fun w _=>by go_simp;try (with_reducible rfl)) ?_;try simp only [qaa])
     refine Plan.nil ?_
     refine wpAnyH_done (by kernel_rfl) ?_ _
     go_wp2
     exact ⟨⟨k+1,by omega,by go_num,kW.trans (by assumption),fun j s hj hjs=>by
      obtain rfl:j=k:=by have:=H0.out;omega
      rw [Ht.out] at hjs;cases hjs;exact hb,fun j s u hj=>by have:=H0.out;omega⟩,by simp only [intOf];omega⟩
    ·obtain ⟨m,hm⟩:∃ m,k=m+1:=⟨k - 1,by omega⟩
     obtain ⟨s,hs1⟩:=qbP (xs:=ts) (k:=m) (by rw [Hn.out];omega)
     obtain ⟨b,off,rfl,r0,r1⟩:=hs.at ht (by omega)
     obtain ⟨b',off',e',p0,p1⟩:=hs.at hs1 (by omega)
     simp only [Option.some.injEq,Addr.mk.injEq] at e'
     obtain ⟨rfl,rfl,-⟩:=e'
     have Hs:Hid (ts[m]?=some s):=hs1
     have hk1:(m:Int) < (n:Int):=by omega
     have hp:0 < k:=h0
     have hm1:(k:Int) - 1=(m:Int):=by omega
     have hw:IntKind.i64.wrap (m:Int)=(m:Int):=Go.IntWalk.i64_in _ (by omega)
     have Hm:Hid (k=m+1):=hm
     have p2:∀ w',Keeps (wr.alloc (.cells (tc t) 43)) w'->w'.cell? ⟨b,off+m*14,none⟩=(tc s)[0]?:=fun w' h=>p0 w' (kW.trans h)
     clear hs ht hs1 p0 p1 hm h0
     cases hd:decide (t.no <= s.no)
     ·go_wp2_with fail
      clear r0 r1 hK
      generalize wr.alloc (.cells (tc t) 43)=W at *
      generalize wr.heap.size=g at *
      refine wp_region_held_drew (S:=(fun w'=>Keeps W w')) (by kernel_rfl) ?_ (fun hHeld => ?_)
      ·exact K0.drew
      refine qar 0 (v := ?_) (by simp only [qab];rfl) (by kernel_rfl) (by exact fun _ _ _ h=>h) (by rfl) (by assumption) ?_ ?_
      rotate_left
      ·(intro w _;go_simp;try (with_reducible rfl))
      try simp only [qaa]
      refine qad 1 (by kernel_rfl) (by simp only [qab];rfl) (fun K hK => ?_)
      go_simp
      first
       | (go_at_call 74;refine (qd4 t _).mono ?_;rintro e w' ⟨rfl,hkk⟩;rw [hb])
      try go_wp2_with fail
      refine hK.out _ _ ?_ (fun hHeld => ?_)
      ·exact Keeps.trans (by assumption) (by assumption)
      clear hK K
      try simp only [qaa]
      refine Plan.go [2,3,4,5,6,7,8,9,10,11,12,13,14,15,16,17] ?_
      iterate 16 (refine qac (by simp only [qab];rfl) (by kernel_rfl) (by exact fun _ _ _ h=>h) (by rfl) (by assumption) (fun w _=>by go_simp;try (with_reducible rfl)) ?_;try simp only [qaa])
      refine Plan.nil ?_
      refine wpAnyH_done (by kernel_rfl) ?_ _
      go_wp2
      exact ⟨⟨k+1,by omega,by go_num,kW.trans (by assumption),fun j x hj hjx=>by
       by_cases e:j=k
       ·subst e;rw [Ht.out] at hjx;cases hjx;exact hb
       ·exact H1.out j x (by omega) hjx,fun j x y hj hx hy=>by
       have hk:=Hm.out
       by_cases e:j=m
       ·subst e;rw [<- hk] at hy;rw [Hs.out] at hx;rw [Ht.out] at hy;cases hx;cases hy
        have:=of_decide_eq_false hd;omega
       ·exact H2.out j x y (by omega) hx hy⟩,by simp only [intOf];omega⟩
     ·have Hr:Hid (qav ts=false):=qhT Hs.out (by rw [<- Hm.out];exact Ht.out) (of_decide_eq_true hd)
      go_wp2_with fail
      clear r0 r1 hK
      generalize wr.alloc (.cells (tc t) 43)=W at *
      generalize wr.heap.size=g at *
      refine wp_region_held_drew (S:=(fun w'=>Keeps W w')) (by kernel_rfl) ?_ (fun hHeld => ?_)
      ·exact K0.drew
      refine qar 0 (v := ?_) (by simp only [qab];rfl) (by kernel_rfl) (by exact fun _ _ _ h=>h) (by rfl) (by assumption) ?_ ?_
      rotate_left
      ·(intro w _;go_simp;try (with_reducible rfl))
      try simp only [qaa]
      refine qad 1 (by kernel_rfl) (by simp only [qab];rfl) (fun K hK => ?_)
      go_simp
      first
       | (go_at_call 74;refine (qd4 t _).mono ?_;rintro e w' ⟨rfl,hkk⟩;rw [hb])
      try go_wp2_with fail
      refine hK.out _ _ ?_ (fun hHeld => ?_)
      ·exact Keeps.trans (by assumption) (by assumption)
      clear hK K
      try simp only [qaa]
      refine Plan.go [2,3,4,5,6,7,8,9,10,11,12,13,14,15,16,17] ?_
      iterate 16 (refine qac (by simp only [qab];rfl) (by kernel_rfl) (by exact fun _ _ _ h=>h) (by rfl) (by assumption) (fun w _=>by go_simp;try (with_reducible rfl)) ?_;try simp only [qaa])
      refine Plan.nil ?_
      refine wpAnyH_done (by kernel_rfl) ?_ _
      go_wp2
      go_ret
      exact ⟨by rw [Hr.out];rfl,kW.trans (by assumption)⟩
  ·have Hr:Hid (qav ts=true):=by
    show _=_
    have hh:∀ (j:Nat) (t:Tsk),ts[j]?=some t->j < k:=fun j t h=>by
     rcases Nat.lt_or_ge j ts.length with h' | h'
     ·have:=Hn.out;omega
     ·simp [List.getElem?_eq_none h'] at h
    rw [qhU (fun j t h=>H1.out j t (hh j t h) h) (fun j s t h1 h2=>H2.out j s t (hh _ t h2) h1 h2),Hn.out]
    simp [h12]
   go_wp2
   go_ret
   exact ⟨by rw [Hr.out];rfl,hK⟩
end Go.Proofs.YteagpjlgjfaclaaGreatDoor
