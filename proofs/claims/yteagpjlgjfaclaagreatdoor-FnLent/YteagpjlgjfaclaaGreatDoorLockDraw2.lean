/-
  Drawn locks that may be wrong in one place: the contract of
  How long a drawn row is.
  What the program tells of a lock that is handed on is what
  The program's picking: whom one comes to, who is able, who
-/
import Derived.Test.YteagpjlgjfaclaaGreatDoorLoneLeaves
import Derived.Deep.DeepCutAuto
import Derived.Deep.CutBlock
import Derived.Deep.RegionHeld3
import Derived.Test.YteagpjlgjfaclaaGreatDoorCur
import Derived.Test.YteagpjlgjfaclaaGreatDoorFairHeap
import Derived.Test.YteagpjlgjfaclaaGreatDoorImplHand
import Derived.Test.YteagpjlgjfaclaaGreatDoorImplPickA
namespace Go.Proofs.YteagpjlgjfaclaaGreatDoor
set_option maxRecDepth 100000
open Go.RowKit
section
attribute [local go_sem] aa.refl aa.alloc aa.drew aa.drewN ab.refl ab.drew ab.alloc ab.drewN
structure gp (w wr:World) (g:Nat) (b n cap:Nat) (vs:List Lv) (ls:List Lk) (j:Nat) (x:Lv) (l:Lk):Prop where
 mine:Mine wr w.heap.size wr.heap.size (.slice (some ⟨b,0,none⟩) n cap) vs ls
 oS:vs.length=n
 hx:vs[j]?=some x
 hl:ls[j]?=some l
 own:Own 37 2 gk wr w.heap.size (.slice (some ⟨b,0,none⟩) n cap) vs
 lo:w.heap.size <= b
 hi:b < wr.heap.size
 c0:wr.cell? ⟨b,j*2,none⟩=some (.int .i64 x.o)
 c1:wr.cell? ⟨b,j*2+1,none⟩=some x.row
 fz:∀ o,wr.frozen? ⟨b,o,none⟩=false
 xo:x.o=l.owner
 row:aS wr w.heap.size x.row l.waits
 far:∀ q,x.row.ownBlock=some q->q < wr.heap.size /\ q≠b
theorem DK.at {w wr:World} {g:Nat} {v:Value} {ls:List Lk} (h:DK w wr g v ls) {j:Nat} {l:Lk} (hl:ls[j]?=some l):∃ b cap vs x,v = .slice (some ⟨b,0,none⟩) ls.length cap /\ gp w wr g b ls.length cap vs ls j x l:=by
 obtain ⟨vs,M⟩:=h.mine
 have hj:=da hl
 have hv:vs.length=ls.length:=M.len
 obtain ⟨b,cap,e⟩:=M.own.blk (by omega)
 rw [hv] at e
 subst e
 obtain ⟨x,hx⟩:=bW (xs:=vs) (k:=j) (by omega)
 have O0:Own 37 2 gk wr w.heap.size (.slice (some ⟨b,0,none⟩) vs.length cap) vs:=by rw [hv];exact M.own
 have X1:=M.rows j x l hx hl
 exact ⟨b,cap,vs,x,rfl,M,hv,hx,hl,M.own,(O0.cD b rfl).1,(O0.cD b rfl).2,O0.cellAt gJ (k:=0) hx (by omega),O0.cellAt gJ (k:=1) hx (by omega),fun o=>O0.frozenAt o,X1.1,X1.2,
  fun q hq=>⟨(X1.2.cD q hq).2,fun e=>(M.gj j x q hx hq).2 (by rw [e];rfl)⟩⟩
theorem gp.but {w wr wr':World} {g b n cap:Nat} {vs:List Lv} {ls:List Lk} {j:Nat} {x:Lv} {l:Lk} (h:gp w wr g b n cap vs ls j x l) (hg:g < w.heap.size) (k:ab g wr wr'):gp w wr' g b n cap vs ls j x l:=by
 have hb:wr'.heap[b]?=wr.heap[b]?:=k.block b h.hi (by have:=h.lo;omega)
 exact ⟨(h.mine.same fun q h1 _ h3=>k.block q h3 (by omega)).widen (Nat.le_refl _) k.size,h.oS,h.hx,h.hl,h.own.same fun q hq=>k.block q (h.own.cD q hq).2 (by have:=(h.own.cD q hq).1;omega),h.lo,Nat.lt_of_lt_of_le h.hi k.size,
  (World.cell?_of_block (w:=wr) hb).trans h.c0,(World.cell?_of_block (w:=wr) hb).trans h.c1,fun o=>(World.frozen?_of_block (w:=wr) hb).trans (h.fz o),h.xo,h.row.same fun q hq=>k.block q (h.row.cD q hq).2 (by have:=(h.row.cD q hq).1;omega),
  fun q hq=>⟨Nat.lt_of_lt_of_le (h.far q hq).1 k.size,(h.far q hq).2⟩⟩
theorem gp.fB {w wr:World} {g b n cap:Nat} {vs:List Lv} {ls:List Lk} {j:Nat} {x:Lv} {l:Lk} (h:gp w wr g b n cap vs ls j x l) (hc:bj wr g) (kb:ab g w wr) (hg:g < w.heap.size) (c:Int) :
  DK w (wr.setCell ⟨b,j*2,none⟩ (.int .i64 c)) g (.slice (some ⟨b,0,none⟩) n cap) (ls.set j { l with owner:=c }):=by
 have m:=h.mine
 rw [<- h.oS] at m
 have:=m.fB h.hx h.hl c
 rw [List.length_set,h.oS] at this
 refine ⟨⟨_,this.widen (Nat.le_refl _) (by simp)⟩,hc.aH (Nat.lt_of_lt_of_le hg h.lo) _ _,kb.aH h.lo _⟩
theorem gp.waits {w w5 w6:World} {g b n cap:Nat} {vs:List Lv} {ls:List Lk} {j:Nat} {x:Lv} {l:Lk} (h:gp w w5 g b n cap vs ls j x l) (hc:bj w5 g) (kb:ab g w w5) (hg:g < w.heap.size) {ws:List Int} {a:Option Addr} {m c:Nat}
  (O6:aS w6 w.heap.size (.slice a m c) ws) (g6:w5.grownBy w6 x.row.ownBlock) (f6:∀ q,(Value.slice a m c).ownBlock=some q->x.row.ownBlock=some q∨w5.heap.size <= q) :
  DK w (w6.setCell ⟨b,j*2+1,none⟩ (.slice a m c)) g (.slice (some ⟨b,0,none⟩) n cap) (ls.set j { l with waits:=ws }):=by
 have key:∀ q,q < w5.heap.size->x.row.ownBlock≠some q->w6.heap[q]?=w5.heap[q]?:=fun q hq hne=>g6.block q hq (fun e=>hne e.symm)
 have nG:w6.heap[b]?=w5.heap[b]?:=key b h.hi (fun e=>(h.far b e).2 rfl)
 have wD:Own 37 2 gk w6 w.heap.size (.slice (some ⟨b,0,none⟩) n cap) vs:=h.own.same fun q hq=>by
  have:q=b:=by simp [Value.ownBlock] at hq;exact hq.symm
  rw [this];exact nG
 have hrow:∀ q,x.row.ownBlock=some q->w.heap.size <= q:=fun q hq=>(h.row.cD q hq).1
 refine ⟨⟨vs.set j ⟨x.o,a,m,c⟩,?_⟩,?_,?_⟩
 ·refine h.mine.swap (x:=x) (y:=⟨x.o,a,m,c⟩) h.hx (wD.setAt gJ (i:=j) (j:=1) (x:=x) (y:=⟨x.o,a,m,c⟩) (u := .slice a m c) h.hx (by omega) rfl) (fun q h1 h2 h3 => ?_) h.xo ?_ (by have:=g6.size;simpa using this) (fun q hq => ?_)
  ·have:q≠b:=fun e=>h1 (by rw [e];rfl)
   rw [gz this]
   exact key q h3 h2
  ·refine Own.same O6 fun q hq=>gz ?_
   rcases f6 q hq with h1 | h1
   ·exact (h.far q h1).2
   ·have:=h.hi;omega
  ·rcases f6 q hq with h1 | h1
   ·exact .inr h1
   ·have:=O6.cD q hq
    exact .inl ⟨by omega,by simp;omega⟩
 ·exact (hc.grown g6 (fun k hk=>Nat.lt_of_lt_of_le hg (hrow k hk))).aH (Nat.lt_of_lt_of_le hg h.lo) _ _
 ·exact (kb.grown g6 (fun k hk=>hrow k hk)).aH h.lo _
theorem gp.still {w w5 w6:World} {g b n cap:Nat} {vs:List Lv} {ls:List Lk} {j:Nat} {x:Lv} {l:Lk} (h:gp w w5 g b n cap vs ls j x l) (g6:w5.grownBy w6 x.row.ownBlock):w6.cell? ⟨b,j*2+1,none⟩=some x.row /\ ∀ o,w6.frozen? ⟨b,o,none⟩=false:=by
 have nG:w6.heap[b]?=w5.heap[b]?:=g6.block b h.hi (fun e=>(h.far b e.symm).2 rfl)
 exact ⟨(World.cell?_of_block (w:=w5) nG).trans h.c1,fun o=>(World.frozen?_of_block (w:=w5) nG).trans (h.fz o)⟩
set_option maxHeartbeats 8000000 in
theorem Fu (g:Nat) (w:World) (hc:bj w g) :
  Calls Tryz.prog 52 #[.pointer (some ⟨g,0,none⟩)] w fun e w'=>∃ (v:Value) (ls:List Lk),e = .returned v /\ DK w w' g v ls /\ 1 <= ls.length /\ ls.length <= 6 /\ bT ls <= 17:=by
 have hgl:=hc.lt
 go_enter Tryz.func52,Tryz.ntmps52
 go_wp2_with fail
 refine (MA g _ hc).mono ?_
 rintro e w1 ⟨v,ls,rfl,D1,h1,h4,hs⟩
 obtain ⟨vs,M⟩:=D1.mine
 obtain ⟨a,cap,rfl,-,-,-⟩:=M.args
 clear M vs hc
 obtain ⟨n,Hn⟩:∃ n:Nat,Hid (ls.length=n):=⟨_,rfl⟩
 rw [Hn.out] at h1 h4 D1 ⊢
 have Hs:Hid (bT ls <= 16):=hs
 clear hs
 go_wp2_with fail
 refine (cF g _ _ D1.cur (by omega) (by omega)).mono ?_
 rintro e w2 ⟨jj,rfl,hj0,hj1,hc2,k2⟩
 have D2:=D1.but hgl k2 hc2
 clear D1 hc2 k2
 obtain ⟨j,rfl⟩:=Int.eq_ofNat_of_zero_le hj0
 have hj:j < n:=by omega
 go_wp2_with fail
 refine (cF g _ _ D2.cur (by omega) (by omega)).mono ?_
 rintro e w3 ⟨c,rfl,hx0,hx1,hc3,k3⟩
 have D3:=D2.but hgl k3 hc3
 clear D2 hc3 k3
 obtain ⟨l,hl1⟩:=bW (xs:=ls) (k:=j) (by rw [Hn.out];exact hj)
 have Hl:Hid (ls[j]?=some l):=hl1
 clear hl1
 go_upto_block 0 with fail
 go_cut [3] (fun u wx=>∃ ls':List Lk,Hid (DK w wx g u ls') /\ 1 <= ls'.length /\ ls'.length <= 6 /\ bT ls' <= 17)
 case first =>
  obtain rfl | rfl | rfl | hc8:c=0∨c=1∨c=2∨3 <= c:=by omega
  ·go_wp2_with fail
   refine (jb (fun _=>True) g [-1,0,3,1000,1001] _ _ 5 5 _ _ rfl D3.cur rfl (by decide) (by decide) rfl (by simp)).mono ?_
   rintro e w4 ⟨x,rfl,-,hc4,k4⟩
   have D4:=D3.but hgl k4 hc4
   clear D3 k4
   obtain ⟨b,cap2,vs,y,e,A⟩:=D4.at Hl.out
   rw [Hn.out] at e A
   simp only [Value.slice.injEq] at e
   obtain ⟨rfl,-,rfl⟩:=e
   have S:=A.fB hc4 D4.kb hgl x
   have HS:Hid (DK w (w4.setCell ⟨b,j*2,none⟩ (.int .i64 x)) g (.slice (some ⟨b,0,none⟩) n cap) (ls.set j { l with owner:=x })):=S
   have q1:=A.c0
   have q2:=A.fz
   clear S A D4 hc4
   go_wp2_with fail
   go_meet
   refine ⟨_,HS,by rw [List.length_set,Hn.out];exact h1,by rw [List.length_set,Hn.out];omega,?_⟩
   have z1:=wE { l with owner:=x } Hl.out
   have z2:=Hs.out
   dsimp only at z1
   clear HS q1 q2
   omega
  ·obtain ⟨b,cap2,vs,y,e,A0⟩:=D3.at Hl.out
   rw [Hn.out] at e A0
   simp only [Value.slice.injEq] at e
   obtain ⟨rfl,-,rfl⟩:=e
   have A:Hid (gp w w3 g b n cap vs ls j y l):=A0
   have D:Hid (DK w w3 g (.slice (some ⟨b,0,none⟩) n cap) ls):=D3
   obtain ⟨yo,ya,yn,yc⟩:=y
   have hbg:b≠g:=by have:=A0.lo;omega
   have r1:∀ w',ab g w3 w'->w'.cell? ⟨b,j*2+1,none⟩=some (.slice ya yn yc):=ab.has hbg A0.c1
   clear A0 D3
   have hw1:Hid (l.waits.length <= 16):=by show _ <= _;have:=lM Hl.out;have:=Hs.out;unfold bT at this;omega
   go_wp2_with fail
   go_region_law (first
    | (go_simp;go_at_call 49;refine (cF g _ _ (D.out.cur.keeps (by first | exact aa.refl _ | exact (aa.refl _).drew)) (by omega) (by omega)).mono ?_;rintro e w4 ⟨x,rfl,hy0,hy1,hc4,k4⟩;have Cd:ab g w3 w4:=ab.trans (by first | exact ab.refl _ _ | exact (ab.refl _ _).drew) k4;have A5:Hid (gp w (w4.alloc (.cells #[.int .i64 x] 3)) g b n cap vs ls j ⟨yo,ya,yn,yc⟩ l):=A.out.but hgl (Cd.alloc _);have K5:Hid (ab g w (w4.alloc (.cells #[.int .i64 x] 3))):=D.out.kb.trans (Cd.alloc _);have C5:Hid (bj (w4.alloc (.cells #[.int .i64 x] 3)) g):=hc4.keeps ((aa.refl _).alloc _))
    | (refine pA rfl (.tmp 30) (.tmp 33) 27 rfl w.heap.size 3 (.int .i64 0) 1 8 ic Tryz.underlying27 (by kernel_rfl) rfl (by decide) fW lN (.slice ya yn yc) l.waits (by simp [Act.eval]) A5.out.row K5.out.size [x] _ 0 1 (qE (ai.new _ _ _)) (by simp [Act.eval]) (by have:=hw1.out;simp [maxLen];omega) (by have:=hw1.out;simp;omega) ?_;intro v6 w6 o6 g6 f6;obtain ⟨a6,c7,e6,-,-,-⟩:=aS.ns o6;obtain ⟨m6,jV⟩:∃ m,Hid ((l.waits++[x]).length=m):=⟨_,rfl⟩;rw [jV.out] at e6;subst e6;obtain ⟨s3,s4⟩:=A5.out.still g6;have FIN:Hid (DK w (w6.setCell ⟨b,j*2+1,none⟩ (.slice a6 m6 c7)) g (.slice (some ⟨b,0,none⟩) n cap) (ls.set j { l with waits:=l.waits++[x] })):=A5.out.waits C5.out K5.out hgl o6 g6 (fun q hq=>(f6 q hq).imp id (fun e=>Nat.le_of_eq e.symm));clear o6 g6 f6))
   all_goals
    go_wp2_with fail
    go_meet
    refine ⟨_,FIN,by rw [List.length_set,Hn.out];exact h1,by rw [List.length_set,Hn.out];omega,?_⟩
    have z1:=wE { l with waits:=l.waits++[x] } Hl.out
    have z2:=Hs.out
    simp only [List.length_append,List.length_cons,List.length_nil] at z1
    clear FIN r1 s3 s4
    omega
  ·go_wp2_with fail
   refine (cF g _ _ D3.cur (by omega) (by omega)).mono ?_
   rintro e w4 ⟨m,rfl,hm0,hm1,hc4,k4⟩
   obtain ⟨n',mc⟩:∃ n:Nat,Hid (5+m=(n:Int)):=⟨(5+m).toNat,by show _=_;omega⟩
   have hn1:1 <= n':=by have:=mc.out;omega
   have jR:n' <= 6:=by have:=mc.out;omega
   have hmk:=Ce n' (by omega) (5+m) mc.out
   have S:Hid (DK w (w4.alloc (.cells (madeCells #[.int .i64 0,.slice none 0 0] (n'*2)) 37)) g (.slice (some ⟨w4.heap.size,0,none⟩) n' n') (List.replicate n' ⟨0,[]⟩)):=DK.made hc4 (D3.kb.trans k4) n' (by omega)
   clear D3 k4 hc4
   go_wp2_with fail
   go_meet
   exact ⟨_,S,by simp;omega,by simp;omega,by rw [Cf];omega⟩
  ·have n0:(c==0)=false:=by simp;omega
   have n1:(c==1)=false:=by simp;omega
   have n2:(c==2)=false:=by simp;omega
   have HD:Hid (DK w w3 g (.slice a n cap) ls):=D3
   clear D3
   go_wp2_with fail
   go_meet
   exact ⟨_,HD,by rw [Hn.out];omega,by rw [Hn.out];omega,by have:=Hs.out;omega⟩
 case rest =>
 obtain ⟨ls',D9,q1,q2,q3⟩:=hcut
 go_wp2
 go_ret
 exact ⟨_,ls',rfl,D9.out,q1,q2,q3⟩
end
set_option maxHeartbeats 1000000 in
theorem Fs (a:Option Addr) (n cap:Nat) (few most:Int) (w:World) (hn:n <= 1048576) (h0:0 <= few) (h1:few <= most) (h2:most <= 255) :
  Calls Tryz.prog 48 #[.slice a n cap,.int .i64 few,.int .i64 most] w fun e w'=>∃ z:Int,e = .returned (.int .i64 z) /\ 0 <= z /\ z <= most /\ w'=w:=by
 have hq:(n:Int).tdiv 4=(n:Int) / 4:=Int.tdiv_eq_ediv_of_nonneg (by omega)
 obtain ⟨d,Hd⟩:∃ d,Hid ((n:Int).tdiv 4=d):=⟨_,rfl⟩
 have hd0:0 <= d:=by rw [<- Hd.out,hq];omega
 have hd1:d <= 1048576:=by rw [<- Hd.out,hq];omega
 have hd:(n:Int).tdiv 4=d:=Hd.out
 have hw:IntKind.i64.wrap (few+d)=few+d:=Go.IntWalk.i64_in _ (by omega)
 clear hq Hd
 by_cases hm:most < few+d
 ·go_enter Tryz.func48,Tryz.ntmps48
  go_wp2
  go_ret
  exact ⟨most,rfl,by omega,by omega,rfl⟩
 ·go_enter Tryz.func48,Tryz.ntmps48
  go_wp2
  go_ret
  exact ⟨few+d,rfl,by omega,by omega,rfl⟩
theorem MB {s:Sy} (R:cV s) {i:Nat} {l:Lk} (hl:s.af[i]?=some l) (hw0:l.owner≠0):lZ l.waits (eO s.tasks l.waits)=true:=by
 have hlk:=R.af
 unfold gy at hlk
 simp only [Bool.and_eq_true] at hlk
 unfold lZ
 split
 ·next h0 =>
  have h1:l.waits=[]:=by simpa using h0
  rw [h1]
  unfold eO
  rw [R.tasks]
  rcases oI s.tasks (lV []) s.tasks.length (Nat.le_refl _) with ⟨e,_⟩ | ⟨j,t,e,_,hu,hc,_⟩
  ·rw [e];rfl
  ·cases hc
 ·next h0 =>
  unfold eO
  rw [R.tasks]
  rcases oI s.tasks (lV l.waits) s.tasks.length (Nat.le_refl _) with ⟨e,hnone⟩ | ⟨j,t,e,_,hu,hc,_⟩
  ·exfalso
   obtain ⟨y,hy⟩:∃ y,y∈l.waits:=by
    cases hl2:l.waits with
    | nil=>rw [hl2] at h0;simp at h0
    | cons a r=>exact ⟨a,by simp⟩
   have h1:=List.all_eq_true.1 hlk.2.2 l (List.mem_of_getElem? hl)
   unfold iC at h1
   rw [show (l.owner==0)=false from by simpa using hw0,Bool.false_or,Bool.and_eq_true,List.all_eq_true] at h1
   have h2:=h1.2 y hy
   unfold jo at h2
   rw [Bool.and_eq_true] at h2
   obtain ⟨k,t,_,hk,en⟩:=jL.1 h2.1
   have h3:=hnone k t (da hk) hk
   unfold lV at h3
   rw [en] at h3
   rw [il.2 hy] at h3
   cases h3
  ·show hasB l.waits (gT s.tasks _)=true
   rw [e]
   unfold gT
   rw [if_neg (by omega),Int.toNat_natCast,lU hu]
   exact hc
theorem Mh {s:Sy} (R:cV s) (no cpu a b:Int):jq s ⟨8,no,cpu,a,b⟩=(df s ⟨8,no,cpu,a,b⟩).toNat:=by
 have hlk:=R.af
 unfold gy at hlk
 simp only [Bool.and_eq_true] at hlk
 have h5:((s.af.length:Int) - 1)=4:=by rw [R.five];rfl
 cases hth:bF s.tasks no
 ·rw [sH (c:=⟨8,no,cpu,a,b⟩) rfl rfl hth]
  unfold jq iM
  dsimp only
  rw [hth]
  rfl
 rw [mh (c:=⟨8,no,cpu,a,b⟩) rfl rfl hth]
 show _=(je s ⟨8,no,cpu,a,b⟩ (de s.tasks no)).toNat
 obtain ⟨k,t,hk,ht,en⟩:=jL.1 hth
 rw [kh hk ht]
 have hn0:no≠0:=fun e=>by
  rw [e] at hth
  unfold bF at hth
  rw [Ay R.tasks] at hth
  cases hth
 unfold jq iM je
 dsimp only
 rw [hth,h5,kh hk ht]
 cases ha:aF a 0 4
 ·rfl
 have e1:(!decide (d8 s.af no < 0))=decide (0 <= d8 s.af no):=by rw [Bool.eq_iff_iff];simp
 have hr:ly s t=(t.st==2||decide (0 <= d8 s.af no)):=by unfold ly;rw [en]
 rw [hr,e1]
 obtain ⟨a0,a4⟩:=dq.1 ha
 obtain ⟨i,rfl⟩:∃ i:Nat,a=(i:Int):=⟨a.toNat,by omega⟩
 obtain ⟨l,hl⟩:=bW (xs:=s.af) (k:=i) (by omega)
 cases h1:(t.st==2)
 ·cases h2:decide (0 <= d8 s.af no)
  ·rw [Int.toNat_natCast,gO hl,qL hl]
   cases h3:(l.owner != no)
   ·have eo:l.owner=no:=by simpa using h3
    have hw0:l.owner≠0:=by rw [eo];exact hn0
    have lf:eD s.af i no (eO s.tasks l.waits)=true:=by
     unfold eD
     rw [hlk.2.1,Int.toNat_natCast,qL hl,MB R hl hw0,gO hl,h5,ha]
     simp [eo,hn0]
    rw [lf]
    rfl
   ·have lf:eD s.af i no (eO s.tasks l.waits)=false:=by
     unfold eD
     rw [Int.toNat_natCast,gO hl]
     have:(l.owner==no)=false:=by simpa using h3
     rw [this]
     simp
    rw [lf]
    rfl
  ·rfl
 ·rfl
section
attribute [local go_sem] aa.refl aa.alloc aa.drew aa.drewN
def nH (C:List Int) (k:Nat):Int:=if k=0 then 0 else C.getD (k - 1) 0
theorem MC {C:List Int} {k:Nat} {x:Int} (h:C[k]?=some x):nH C (k+1)=x:=by
 unfold nH
 rw [if_neg (by omega),Nat.add_sub_cancel,List.getD_eq_getElem?_getD,h]
 rfl
theorem MD {ts:List ag} {ls:List Lk} {no:Int} (ht:di ts=true):qc4 ts ls no=if (fG ls no).all (bF ts) then nH (fG ls no) (fG ls no).length else 0:=by
 unfold qc4 sa fG
 rw [ht]
 cases hb:dm ls
 ·simp [nH]
 ·simp only [Bool.and_self,if_true]
  unfold gx
  have:=vm ls no
  change (if (ig ls no).all (bF ts)=true then lj (ig ls no) else 0)=if (ig ls no).all (bF ts)=true then nH (ig ls no) (ig ls no).length else 0
  unfold lj nH
  rw [if_neg (show ¬ (ig ls no).length=0 by omega)]
set_option maxHeartbeats 2000000 in
theorem Ma:uW:=by
 intro w a n cap ts b m cap2 ls no hcap h2
 have H:Hid (Two w a n cap ts b m cap2 ls):=h2
 have CH:Hid (∀ w',aa w w'->Calls Tryz.prog 34 #[.slice b m cap2,.int .i64 no] w' fun e w''=>∃ v,e = .returned v /\ aS w'' w'.heap.size v (fG ls no) /\ aa w' w''):=fun w' k=>by
  have:=Jp b cap2 ls no w' h2.l.size (h2.l.keeps k).gP
  rw [h2.l.len] at this
  exact this
 clear h2 hcap
 cases ht:di ts
 ·have Hr:Hid (qc4 ts ls no=0):=by show _=_;unfold qc4 sa;rw [ht];rfl
  go_enter Tryz.func10,Tryz.ntmps10
  go_wp2_with (go_at_call 33;refine (H.out.t.fA ht (aa.refl _)).mono ?_;rintro e w1 ⟨rfl,k1⟩)
  go_ret
  exact ⟨by rw [Hr.out];rfl,k1⟩
 have hE:=MD (ls:=ls) (no:=no) ht
 obtain ⟨C,HC⟩:∃ C,Hid (fG ls no=C):=⟨_,rfl⟩
 rw [HC.out] at CH hE
 have HE:Hid (qc4 ts ls no=if C.all (bF ts) then nH C C.length else 0):=hE
 clear hE HC
 go_enter Tryz.func10,Tryz.ntmps10
 go_wp2_with fail
 refine (H.out.t.fA ht (aa.refl _)).mono ?_
 rintro e w1 ⟨rfl,k1⟩
 go_wp2_with fail
 refine (CH.out _ k1).mono ?_
 rintro e w2 ⟨v,rfl,o2,k2⟩
 obtain ⟨av,cv,rfl,nv,l1,l2⟩:=aS.ns o2
 have NV:Hid (Ns w2 av C):=nv
 have K2:Hid (aa w w2):=k1.trans k2
 obtain ⟨q,Hq⟩:∃ q,Hid (C.length=q):=⟨_,rfl⟩
 rw [Hq.out] at l1 ⊢
 have hq:q <= maxLen:=by omega
 unfold maxLen at hq
 clear o2 nv k1 k2 l2
 go_wp2
 go_loopw [7,17] (fun l i wr=>∃ (k:Nat) (z:Int),k <= q /\ i = .int .i64 k /\ l = .int .i64 z /\ Hid (nH C k=z) /\ aa w2 wr /\ Hid (∀ j x,j < k->C[j]?=some x->bF ts x=true)) (fun _ i _=>q - (intOf i).toNat)
 case atStart=>exact ⟨0,0,Nat.zero_le _,rfl,rfl,rfl,aa.refl _,fun j x hj=>by omega⟩
 case round =>
  obtain ⟨k,z,hk,rfl,rfl,Hl,hK,HH⟩:=hrel
  by_cases hlt:k < q
  ·have hlt':(k:Int) < (q:Int):=by omega
   obtain ⟨x,hx⟩:=bW (xs:=C) (k:=k) (by rw [Hq.out];exact hlt)
   obtain ⟨bc,oc,rfl,r0⟩:=NV.out.at hx
   have Hx:Hid (C[k]?=some x):=hx
   clear hx
   obtain ⟨y,Hy⟩:∃ y,Hid (dA ts x=y):=⟨_,rfl⟩
   cases hn:decide (y < 0)
   ·have hth:bF ts x=true:=by unfold bF;rw [Hy.out,hn];rfl
    go_wp2_with (go_at_call 17;refine (H.out.t.eR x Hy.out (K2.out.trans hK)).mono ?_;rintro e w3 ⟨rfl,k3⟩)
    exact ⟨⟨k+1,x,by omega,by go_num,rfl,MC Hx.out,hK.trans k3,fun j y hj hy=>by
     by_cases e:j=k
     ·subst e;rw [Hx.out] at hy;cases hy;exact hth
     ·exact HH.out j y (by omega) hy⟩,by simp only [intOf];omega⟩
   ·have hth:bF ts x=false:=by unfold bF;rw [Hy.out,hn];rfl
    have Hr:Hid (qc4 ts ls no=0):=by
     show _=_
     rw [HE.out,if_neg]
     rw [List.all_eq_true]
     intro h
     have:=h x (List.mem_of_getElem? Hx.out)
     rw [hth] at this
     cases this
    go_wp2_with (go_at_call 17;refine (H.out.t.eR x Hy.out (K2.out.trans hK)).mono ?_;rintro e w3 ⟨rfl,k3⟩)
    go_ret
    exact ⟨by rw [Hr.out];rfl,K2.out.trans (hK.trans k3)⟩
  ·have Hr:Hid (qc4 ts ls no=z):=by
    show _=_
    obtain rfl:k=q:=by omega
    rw [HE.out,if_pos,Hq.out]
    ·exact Hl.out
    ·rw [List.all_eq_true]
     intro x hx
     obtain ⟨j,hj,rfl⟩:=List.mem_iff_getElem.1 hx
     exact HH.out j _ (by rw [Hq.out] at hj;omega) (List.getElem?_eq_getElem hj)
   go_wp2
   go_ret
   exact ⟨by rw [Hr.out];rfl,K2.out.trans hK⟩
end
end Go.Proofs.YteagpjlgjfaclaaGreatDoor
