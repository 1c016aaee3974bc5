/-
  Locks that lie there, as the laws and later chapters hand t
  Drawn tasks: the contracts of the model's l3DrawList and Dr
-/
import Derived.Test.YthpdlbcdbncnhaaGreatDoorGLock2
import Derived.Test.YthpdlbcdbncnhaaGreatDoorGLock1
import Derived.Test.YthpdlbcdbncnhaaGreatDoorGLock3
import Derived.Test.YthpdlbcdbncnhaaGreatDoorGDraw1
import Derived.Test.YthpdlbcdbncnhaaGreatDoorGBase1
import Derived.Test.YthpdlbcdbncnhaaGreatDoorGTask3
import Derived.Test.YthpdlbcdbncnhaaGreatDoorGPure1
import Derived.Deep.DeepCutAuto
import Derived.Deep.CutBlock
import Derived.Deep.RegionHeld3
namespace Go.Proofs.YthpdlbcdbncnhaaGreatDoor
set_option maxRecDepth 100000
open Go.RowKit
theorem qdw (ls:List Lk):ls.length <= qak ls:=by unfold qak;omega
structure On (w:World) (a:Option Addr) (m cap:Nat) (ls:List Lk):Prop where
 len:ls.length=m
 size:qak ls <= 2097152
 lks:Lks true w a ls
 pl:Plain w a m cap
theorem On.keeps {w w':World} {a:Option Addr} {m cap:Nat} {ls:List Lk} (h:On w a m cap ls) (k:Keeps w w'):On w' a m cap ls:=⟨h.len,h.size,h.lks.keeps k,h.pl.keeps k⟩
theorem On.small {w:World} {a:Option Addr} {m cap:Nat} {ls:List Lk} (h:On w a m cap ls):ls.length <= maxLen:=by have:=qdw ls;have:=h.size;unfold maxLen;omega
section calls
variable {w w':World} {a:Option Addr} {m cap:Nat} {ls:List Lk}
theorem On.sLocksOk (h:On w a m cap ls) {z:Bool} (hz:qav ls=z) (k:Keeps w w'):Calls Tryz.prog 113 #[.slice a m cap] w' fun e w''=>e = .returned (.bool z) /\ Keeps w' w'':=by
 have h':=h.keeps k
 have:=qe7 a cap ls w' h'.size h'.lks
 rw [h'.len,hz] at this
 exact this
theorem On.at (h:On w a m cap ls) {i:Nat} {l:Lk} (hl:ls[i]?=some l):i < m /\ ∃ b off a' cap',a=some ⟨b,off,none⟩ /\ (∀ w',Keeps w w'->w'.cell? ⟨b,off+i*2,none⟩=some (.int .i64 l.owner)) /\ (∀ w',Keeps w w'->w'.cell? ⟨b,off+i*2+1,none⟩=some (.slice a' l.waits.length cap')) /\ l.waits.length <= maxLen /\ Ns w a' l.waits :=
 ⟨by rw [<- h.len];exact qas hl,h.lks.at hl⟩
theorem On.sChain (h:On w a m cap ls) (x:Int) (k:Keeps w w'):Calls Tryz.prog 159 #[.slice a m cap,.int .i64 x] w' fun e w''=>∃ v,e = .returned (.tuple #[v,.bool (qam ls (ls.length+1) x).2]) /\ OwnN w'' w'.heap.size v (qam ls (ls.length+1) x).1 /\ Keeps w' w'':=by
 have h':=h.keeps k
 have:=qe6 a cap ls x w' (by have:=qdw ls;have:=h'.size;omega) h'.lks
 rw [h'.len] at this
 rw [h'.len]
 exact this
end calls
theorem OwnN.cells {w:World} {base:Nat} {v:Value} {xs:List Int} (h:OwnN w base v xs) (hp:0 < xs.length):∃ b cap,v = .slice (some ⟨b,0,none⟩) xs.length cap /\ xs.length <= cap /\ ∀ (k:Nat) (x:Int),xs[k]?=some x->∀ w',Keeps w w'->w'.cell? ⟨b,k,none⟩=some (.int .i64 x):=by
 obtain ⟨b,cap,rfl⟩:=Own.blk h hp
 obtain ⟨_,_,e,_,h1,_⟩:=OwnN.ns h
 simp only [Value.slice.injEq] at e
 obtain ⟨rfl,-,rfl⟩:=e
 refine ⟨b,cap,rfl,h1,fun k x hx=>Keeps.has ?_⟩
 have:=Own.cellAt h qaZ (i:=k) (k:=0) hx (by omega)
 simpa using this
variable {p p':Bool}
attribute [local go_sem] Keeps.refl Keeps.alloc Keeps.drew Keeps.drewN
variable {p:Bool}
attribute [local go_sem] Keeps.refl Keeps.alloc Keeps.drew Keeps.drewN
theorem qic:∀ {ls:List Lk} {j:Nat} {l:Lk} (m:Lk),ls[j]?=some l->sumW (ls.set j m)+l.waits.length=sumW ls+m.waits.length
 | [],j,l,m,h=>by simp at h
 | x::r,0,l,m,h=>by
  simp at h
  subst h
  simp only [List.set_cons_zero,sumW]
  omega
 | x::r,j+1,l,m,h=>by
  have:=qic (ls:=r) (j:=j) m (by simpa using h)
  simp only [List.set_cons_succ,sumW]
  omega
theorem qga {ls:List Lk} {j:Nat} {l:Lk} (m:Lk) (h:ls[j]?=some l):qak (ls.set j m)+l.waits.length=qak ls+m.waits.length:=by
 have:=qic m h
 unfold qak
 rw [List.length_set]
 omega
theorem qgb {ls:List Lk} (f:Lk->Lk) (j:Nat) (hf:∀ l,(f l).waits.length <= l.waits.length+1):qak (ls.modify j f) <= qak ls+1:=by
 cases h:ls[j]? with
 | none =>
  have hl:ls.length <= j:=by
   rcases Nat.lt_or_ge j ls.length with h1 | h1
   ·rw [List.getElem?_eq_getElem h1] at h;cases h
   ·exact h1
  have:ls.modify j f=ls:=by
   apply List.ext_getElem?
   intro i
   rw [List.getElem?_modify]
   by_cases e:j=i
   ·subst e;rw [h];rfl
   ·simp [e]
  rw [this];omega
 | some l =>
  rw [qeE h]
  have:=qga (f l) h
  have:=hf l
  omega
theorem qid (ls:List Lk) (i no:Int):qak (askL ls i no) <= qak ls+1:=by
 unfold askL
 split
 ·simp [qak,sumW]
 ·split
  ·exact qgb _ _ fun l=>by simp [qcC]
  ·split
   ·exact qgb _ _ fun l=>by simp [qe9]
   ·omega
theorem qnf (ls:List Lk) (i no next:Int):qak (qa5 ls i no next) <= qak ls+1:=by
 unfold qa5
 split
 ·simp [qak,sumW]
 ·split
  ·exact qgb _ _ fun l=>by have:=qm7 l.waits next;simp [qd9];omega
  ·omega
section calls
variable {w w':World} {a:Option Addr} {m cap:Nat} {ls:List Lk}
end calls
end Go.Proofs.YthpdlbcdbncnhaaGreatDoor
namespace Go.Proofs.YthpdlbcdbncnhaaGreatDoor
set_option maxRecDepth 100000
open Go.RowKit
theorem Own.setFar {α:Type} {e:TypeId} {sz:Nat} {c:α->Array Value} {w:World} {base:Nat} {v:Value} {xs:List α} (h:Own e sz c w base v xs) {b:Nat} (hb:b < base) (o:Nat) (u:Value):Own e sz c (w.setCell ⟨b,o,none⟩ u) base v xs :=
 h.butG ((KeepsBut.refl b w).setCell o u) hb
theorem Own.putFar {α:Type} {e:TypeId} {sz:Nat} {c:α->Array Value} {base:Nat} {v:Value} {xs:List α} {b:Nat} (hb:b < base):∀ (L:List Value) {w:World} (k:Nat),Own e sz c w base v xs->Own e sz c (putC w b k L) base v xs
 | [],_,_,h=>h
 | u::r,_,k,h=>Own.putFar hb r (k+1) (h.setFar hb k u)
theorem qkG (t:Tsk) (ts:List Tsk):0 < (ins t ts).length:=by rw [qeU];omega
structure DL (w wr:World) (g:Nat) (v:Value) (xs:List Tsk):Prop where
 own:OwnT wr w.heap.size v xs
 adr:∃ b cp,v = .slice (some ⟨b,0,none⟩) xs.length cp
 cur:Cur wr g
 kb:KeepsBut g w wr
theorem DL.but {w wr wr':World} {g:Nat} {v:Value} {xs:List Tsk} (h:DL w wr g v xs) (hg:g < w.heap.size) (k:KeepsBut g wr wr') (hc:Cur wr' g):DL w wr' g v xs :=
 ⟨h.own.butG k hg,h.adr,hc,h.kb.trans k⟩
theorem DL.keeps {w wr wr':World} {g:Nat} {v:Value} {xs:List Tsk} (h:DL w wr g v xs) (hg:g < w.heap.size) (k:Keeps wr wr'):DL w wr' g v xs:=h.but hg (.of k) (h.cur.keeps k)
set_option maxHeartbeats 8000000 in
theorem qkH (g:Nat) (w:World) (hc:Cur w g) :
  Calls Tryz.prog 96 #[.pointer (some ⟨g,0,none⟩)] w fun e w'=>∃ (v:Value) (xs:List Tsk),e = .returned v /\ DL w w' g v xs /\ xs.length <= 13:=by
 have hgl:=hc.lt
 go_enter Tryz.func96,Tryz.ntmps96
 go_wp2_with fail
 have D0:DL w (w.alloc (.cells #[] 47)) g (.slice (some ⟨w.heap.size,0,none⟩) 0 0) [] :=
  ⟨Own.new 47 14 tc w (Nat.le_refl _),⟨_,_,rfl⟩,hc.keeps ((Keeps.refl w).alloc _),(KeepsBut.refl g w).alloc _⟩
 clear hc
 generalize w.alloc (.cells #[] 47)=W at *
 generalize hv0:Value.slice (some ⟨w.heap.size,0,none⟩) 0 0=v0 at *
 clear hv0
 refine (qal g _ _ D0.cur (by omega) (by omega)).mono ?_
 rintro e w1 ⟨m,rfl,hm0,hm1,hc1,k1⟩
 have D:=D0.but hgl k1 hc1
 clear D0 k1 hc1
 go_wp2_with fail
 refine (qdl g _ _ D.cur (by omega) (by omega)).mono ?_
 rintro e w2 ⟨b,rfl,hc2,k2⟩
 have D:=D.but hgl k2 hc2
 clear k2 hc2
 go_upto_if 12 with fail
 go_cut [4] (fun c wx=>∃ n:Nat,n <= 30 /\ c = .int .i64 n /\ wx=w2)
 case first =>
  cases b
  ·go_wp2_with fail
   go_meet
   exact ⟨m.toNat,by omega,by rw [Int.toNat_of_nonneg hm0],rfl⟩
  ·go_wp2_with fail
   go_meet
   exact ⟨30,by omega,rfl,rfl⟩
 case rest =>
 obtain ⟨n,hn,rfl,rfl⟩:=hcut
 go_wp2
 go_loopw [3,5] (fun v i wr=>∃ (k:Nat) (xs:List Tsk),k <= n /\ i = .int .i64 k /\ DL w wr g v xs /\ xs.length <= 12) (fun _ i _=>n - (intOf i).toNat)
 case atStart=>exact ⟨0,[],Nat.zero_le _,rfl,D,by simp⟩
 case round =>
  obtain ⟨k,xs,hk,rfl,D,hx12⟩:=hrel
  by_cases hlt:k < n
  ·have hlt':(k:Int) < (n:Int):=by omega
   obtain ⟨bv,cp,rfl⟩:=D.adr
   go_wp2_with fail
   refine (qg1 g _ D.cur).mono ?_
   rintro e w3 ⟨t,rfl,hc3,k3⟩
   have D:=D.but hgl k3 hc3
   clear k3 hc3
   have hl:Lies 14 tc w3 (some ⟨bv,0,none⟩) xs:=by
    obtain ⟨a,c,e,l,-,-⟩:=D.own.slice qaw
    simp only [Value.slice.injEq] at e
    obtain ⟨rfl,-,-⟩:=e
    exact l
   go_wp2_with fail
   refine (qiX bv 0 cp xs t w3 (by unfold maxLen;omega) hl).mono ?_
   rintro e w4 ⟨v4,rfl,own4,k4⟩
   have D4:=D.keeps hgl k4
   have hsz:=D.kb.size
   cases hb:putB xs t
   ·have HD:Hid (DL w w4 g (.slice (some ⟨bv,0,none⟩) xs.length cp) xs):=D4
    clear D D4 own4 k4 hl
    go_wp2
    exact ⟨⟨k+1,xs,by omega,by go_num,HD.out,hx12⟩,by simp only [intOf];omega⟩
   ·have e:putL xs t=ins t xs:=by
     simp only [putB,Bool.and_eq_true] at hb
     simp [putL,hb.1,hb.2]
    rw [e] at own4
    have hl12:(ins t xs).length <= 12:=by
     simp only [putB,Bool.and_eq_true] at hb
     exact qfm hb.2
    obtain ⟨b5,c5,rfl,-,-,-⟩:=own4.some qaw (qkG t xs)
    have HD:Hid (DL w w4 g (.slice (some ⟨b5,0,none⟩) (ins t xs).length c5) (ins t xs)):=⟨own4.base hsz,⟨_,_,rfl⟩,D4.cur,D4.kb⟩
    clear D D4 own4 k4 hl e
    go_wp2
    exact ⟨⟨k+1,_,by omega,by go_num,HD.out,hl12⟩,by simp only [intOf];omega⟩
  ·go_wp2_with fail
   refine (qdl g _ _ D.cur (by omega) (by omega)).mono ?_
   rintro e w5 ⟨b,rfl,hc5,k5⟩
   have D:=D.but hgl k5 hc5
   clear k5 hc5
   cases b
   ·have HD:Hid (DL w w5 g _ xs):=D
    clear D
    go_wp2
    go_ret
    exact ⟨_,xs,rfl,HD.out,by omega⟩
   ·go_wp2_with fail
    refine (qfC g _ D.cur).mono ?_
    rintro e w6 ⟨t,rfl,hc6,k6⟩
    have D:=D.but hgl k6 hc6
    clear k6 hc6
    have hsz:=D.kb.size
    have D7:=D.keeps hgl ((Keeps.refl w6).alloc (.cells (tc t) 47))
    have own7:=D7.own
    have HD:Hid (DL w (w6.alloc (.cells (tc t) 47)) g _ xs):=D7
    clear D D7
    go_wp2_with (at_builtin;(refine qjD rfl _ _ 32 rfl w.heap.size 47 (tk Tsk.zero) 14 112 tc Tryz.underlying32 (by kernel_rfl) rfl (by decide) qaw qb6 _ xs rfl own7 ?c0 t _ 1 (Blk.new _ _ _) rfl ?c1 ?c2 ?_))
    case c0=>simp;omega
    case c1=>unfold maxLen;omega
    case c2=>omega
    intro v8 w8 own8 gr8 hr8
    obtain ⟨b8,c8,e8,-,-,-⟩:=own8.some qaw (by simp)
    have HD8:Hid (DL w w8 g v8 (xs++[t])):=⟨own8,⟨_,_,e8⟩,HD.out.cur.grown gr8 (fun k hk=>by have:=hr8 k hk;omega),HD.out.kb.grown gr8 hr8⟩
    clear own7 own8 gr8 hr8 HD e8
    go_wp2
    go_ret
    exact ⟨_,_,rfl,HD8.out,by simp;omega⟩
end Go.Proofs.YthpdlbcdbncnhaaGreatDoor
namespace Go.Proofs.YthpdlbcdbncnhaaGreatDoor
set_option maxRecDepth 100000
open Go.RowKit
attribute [local go_sem] Keeps.refl Keeps.alloc Keeps.drew Keeps.drewN
structure DK (w wr:World) (g:Nat) (v:Value) (ls:List Lk):Prop where
 mine:∃ vs,Mine wr w.heap.size wr.heap.size v vs ls
 cur:Cur wr g
 kb:KeepsBut g w wr
theorem DK.but {w wr wr':World} {g:Nat} {v:Value} {ls:List Lk} (h:DK w wr g v ls) (hg:g < w.heap.size) (k:KeepsBut g wr wr') (hc:Cur wr' g):DK w wr' g v ls:=by
 obtain ⟨vs,M⟩:=h.mine
 exact ⟨⟨vs,(M.same fun b h1 _ h3=>k.block b h3 (by omega)).widen (Nat.le_refl _) k.size⟩,hc,h.kb.trans k⟩
theorem qg2 (n:Nat):qak (List.replicate n (⟨0,[]⟩:Lk))=n:=by
 have:sumW (List.replicate n (⟨0,[]⟩:Lk))=0:=by
  induction n with
  | zero=>rfl
  | succ n ih=>rw [List.replicate_succ];simp only [sumW,ih];rfl
 unfold qak
 rw [this]
 simp
theorem qg3 (n:Nat) (hn:n <= 1048576) (z:Int) (hz:z=(n:Int)):∀ w:World,(Instr.makeSlice 33 (.int .i64 z) (.int .i64 z)).run Tryz.prog w = .ok (.slice (some ⟨w.heap.size,0,none⟩) n n) (w.alloc (.cells (madeCells #[.int .i64 0,.slice none 0 0] (n*2)) 104)):=by
 subst hz
 have hmk:=qf6 (P:=Tryz.prog) 33 104 (.agg #[.int .i64 0,.slice none 0 0]) 2 32 Tryz.underlying33 (by kernel_rfl) n (by omega) (by omega)
 simp only [Value.cells] at hmk
 exact hmk
theorem DK.made {w wr:World} {g:Nat} (hc:Cur wr g) (k:KeepsBut g w wr) (n:Nat) (hn:n <= 1048576):DK w (wr.alloc (.cells (madeCells #[.int .i64 0,.slice none 0 0] (n*2)) 104)) g (.slice (some ⟨wr.heap.size,0,none⟩) n n) (List.replicate n ⟨0,[]⟩) :=
 ⟨⟨_,(Mine.zero wr n (by unfold maxLen;omega)).widen k.size (by simp)⟩,hc.keeps ((Keeps.refl _).alloc _),k.alloc _⟩
set_option maxHeartbeats 8000000 in
theorem qkI (g:Nat) (w:World) (hc:Cur w g) :
  Calls Tryz.prog 148 #[.pointer (some ⟨g,0,none⟩)] w fun e w'=>∃ (v:Value) (ls:List Lk),e = .returned v /\ DK w w' g v ls /\ 1 <= ls.length /\ ls.length <= 4 /\ qak ls <= 16:=by
 have hgl:=hc.lt
 go_enter Tryz.func148,Tryz.ntmps148
 go_wp2_with fail
 refine (qal g _ _ hc (by omega) (by omega)).mono ?_
 rintro e w1 ⟨m,rfl,hm0,hm1,hc1,k1⟩
 obtain ⟨n,Hn⟩:∃ n:Nat,Hid (1+m=(n:Int)):=⟨(1+m).toNat,by show _=_;omega⟩
 have hn1:1 <= n:=by have:=Hn.out;omega
 have hn4:n <= 4:=by have:=Hn.out;omega
 have hmk:=qg3 n (by omega) (1+m) Hn.out
 have D0:Hid (DK w (w1.alloc (.cells (madeCells #[.int .i64 0,.slice none 0 0] (n*2)) 104)) g (.slice (some ⟨w1.heap.size,0,none⟩) n n) (List.replicate n ⟨0,[]⟩)):=DK.made hc1 k1 n (by omega)
 clear k1 hc hc1
 go_wp2_with fail
 clear hmk
 generalize w1.alloc (.cells (madeCells #[.int .i64 0,.slice none 0 0] (n*2)) 104)=W at *
 generalize hv0:Value.slice (some ⟨w1.heap.size,0,none⟩) n n=v0 at *
 clear hv0
 refine (qal g _ _ D0.out.cur (by omega) (by omega)).mono ?_
 rintro e w2 ⟨q,rfl,hq0,hq1,hc2,k2⟩
 have D2:Hid (DK w w2 g v0 (List.replicate n ⟨0,[]⟩)):=D0.out.but hgl k2 hc2
 clear D0 k2 hc2
 obtain ⟨r,rfl⟩:=Int.eq_ofNat_of_zero_le hq0
 have hr:r < 12:=by omega
 go_wp2
 go_loopw [3,5] (fun v i wr=>∃ (k:Nat) (ls:List Lk),k <= r /\ i = .int .i64 k /\ Hid (DK w wr g v ls) /\ Hid (Right ls) /\ Hid (ls.length=n) /\ Hid (qak ls <= n+k)) (fun _ i _=>r - (intOf i).toNat)
 case atStart=>exact ⟨0,_,Nat.zero_le _,rfl,D2,qnv (by omega),by show _=_;simp,by show _ <= _;rw [qg2];omega⟩
 case round =>
  obtain ⟨k,ls,hk,rfl,D,R,hl,hsz⟩:=hrel
  clear D2
  by_cases hlt:k < r
  ·have hlt':(k:Int) < (r:Int):=by omega
   obtain ⟨vs,M⟩:=D.out.mine
   obtain ⟨a,cap,rfl,-,-,-⟩:=M.args
   clear M vs
   rw [hl.out] at D ⊢
   go_wp2_with fail
   refine (qal g _ _ D.out.cur (by omega) (by omega)).mono ?_
   rintro e w3 ⟨x,rfl,hx0,hx1,hc3,k3⟩
   have D3:Hid (DK w w3 g (.slice a n cap) ls):=D.out.but hgl k3 hc3
   clear D hc3 k3
   go_wp2_with fail
   refine (qal g _ _ D3.out.cur (by omega) (by omega)).mono ?_
   rintro e w4 ⟨y,rfl,hy0,hy1,hc4,k4⟩
   have D4:Hid (DK w w4 g (.slice a n cap) ls):=D3.out.but hgl k4 hc4
   clear D3 hc4 k4
   have L4:Hid (Lks true w4 a ls):=by
    obtain ⟨vs,M⟩:=D4.out.mine
    obtain ⟨a',cap',e,L,-,-⟩:=M.args
    simp only [Value.slice.injEq] at e
    obtain ⟨rfl,-,-⟩:=e
    exact L
   go_wp2_with fail
   have SA:=qib a cap ls x (1+y) w4 (by have:=hsz.out;omega) L4.out
   rw [hl.out] at SA
   refine SA.mono ?_
   rintro e w5 ⟨v5,vs5,rfl,M5,k5⟩
   have hR:=qnu R.out x (1+y)
   have D5:Hid (DK w w5 g v5 (askL ls x (1+y))):=⟨⟨vs5,M5.widen (D4.out.kb.size) (Nat.le_refl _)⟩,D4.out.cur.keeps k5,D4.out.kb.trans (.of k5)⟩
   have hs5:Hid (qak (askL ls x (1+y)) <= n+(k+1)):=by show _ <= _;have:=qid ls x (1+y);have:=hsz.out;omega
   have hl5:Hid ((askL ls x (1+y)).length=n):=by show _=_;rw [hR.2];exact hl.out
   have R5:Hid (Right (askL ls x (1+y))):=hR.1
   clear SA M5 k5 hR D4 L4
   go_wp2
   exact ⟨⟨k+1,_,by omega,by go_num,D5,R5,hl5,hs5⟩,by simp only [intOf];omega⟩
  ·go_wp2
   go_ret
   exact ⟨_,ls,rfl,D.out,by rw [hl.out];exact hn1,by rw [hl.out];exact hn4,by have:=hsz.out;omega⟩
end Go.Proofs.YthpdlbcdbncnhaaGreatDoor
namespace Go.Proofs.YthpdlbcdbncnhaaGreatDoor
set_option maxRecDepth 100000
open Go.RowKit
attribute [local go_sem] Keeps.refl Keeps.alloc Keeps.drew Keeps.drewN KeepsBut.refl KeepsBut.drew KeepsBut.alloc KeepsBut.drewN
structure DKat (w wr:World) (g:Nat) (b n cap:Nat) (vs:List Lv) (ls:List Lk) (j:Nat) (x:Lv) (l:Lk):Prop where
 mine:Mine wr w.heap.size wr.heap.size (.slice (some ⟨b,0,none⟩) n cap) vs ls
 vlen:vs.length=n
 hx:vs[j]?=some x
 hl:ls[j]?=some l
 own:Own 104 2 lvc wr w.heap.size (.slice (some ⟨b,0,none⟩) n cap) vs
 lo:w.heap.size <= b
 hi:b < wr.heap.size
 c0:wr.cell? ⟨b,j*2,none⟩=some (.int .i64 x.o)
 c1:wr.cell? ⟨b,j*2+1,none⟩=some x.row
 fz:∀ o,wr.frozen? ⟨b,o,none⟩=false
 xo:x.o=l.owner
 row:OwnN wr w.heap.size x.row l.waits
 far:∀ q,x.row.ownBlock=some q->q < wr.heap.size /\ q≠b
theorem DK.at {w wr:World} {g:Nat} {v:Value} {ls:List Lk} (h:DK w wr g v ls) {j:Nat} {l:Lk} (hl:ls[j]?=some l):∃ b cap vs x,v = .slice (some ⟨b,0,none⟩) ls.length cap /\ DKat w wr g b ls.length cap vs ls j x l:=by
 obtain ⟨vs,M⟩:=h.mine
 have hj:=qas hl
 have hv:vs.length=ls.length:=M.len
 obtain ⟨b,cap,e⟩:=M.own.blk (by omega)
 rw [hv] at e
 subst e
 obtain ⟨x,hx⟩:=qai (xs:=vs) (k:=j) (by omega)
 have O0:Own 104 2 lvc wr w.heap.size (.slice (some ⟨b,0,none⟩) vs.length cap) vs:=by rw [hv];exact M.own
 have X1:=M.rows j x l hx hl
 exact ⟨b,cap,vs,x,rfl,M,hv,hx,hl,M.own,(O0.ltb b rfl).1,(O0.ltb b rfl).2,O0.cellAt qby (k:=0) hx (by omega),O0.cellAt qby (k:=1) hx (by omega),fun o=>O0.frozenAt o,X1.1,X1.2,
  fun q hq=>⟨(X1.2.ltb q hq).2,fun e=>(M.inn j x q hx hq).2 (by rw [e];rfl)⟩⟩
theorem DKat.but {w wr wr':World} {g b n cap:Nat} {vs:List Lv} {ls:List Lk} {j:Nat} {x:Lv} {l:Lk} (h:DKat w wr g b n cap vs ls j x l) (hg:g < w.heap.size) (k:KeepsBut g wr wr'):DKat w wr' g b n cap vs ls j x l:=by
 have hb:wr'.heap[b]?=wr.heap[b]?:=k.block b h.hi (by have:=h.lo;omega)
 exact ⟨(h.mine.same fun q h1 _ h3=>k.block q h3 (by omega)).widen (Nat.le_refl _) k.size,h.vlen,h.hx,h.hl,h.own.same fun q hq=>k.block q (h.own.ltb q hq).2 (by have:=(h.own.ltb q hq).1;omega),h.lo,Nat.lt_of_lt_of_le h.hi k.size,
  (World.cell?_of_block (w:=wr) hb).trans h.c0,(World.cell?_of_block (w:=wr) hb).trans h.c1,fun o=>(World.frozen?_of_block (w:=wr) hb).trans (h.fz o),h.xo,h.row.same fun q hq=>k.block q (h.row.ltb q hq).2 (by have:=(h.row.ltb q hq).1;omega),
  fun q hq=>⟨Nat.lt_of_lt_of_le (h.far q hq).1 k.size,(h.far q hq).2⟩⟩
theorem DKat.setOwner {w wr:World} {g b n cap:Nat} {vs:List Lv} {ls:List Lk} {j:Nat} {x:Lv} {l:Lk} (h:DKat w wr g b n cap vs ls j x l) (hc:Cur wr g) (kb:KeepsBut g w wr) (hg:g < w.heap.size) (c:Int) :
  DK w (wr.setCell ⟨b,j*2,none⟩ (.int .i64 c)) g (.slice (some ⟨b,0,none⟩) n cap) (ls.set j { l with owner:=c }):=by
 have m:=h.mine
 rw [<- h.vlen] at m
 have:=m.setOwner h.hx h.hl c
 rw [List.length_set,h.vlen] at this
 refine ⟨⟨_,this.widen (Nat.le_refl _) (by simp)⟩,hc.setNew (Nat.lt_of_lt_of_le hg h.lo) _ _,kb.setNew h.lo _⟩
theorem DKat.waits {w w5 w6:World} {g b n cap:Nat} {vs:List Lv} {ls:List Lk} {j:Nat} {x:Lv} {l:Lk} (h:DKat w w5 g b n cap vs ls j x l) (hc:Cur w5 g) (kb:KeepsBut g w w5) (hg:g < w.heap.size) {ws:List Int} {a:Option Addr} {m c:Nat}
  (O6:OwnN w6 w.heap.size (.slice a m c) ws) (g6:w5.grownBy w6 x.row.ownBlock) (f6:∀ q,(Value.slice a m c).ownBlock=some q->x.row.ownBlock=some q∨w5.heap.size <= q) :
  DK w (w6.setCell ⟨b,j*2+1,none⟩ (.slice a m c)) g (.slice (some ⟨b,0,none⟩) n cap) (ls.set j { l with waits:=ws }):=by
 have key:∀ q,q < w5.heap.size->x.row.ownBlock≠some q->w6.heap[q]?=w5.heap[q]?:=fun q hq hne=>g6.block q hq (fun e=>hne e.symm)
 have h36:w6.heap[b]?=w5.heap[b]?:=key b h.hi (fun e=>(h.far b e).2 rfl)
 have ow6:Own 104 2 lvc w6 w.heap.size (.slice (some ⟨b,0,none⟩) n cap) vs:=h.own.same fun q hq=>by
  have:q=b:=by simp [Value.ownBlock] at hq;exact hq.symm
  rw [this];exact h36
 have hrow:∀ q,x.row.ownBlock=some q->w.heap.size <= q:=fun q hq=>(h.row.ltb q hq).1
 refine ⟨⟨vs.set j ⟨x.o,a,m,c⟩,?_⟩,?_,?_⟩
 ·refine h.mine.swap (x:=x) (y:=⟨x.o,a,m,c⟩) h.hx (ow6.setAt qby (i:=j) (j:=1) (x:=x) (y:=⟨x.o,a,m,c⟩) (u := .slice a m c) h.hx (by omega) rfl) (fun q h1 h2 h3 => ?_) h.xo ?_ (by have:=g6.size;simpa using this) (fun q hq => ?_)
  ·have:q≠b:=fun e=>h1 (by rw [e];rfl)
   rw [qbl this]
   exact key q h3 h2
  ·refine Own.same O6 fun q hq=>qbl ?_
   rcases f6 q hq with h1 | h1
   ·exact (h.far q h1).2
   ·have:=h.hi;omega
  ·rcases f6 q hq with h1 | h1
   ·exact .inr h1
   ·have:=O6.ltb q hq
    exact .inl ⟨by omega,by simp;omega⟩
 ·exact (hc.grown g6 (fun k hk=>Nat.lt_of_lt_of_le hg (hrow k hk))).setNew (Nat.lt_of_lt_of_le hg h.lo) _ _
 ·exact (kb.grown g6 (fun k hk=>hrow k hk)).setNew h.lo _
theorem DKat.still {w w5 w6:World} {g b n cap:Nat} {vs:List Lv} {ls:List Lk} {j:Nat} {x:Lv} {l:Lk} (h:DKat w w5 g b n cap vs ls j x l) (g6:w5.grownBy w6 x.row.ownBlock):w6.cell? ⟨b,j*2+1,none⟩=some x.row /\ ∀ o,w6.frozen? ⟨b,o,none⟩=false:=by
 have h36:w6.heap[b]?=w5.heap[b]?:=g6.block b h.hi (fun e=>(h.far b e.symm).2 rfl)
 exact ⟨(World.cell?_of_block (w:=w5) h36).trans h.c1,fun o=>(World.frozen?_of_block (w:=w5) h36).trans (h.fz o)⟩
set_option maxHeartbeats 8000000 in
theorem qkJ (g:Nat) (w:World) (hc:Cur w g) :
  Calls Tryz.prog 97 #[.pointer (some ⟨g,0,none⟩)] w fun e w'=>∃ (v:Value) (ls:List Lk),e = .returned v /\ DK w w' g v ls /\ 1 <= ls.length /\ ls.length <= 6 /\ qak ls <= 17:=by
 have hgl:=hc.lt
 go_enter Tryz.func97,Tryz.ntmps97
 go_wp2_with fail
 refine (qkI g _ hc).mono ?_
 rintro e w1 ⟨v,ls,rfl,D1,h1,h4,hs⟩
 obtain ⟨vs,M⟩:=D1.mine
 obtain ⟨a,cap,rfl,-,-,-⟩:=M.args
 clear M vs hc
 obtain ⟨n,Hn⟩:∃ n:Nat,Hid (ls.length=n):=⟨_,rfl⟩
 rw [Hn.out] at h1 h4 D1 ⊢
 have Hs:Hid (qak ls <= 16):=hs
 clear hs
 go_wp2_with fail
 refine (qal g _ _ D1.cur (by omega) (by omega)).mono ?_
 rintro e w2 ⟨jj,rfl,hj0,hj1,hc2,k2⟩
 have D2:=D1.but hgl k2 hc2
 clear D1 hc2 k2
 obtain ⟨j,rfl⟩:=Int.eq_ofNat_of_zero_le hj0
 have hj:j < n:=by omega
 go_wp2_with fail
 refine (qal g _ _ D2.cur (by omega) (by omega)).mono ?_
 rintro e w3 ⟨c,rfl,hx0,hx1,hc3,k3⟩
 have D3:=D2.but hgl k3 hc3
 clear D2 hc3 k3
 obtain ⟨l,hl1⟩:=qai (xs:=ls) (k:=j) (by rw [Hn.out];exact hj)
 have Hl:Hid (ls[j]?=some l):=hl1
 clear hl1
 go_upto_block 0 with fail
 go_cut [3] (fun u wx=>∃ ls':List Lk,Hid (DK w wx g u ls') /\ 1 <= ls'.length /\ ls'.length <= 6 /\ qak ls' <= 17)
 case first =>
  obtain rfl | rfl | rfl | hc8:c=0∨c=1∨c=2∨3 <= c:=by omega
  ·go_wp2_with fail
   refine (qcv (fun _=>True) g [-1,0,3,1000,1001] _ _ 5 5 _ _ rfl D3.cur rfl (by decide) (by decide) rfl (by simp)).mono ?_
   rintro e w4 ⟨x,rfl,-,hc4,k4⟩
   have D4:=D3.but hgl k4 hc4
   clear D3 k4
   obtain ⟨b,cap2,vs,y,e,A⟩:=D4.at Hl.out
   rw [Hn.out] at e A
   simp only [Value.slice.injEq] at e
   obtain ⟨rfl,-,rfl⟩:=e
   have S:=A.setOwner hc4 D4.kb hgl x
   have HS:Hid (DK w (w4.setCell ⟨b,j*2,none⟩ (.int .i64 x)) g (.slice (some ⟨b,0,none⟩) n cap) (ls.set j { l with owner:=x })):=S
   have q1:=A.c0
   have q2:=A.fz
   clear S A D4 hc4
   go_wp2_with fail
   go_meet
   refine ⟨_,HS,by rw [List.length_set,Hn.out];exact h1,by rw [List.length_set,Hn.out];omega,?_⟩
   have z1:=qga { l with owner:=x } Hl.out
   have z2:=Hs.out
   dsimp only at z1
   clear HS q1 q2
   omega
  ·obtain ⟨b,cap2,vs,y,e,A0⟩:=D3.at Hl.out
   rw [Hn.out] at e A0
   simp only [Value.slice.injEq] at e
   obtain ⟨rfl,-,rfl⟩:=e
   have A:Hid (DKat w w3 g b n cap vs ls j y l):=A0
   have D:Hid (DK w w3 g (.slice (some ⟨b,0,none⟩) n cap) ls):=D3
   obtain ⟨yo,ya,yn,yc⟩:=y
   have hbg:b≠g:=by have:=A0.lo;omega
   have r1:∀ w',KeepsBut g w3 w'->w'.cell? ⟨b,j*2+1,none⟩=some (.slice ya yn yc):=KeepsBut.has hbg A0.c1
   clear A0 D3
   have hw1:Hid (l.waits.length <= 16):=by show _ <= _;have:=qdu Hl.out;have:=Hs.out;unfold qak at this;omega
   go_wp2_with fail
   go_region_law (first
    | (go_simp;go_at_call 57;refine (qal g _ _ (D.out.cur.keeps (by first | exact Keeps.refl _ | exact (Keeps.refl _).drew)) (by omega) (by omega)).mono ?_;rintro e w4 ⟨x,rfl,hy0,hy1,hc4,k4⟩;have k4':KeepsBut g w3 w4:=KeepsBut.trans (by first | exact KeepsBut.refl _ _ | exact (KeepsBut.refl _ _).drew) k4;have A5:Hid (DKat w (w4.alloc (.cells #[.int .i64 x] 3)) g b n cap vs ls j ⟨yo,ya,yn,yc⟩ l):=A.out.but hgl (k4'.alloc _);have K5:Hid (KeepsBut g w (w4.alloc (.cells #[.int .i64 x] 3))):=D.out.kb.trans (k4'.alloc _);have C5:Hid (Cur (w4.alloc (.cells #[.int .i64 x] 3)) g):=hc4.keeps ((Keeps.refl _).alloc _))
    | (refine qd7 rfl (.tmp 30) (.tmp 33) 25 rfl w.heap.size 3 (.int .i64 0) 1 8 ic Tryz.underlying25 (by kernel_rfl) rfl (by decide) qaZ qci (.slice ya yn yc) l.waits (by simp [Act.eval]) A5.out.row K5.out.size [x] _ 0 1 (qeD (Blk.new _ _ _)) (by simp [Act.eval]) (by have:=hw1.out;simp [maxLen];omega) (by have:=hw1.out;simp;omega) ?_;intro v6 w6 o6 g6 f6;obtain ⟨a6,c7,e6,-,-,-⟩:=OwnN.ns o6;obtain ⟨m6,Hm6⟩:∃ m,Hid ((l.waits++[x]).length=m):=⟨_,rfl⟩;rw [Hm6.out] at e6;subst e6;obtain ⟨s3,s4⟩:=A5.out.still g6;have FIN:Hid (DK w (w6.setCell ⟨b,j*2+1,none⟩ (.slice a6 m6 c7)) g (.slice (some ⟨b,0,none⟩) n cap) (ls.set j { l with waits:=l.waits++[x] })):=A5.out.waits C5.out K5.out hgl o6 g6 (fun q hq=>(f6 q hq).imp id (fun e=>Nat.le_of_eq e.symm));clear o6 g6 f6))
   all_goals
    go_wp2_with fail
    go_meet
    refine ⟨_,FIN,by rw [List.length_set,Hn.out];exact h1,by rw [List.length_set,Hn.out];omega,?_⟩
    have z1:=qga { l with waits:=l.waits++[x] } Hl.out
    have z2:=Hs.out
    simp only [List.length_append,List.length_cons,List.length_nil] at z1
    clear FIN r1 s3 s4
    omega
  ·go_wp2_with fail
   refine (qal g _ _ D3.cur (by omega) (by omega)).mono ?_
   rintro e w4 ⟨m,rfl,hm0,hm1,hc4,k4⟩
   obtain ⟨n',Hn'⟩:∃ n:Nat,Hid (5+m=(n:Int)):=⟨(5+m).toNat,by show _=_;omega⟩
   have hn1:1 <= n':=by have:=Hn'.out;omega
   have hn4:n' <= 6:=by have:=Hn'.out;omega
   have hmk:=qg3 n' (by omega) (5+m) Hn'.out
   have S:Hid (DK w (w4.alloc (.cells (madeCells #[.int .i64 0,.slice none 0 0] (n'*2)) 104)) g (.slice (some ⟨w4.heap.size,0,none⟩) n' n') (List.replicate n' ⟨0,[]⟩)):=DK.made hc4 (D3.kb.trans k4) n' (by omega)
   clear D3 k4 hc4
   go_wp2_with fail
   go_meet
   exact ⟨_,S,by simp;omega,by simp;omega,by rw [qg2];omega⟩
  ·have n0:(c==0)=false:=by simp;omega
   have n1:(c==1)=false:=by simp;omega
   have n2:(c==2)=false:=by simp;omega
   have HD:Hid (DK w w3 g (.slice a n cap) ls):=D3
   clear D3
   go_wp2_with fail
   go_meet
   exact ⟨_,HD,by rw [Hn.out];omega,by rw [Hn.out];omega,by have:=Hs.out;omega⟩
 case rest =>
 obtain ⟨ls',D9,q1,q2,q3⟩:=hcut
 go_wp2
 go_ret
 exact ⟨_,ls',rfl,D9.out,q1,q2,q3⟩
end Go.Proofs.YthpdlbcdbncnhaaGreatDoor
