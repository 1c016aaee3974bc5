/-
  Rows of locks: made anew, marked, and looked at again. Lock
-/
import Derived.Test.YthpdlbcdbncnhaaGreatDoorGLock1
import Derived.Test.YthpdlbcdbncnhaaGreatDoorGBase2
import Derived.Test.YthpdlbcdbncnhaaGreatDoorGPure1
namespace Go.Proofs.YthpdlbcdbncnhaaGreatDoor
set_option maxRecDepth 100000
open Go.RowKit
variable {p p':Bool}
attribute [local go_sem] Keeps.refl Keeps.alloc Keeps.drew Keeps.drewN
theorem Mine.swap {w w':World} {lo hi hi':Nat} {v:Value} {vs:List Lv} {ls:List Lk} (h:Mine w lo hi v vs ls) {k:Nat} {x y:Lv} {l:Lk} (hx:vs[k]?=some x) (O:Own 104 2 lvc w' lo v (vs.set k y))
  (g:∀ b,v.ownBlock≠some b->x.row.ownBlock≠some b->b < w.heap.size->w'.heap[b]?=w.heap[b]?) (he:y.o=l.owner) (ho:OwnN w' lo y.row l.waits) (hh:hi <= hi')
  (hb:∀ b,y.row.ownBlock=some b->(hi <= b /\ b < hi')∨x.row.ownBlock=some b):Mine w' lo hi' v (vs.set k y) (ls.set k l):=by
 have hv:∀ b,y.row.ownBlock=some b->b < hi' /\ v.ownBlock≠some b:=by
  intro b e
  rcases hb b e with ⟨h1,h2⟩ | h1
  ·exact ⟨h2,fun e'=>by have:=h.out b e';omega⟩
  ·exact ⟨Nat.lt_of_lt_of_le (h.inn k x b hx h1).1 hh,(h.inn k x b hx h1).2⟩
 have ha:∀ (j:Nat) (z:Lv) (b:Nat),j≠k->vs[j]?=some z->y.row.ownBlock=some b->z.row.ownBlock=some b->False:=by
  intro j z b hj hz e1 e2
  rcases hb b e1 with ⟨h1,h2⟩ | h1
  ·have:=(h.inn j z b hz e2).1;omega
  ·exact hj (h.apart j k z x b hz hx e2 h1)
 refine ⟨by simp [h.len],O,fun b e=>Nat.lt_of_lt_of_le (h.out b e) hh,?_,?_,?_⟩
 ·intro i z m hz hm
  rcases qcJ hz with ⟨rfl,rfl⟩ | ⟨hik,hz2⟩ <;> rcases qcJ hm with ⟨h1,rfl⟩ | ⟨h1,hm2⟩
  ·exact ⟨he,ho⟩
  ·exact absurd rfl h1
  ·exact absurd h1 hik
  ·obtain ⟨r1,r2⟩:=h.rows i z m hz2 hm2
   exact ⟨r1,r2.same fun b e=>g b (h.inn i z b hz2 e).2 (fun e'=>hik (h.apart i k z x b hz2 hx e e')) (r2.ltb b e).2⟩
 ·intro i z b hz e
  rcases qcJ hz with ⟨rfl,rfl⟩ | ⟨hik,hz2⟩
  ·exact hv b e
  ·exact ⟨Nat.lt_of_lt_of_le (h.inn i z b hz2 e).1 hh,(h.inn i z b hz2 e).2⟩
 ·intro i j p q b hp hq e1 e2
  rcases qcJ hp with ⟨rfl,rfl⟩ | ⟨hik,hp2⟩ <;> rcases qcJ hq with ⟨rfl,rfl⟩ | ⟨hjk,hq2⟩
  ·rfl
  ·exact (ha j q b hjk hq2 e1 e2).elim
  ·exact (ha i p b hik hp2 e2 e1).elim
  ·exact h.apart i j p q b hp2 hq2 e1 e2
theorem Own.setTwo {w:World} {base b n cap:Nat} {vs:List Lv} (h:Own 104 2 lvc w base (.slice (Option.some ⟨b,0,none⟩) n cap) vs) {k:Nat} {x:Lv} (hx:vs[k]?=Option.some x) (y:Lv) :
  Own 104 2 lvc ((w.setCell ⟨b,k*2,none⟩ (.int .i64 y.o)).setCell ⟨b,k*2+1,none⟩ y.row) base (.slice (Option.some ⟨b,0,none⟩) n cap) (vs.set k y):=by
 have h1:=h.setAt qby (i:=k) (j:=0) (x:=x) (y:={ x with o:=y.o }) (u := .int .i64 y.o) hx (by omega) rfl
 have hl:=qas hx
 have h2:=h1.setAt qby (i:=k) (j:=1) (x:={ x with o:=y.o }) (y:=y) (u:=y.row) (List.getElem?_set_self hl) (by omega) rfl
 rw [List.set_set] at h2
 exact h2
theorem qf6 {P:Program} (t e:TypeId) (z:Value) (size bytes:Nat) (ht:P.underlying t=some (.slice e)) (hinfo:(P.info? e).map (fun i=>(i.zero,i.size,i.bytes))=some (some z,size,bytes))
  (n:Nat) (hbytes:bytes*n <= 281474976710656) (h63:n <= 9223372036854775807) :
  ∀ w:World,(Instr.makeSlice t (.int .i64 (n:Int)) (.int .i64 (n:Int))).run P w = .ok (.slice (some ⟨w.heap.size,0,none⟩) n n) (w.alloc (.cells (madeCells z.cells (n*size)) e)):=by
 obtain ⟨i,hi,hzz⟩:=Option.map_eq_some_iff.1 hinfo
 simp only [Prod.mk.injEq] at hzz
 obtain ⟨hz,hs,hb⟩:=hzz
 intro w
 have hb':(i.bytes:Int)*(n:Int) <= 281474976710656:=by
  have h:((i.bytes*n:Nat):Int) <= 281474976710656:=by rw [hb];omega
  rwa [Int.natCast_mul] at h
 have hr:=run_make (P:=P) w t e i z ht hi hz .i64 .i64 n n (by omega) (Int.le_refl _) hb' (by omega)
 simp only [Int.toNat_natCast,hs] at hr
 exact hr
abbrev Lv.zero:Lv:=⟨0,none,0,0⟩
theorem qm1 (n:Nat):(madeCells #[.int .i64 0,.slice none 0 0] (n*2)).toList=qat lvc (List.replicate n Lv.zero):=by
 apply List.ext_getElem?
 intro j
 by_cases hj:j < n*2
 ·have hq:j / 2 < n:=by omega
  have:=qdH qby (List.replicate n Lv.zero) (j / 2) Lv.zero (by simp [hq]) (j % 2) (by omega)
  rw [show j / 2*2+j % 2=j from by omega] at this
  rw [this]
  simp only [madeCells,Array.getElem?_toList,Array.getElem?_map,Array.getElem?_range,hj,if_true,Option.map_some]
  rcases (show j % 2=0∨j % 2=1 by omega) with e | e <;> simp [e]
 ·rw [List.getElem?_eq_none (by simpa [madeCells] using hj),List.getElem?_eq_none]
  have:=qcY qby (List.replicate n Lv.zero)
  simp at this
  omega
theorem Mine.zero (w:World) (n:Nat) (hn:n <= maxLen):Mine (w.alloc (.cells (madeCells #[.int .i64 0,.slice none 0 0] (n*2)) 104)) w.heap.size (w.heap.size+1) (.slice (some ⟨w.heap.size,0,none⟩) n n) (List.replicate n Lv.zero) (List.replicate n ⟨0,[]⟩):=by
 refine ⟨by simp,?_,?_,?_,?_,?_⟩
 ·have:=World.ownsRow_lit (e:=104) (size:=2) (base:=w.heap.size) w (madeCells #[.int .i64 0,.slice none 0 0] (n*2)) n (Nat.le_refl _) hn (size_madeCells _ _)
  rw [qm1] at this
  unfold Own
  rw [List.length_replicate]
  exact this
 ·intro b hb
  simp only [Value.ownBlock,Option.some.injEq] at hb
  omega
 ·intro i x l hx hl
  have e1:=List.eq_of_mem_replicate (List.mem_of_getElem? hx)
  have e2:=List.eq_of_mem_replicate (List.mem_of_getElem? hl)
  subst e1 e2
  exact ⟨rfl,World.ownsRow_nil _ _ _ _⟩
 ·intro i x b hx hb
  have e1:=List.eq_of_mem_replicate (List.mem_of_getElem? hx)
  subst e1
  simp [Value.ownBlock] at hb
 ·intro i j x y b hx hy h1 h2
  have e1:=List.eq_of_mem_replicate (List.mem_of_getElem? hx)
  subst e1
  simp [Value.ownBlock] at h1
variable {p p':Bool}
attribute [local go_sem] Keeps.refl Keeps.alloc Keeps.drew Keeps.drewN
theorem qh7 (ls:List Lk):∀ (f:Nat) (no:Int),(qam ls f no).1.length <= f+1
 | 0,no=>by simp [qam]
 | f+1,no=>by
  cases h:qax ls no with
  | none=>rw [qea h];simp
  | some i =>
   rw [qeb h]
   have:=qh7 ls f (qaB ls i)
   simp only [List.length_cons]
   omega
set_option maxHeartbeats 2000000 in
theorem qe6 (a:Option Addr) (cap:Nat) (ls:List Lk) (no:Int) (w:World) (hl:ls.length <= 2097152) (hs:Lks p w a ls) :
  Calls Tryz.prog 159 #[.slice a ls.length cap,.int .i64 no] w fun e w'=>∃ v,e = .returned (.tuple #[v,.bool (qam ls (ls.length+1) no).2]) /\ OwnN w' w.heap.size v (qam ls (ls.length+1) no).1 /\ Keeps w w':=by
 have HS:Hid (Lks p w a ls):=hs
 clear hs
 have Hl:Hid (ls.length <= maxLen):=by show _ <= _;unfold maxLen;omega
 generalize hn:ls.length=n at hl
 have Hn:Hid (ls.length=n):=hn
 clear hn
 obtain ⟨C,HC⟩:∃ C,Hid (qam ls (n+1) no=C):=⟨_,rfl⟩
 rw [HC.out]
 go_enter Tryz.func159,Tryz.ntmps159
 go_wp2
 have kz:Hid (Keeps w (w.alloc (.cells #[.int .i64 no] 3))):=(Keeps.refl _).alloc _
 have own0:Hid (OwnN (w.alloc (.cells #[.int .i64 no] 3)) w.heap.size (.slice (some ⟨w.heap.size,0,none⟩) 1 1) ([]++[no])):=World.ownsRow_lit w #[.int .i64 no] 1 (Nat.le_refl _) (by unfold maxLen;omega) rfl
 generalize w.alloc (.cells #[.int .i64 no] 3)=W at *
 go_loopw [1,6,7] (fun c v i wr=>∃ (k:Nat) (done:List Int) (cur:Int),k <= n+1 /\ i = .int .i64 k /\ c = .int .i64 cur /\ done.length=k /\ Hid (OwnN wr w.heap.size v (done++[cur])) /\ Keeps w wr /\ Hid (C=(done++(qam ls (n+1 - k) cur).1,(qam ls (n+1 - k) cur).2))) (fun _ _ i _=>n+1 - (intOf i).toNat)
 case atStart=>exact ⟨0,[],no,Nat.zero_le _,rfl,rfl,rfl,own0,kz.out,by show _=_;rw [<- HC.out];simp⟩
 case round =>
  obtain ⟨k,done,cur,hk,rfl,rfl,hd,own,hK,HI⟩:=hrel
  clear own0 kz
  by_cases hlt:k <= n
  ·have hlt':(k:Int) <= (n:Int):=by omega
   obtain ⟨f,Hf⟩:∃ f,Hid (n+1 - k=f+1):=⟨n - k,by show _=_;omega⟩
   have HI2:Hid (C=(done++(qam ls (f+1) cur).1,(qam ls (f+1) cur).2)):=by show _=_;rw [<- Hf.out];exact HI.out
   cases hx:qax ls cur with
   | none =>
    have Hw:Hid (qaK ls cur = -1):=by show _=_;unfold qaK;rw [hx]
    have HR:Hid (C=(done++[cur],true)):=by show _=_;rw [HI2.out,qea hx]
    go_wp2_with (go_at_call 194;refine (by have:=qe5 a cap ls cur wr Hl.out (HS.out.keeps hK);rw [Hn.out,Hw.out] at this;exact this:Calls Tryz.prog 194 #[.slice a n cap,.int .i64 cur] wr fun e w'=>e = .returned (.int .i64 (-1)) /\ Keeps wr w').mono ?_;rintro e w1 ⟨rfl,k1⟩)
    go_ret2
    exact ⟨_,by rw [HR.out];rfl,by rw [HR.out];exact own.out.keeps k1,hK.trans k1⟩
   | some i =>
    obtain ⟨l,hl1,-,-⟩:=qda hx
    have Hw:Hid (qaK ls cur=(i:Int)):=by show _=_;unfold qaK;rw [hx]
    have Hi:Hid (i < n):=by show _ < _;have:=qas hl1;rw [Hn.out] at this;exact this
    have hi1:(i:Int) < (n:Int):=by have:=Hi.out;omega
    obtain ⟨b,off,a',cap',rfl,r0,r1,-,-⟩:=HS.out.at hl1
    have HR:Hid (C=((done++[cur])++(qam ls f l.owner).1,(qam ls f l.owner).2)):=by
     show _=_
     rw [HI2.out,qeb hx,qbS hl1]
     simp
    clear hl1 r1
    go_wp2_with (first
     | (go_at_call 194;refine (by have:=qe5 (some ⟨b,off,none⟩) cap ls cur wr Hl.out (HS.out.keeps hK);rw [Hn.out,Hw.out] at this;exact this:Calls Tryz.prog 194 #[.slice (some ⟨b,off,none⟩) n cap,.int .i64 cur] wr fun e w'=>e = .returned (.int .i64 (i:Int)) /\ Keeps wr w').mono ?_;rintro e w1 ⟨rfl,k1⟩;have kk:Keeps w w1:=hK.trans k1)
     | (at_builtin;(refine qbi rfl _ _ 25 rfl w 3 (.int .i64 0) 1 8 ic Tryz.underlying25 (by kernel_rfl) rfl (by decide) qaZ qci _ (done++[cur]) rfl w1 (own.out.keeps k1) kk ((Keeps.refl _).alloc _) l.owner _ 1 (Blk.new _ _ _) rfl ?c1 ?c2 ?_)))
    case c1=>simp only [List.length_append,List.length_singleton];unfold maxLen;omega
    case c2=>simp only [List.length_append,List.length_singleton];omega
    intro v' w5 own5 k5 _
    have HO:Hid (OwnN w5 w.heap.size v' (done++[cur]++[l.owner])):=by show OwnN _ _ _ _;simpa using own5
    clear own5 own
    go_wp2
    refine ⟨⟨k+1,done++[cur],l.owner,by omega,by go_num,rfl,by simp [hd],HO,k5,?_⟩,by simp only [intOf];omega⟩
    show _=_
    rw [HR.out,show n+1 - (k+1)=f from by have:=Hf.out;omega]
  ·have e:k=n+1:=by omega
   have HR:Hid (C=(done++[cur],false)):=by show _=_;rw [HI.out,e,Nat.sub_self];rfl
   have hlt':((n:Int) < (k:Int)):=by omega
   go_wp2
   go_ret2
   exact ⟨_,by rw [HR.out];rfl,by rw [HR.out];exact own.out,hK⟩
theorem qm2 {ls:List Lk} (h:5 < ls.length):qav ls=false:=by
 unfold qav
 rw [decide_eq_false (by omega)];rfl
theorem qm3 {ls:List Lk} (h:ls.length <= 5) (H:∀ (j:Nat) (l:Lk),ls[j]?=some l->qbO ls l=true):qav ls=true:=by
 unfold qav
 rw [decide_eq_true h,Bool.true_and,List.all_eq_true]
 intro l hl
 obtain ⟨j,hj,rfl⟩:=List.mem_iff_getElem.1 hl
 exact H j _ (List.getElem?_eq_getElem hj)
theorem qm4 {ls:List Lk} (h:qav ls=true) {j:Nat} {l:Lk} (hl:ls[j]?=some l):qbO ls l=true:=by
 unfold qav at h
 simp only [Bool.and_eq_true,List.all_eq_true] at h
 exact h.2 l (List.mem_of_getElem? hl)
theorem qdv {ls:List Lk} {j:Nat} {l:Lk} (hl:ls[j]?=some l) (h:qbO ls l=false):qav ls=false:=by
 cases hb:qav ls
 ·rfl
 ·rw [qm4 hb hl] at h;cases h
theorem qd6 {ls:List Lk} {l:Lk} {j:Nat} {x:Int} (hx:l.waits[j]?=some x) (h:qbR ls x=false):qbO ls l=false:=by
 unfold qbO
 have:l.waits.all (qbR ls)=false:=by
  rw [List.all_eq_false]
  exact ⟨x,List.mem_of_getElem? hx,by rw [h];simp⟩
 rw [this];simp
theorem qh8 {ls:List Lk} {l:Lk} (h0:inB l.owner 0 1000=true) (h1:(l.owner==0&&decide (0 < l.waits.length))=false) (H:∀ (j:Nat) (x:Int),l.waits[j]?=some x->qbR ls x=true):qbO ls l=true:=by
 unfold qbO
 rw [h0,h1,Bool.true_and,Bool.not_false,Bool.true_and,List.all_eq_true]
 intro x hx
 obtain ⟨j,hj,rfl⟩:=List.mem_iff_getElem.1 hx
 exact H j _ (List.getElem?_eq_getElem hj)
set_option maxHeartbeats 4000000 in
theorem qe7 (a:Option Addr) (cap:Nat) (ls:List Lk) (w:World) (hl:qak ls <= 2097152) (hs:Lks p w a ls) :
  Calls Tryz.prog 113 #[.slice a ls.length cap] w fun e w'=>e = .returned (.bool (qav ls)) /\ Keeps w w':=by
 have HL:Hid (qak ls <= 2097152):=hl
 have hl0:ls.length <= 2097152:=by unfold qak at hl;omega
 clear hl
 have HS:Hid (Lks p w a ls):=hs
 clear hs
 generalize hn:ls.length=n at hl0
 have Hn:Hid (ls.length=n):=hn
 clear hn
 by_cases h5:5 < n
 ·have h5':(5:Int) < (n:Int):=by omega
  have Hr:Hid (qav ls=false):=qm2 (by rw [Hn.out];exact h5)
  go_enter Tryz.func113,Tryz.ntmps113
  go_wp2
  go_ret
  exact ⟨by rw [Hr.out];rfl,Keeps.refl _⟩
 have h5':(n:Int) <= (5:Int):=by omega
 go_enter Tryz.func113,Tryz.ntmps113
 go_wp2
 go_loopw [3] (fun i wr=>∃ k:Nat,k <= n /\ i = .int .i64 k /\ Keeps w wr /\ Hid (∀ (j:Nat) (l:Lk),j < k->ls[j]?=some l->qbO ls l=true)) (fun i _=>n - (intOf i).toNat)
 case atStart=>exact ⟨0,Nat.zero_le _,rfl,Keeps.refl _,fun j y hj=>by omega⟩
 case round =>
  obtain ⟨k,hk,rfl,hK,H⟩:=hrel
  by_cases hlt:k < n
  ·obtain ⟨l,hl1⟩:=qai (xs:=ls) (k:=k) (by rw [Hn.out];exact hlt)
   obtain ⟨b,off,a',cap',rfl,r0,r1,hle,hns⟩:=HS.out.at hl1
   have hlt':(k:Int) < (n:Int):=by omega
   have Hl:Hid (ls[k]?=some l):=hl1
   have hw1:Hid (l.waits.length <= 2097152):=by show _ <= _;have:=qdu hl1;have:=HL.out;unfold qak at this;omega
   clear hl1 hle
   obtain ⟨m,Hm⟩:∃ m:Nat,Hid (l.waits.length=m):=⟨_,rfl⟩
   have hm1:m <= 2097152:=by rw [<- Hm.out];exact hw1.out
   rw [Hm.out] at r1
   cases c1:inB l.owner 0 1000
   ·have Hr:Hid (qav ls=false):=qdv Hl.out (by unfold qbO;rw [c1];rfl)
    go_wp2_with (go_at_call 64;refine (qaf _ _ _ _).mono ?_;rintro e w' ⟨rfl,hw'⟩;have hw2:=hw'.symm;subst hw2)
    go_ret
    exact ⟨by rw [Hr.out];rfl,hK⟩
   have key:(l.owner==0&&decide (0 < m))=true∨(l.owner==0&&decide (0 < m))=false:=by cases (l.owner==0&&decide (0 < m)) <;> simp
   rcases key with c2 | c2
   ·have Hr:Hid (qav ls=false):=qdv Hl.out (by unfold qbO;rw [Hm.out,c2];simp)
    obtain ⟨c3,c4⟩:=Bool.and_eq_true_iff.1 c2
    have c5:(0:Int) < (m:Int):=by simpa using c4
    go_wp2_with (go_at_call 64;refine (qaf _ _ _ _).mono ?_;rintro e w' ⟨rfl,hw'⟩;have hw2:=hw'.symm;subst hw2)
    go_ret
    exact ⟨by rw [Hr.out];rfl,hK⟩
   ·have C2:Hid ((l.owner==0&&decide (0 < l.waits.length))=false):=by show _=_;rw [Hm.out];exact c2
    have C1:Hid (inB l.owner 0 1000=true):=c1
    have toInner:(l.owner==0)=false∨((l.owner==0)=true /\ decide (0 < m)=false):=by
     cases h:(l.owner==0)
     ·exact .inl rfl
     ·rw [h,Bool.true_and] at c2
      exact .inr ⟨rfl,c2⟩
    clear c2
    rcases toInner with c3 | ⟨c3,c4'⟩
    ·go_wp2_with (go_at_call 64;refine (qaf _ _ _ _).mono ?_;rintro e w' ⟨rfl,hw'⟩;have hw2:=hw'.symm;subst hw2)
     go_loopw [4] (fun i wr=>∃ j:Nat,j <= m /\ i = .int .i64 j /\ Keeps w wr /\ Hid (∀ (t:Nat) (x:Int),t < j->l.waits[t]?=some x->qbR ls x=true)) (fun i _=>m - (intOf i).toNat)
     case atStart=>exact ⟨0,Nat.zero_le _,rfl,hK,fun j y hj=>by omega⟩
     case round =>
      obtain ⟨j,hj,rfl,hK2,HW⟩:=hrel
      by_cases hlt2:j < m
      ·obtain ⟨x,hx⟩:=qai (xs:=l.waits) (k:=j) (by rw [Hm.out];exact hlt2)
       obtain ⟨b2,off2,rfl,x0⟩:=hns.at hx
       have hlt3:(j:Int) < (m:Int):=by omega
       have Hx:Hid (l.waits[j]?=some x):=hx
       obtain ⟨q,Hq⟩:∃ q:Nat,Hid (qaF ls x=q):=⟨_,rfl⟩
       obtain ⟨g,Hg⟩:∃ g:Bool,Hid ((qam ls (n+1) x).2=g):=⟨_,rfl⟩
       have CH:Hid (∀ w',Keeps w w'->Calls Tryz.prog 159 #[.slice (some ⟨b,off,none⟩) n cap,.int .i64 x] w' fun e w''=>∃ v,e = .returned (.tuple #[v,.bool g]) /\ Keeps w' w''):=by
        intro w' h
        have:=qe6 (some ⟨b,off,none⟩) cap ls x w' (by rw [Hn.out];exact hl0) (HS.out.keeps h)
        rw [Hn.out,Hg.out] at this
        exact this.mono fun e w'' ⟨v,h1,_,h2⟩=>⟨v,h1,h2⟩
       have WS:Hid (∀ w',Keeps w w'->Calls Tryz.prog 160 #[.slice (some ⟨b,off,none⟩) n cap,.int .i64 x] w' fun e w''=>e = .returned (.int .i64 (q:Int)) /\ Keeps w' w''):=by
        intro w' h
        have:=qh6 (some ⟨b,off,none⟩) cap ls x w' HL.out (HS.out.keeps h)
        rw [Hn.out,Hq.out] at this
        exact this
       have HB:Hid (qbR ls x=(g&&(inB x 1 1000&&q==1))):=by show _=_;unfold qbR;rw [Hn.out,Hg.out,Hq.out]
       clear hns hx
       cases c4:inB x 1 1000
       ·have Hr:Hid (qav ls=false):=qdv Hl.out (qd6 Hx.out (by rw [HB.out,c4];simp))
        go_wp2_with (first
         | (go_at_call 64;refine (qaf _ _ _ _).mono ?_;rintro e w' ⟨rfl,hw'⟩;have hw2:=hw'.symm;subst hw2)
         | (go_at_call 159;refine (CH.out _ hK2).mono ?_;rintro e w1 ⟨v1,rfl,k1⟩;have kk1:Keeps w w1:=hK2.trans k1)
         | (go_at_call 160;refine (WS.out _ kk1).mono ?_;rintro e w2 ⟨rfl,k2⟩;have kk2:Keeps w w2:=kk1.trans k2))
        go_ret
        exact ⟨by rw [Hr.out];rfl,kk1⟩
       ·cases c5:((q:Int) != 1)
        ·have hq1:(q==1)=true:=by simp at c5;simp;omega
         cases c6:g
         ·have Hr:Hid (qav ls=false):=qdv Hl.out (qd6 Hx.out (by rw [HB.out,c6];simp))
          rw [c6] at CH
          go_wp2_with (first
           | (go_at_call 64;refine (qaf _ _ _ _).mono ?_;rintro e w' ⟨rfl,hw'⟩;have hw2:=hw'.symm;subst hw2)
           | (go_at_call 159;refine (CH.out _ hK2).mono ?_;rintro e w1 ⟨v1,rfl,k1⟩;have kk1:Keeps w w1:=hK2.trans k1)
           | (go_at_call 160;refine (WS.out _ kk1).mono ?_;rintro e w2 ⟨rfl,k2⟩;have kk2:Keeps w w2:=kk1.trans k2))
          go_ret
          exact ⟨by rw [Hr.out];rfl,kk2⟩
         ·have Hr:Hid (qbR ls x=true):=by show _=_;rw [HB.out,c6,c4,hq1];rfl
          rw [c6] at CH
          go_wp2_with (first
           | (go_at_call 64;refine (qaf _ _ _ _).mono ?_;rintro e w' ⟨rfl,hw'⟩;have hw2:=hw'.symm;subst hw2)
           | (go_at_call 159;refine (CH.out _ hK2).mono ?_;rintro e w1 ⟨v1,rfl,k1⟩;have kk1:Keeps w w1:=hK2.trans k1)
           | (go_at_call 160;refine (WS.out _ kk1).mono ?_;rintro e w2 ⟨rfl,k2⟩;have kk2:Keeps w w2:=kk1.trans k2))
          exact ⟨⟨j+1,by omega,by go_num,kk2,fun t y ht hy=>by
           by_cases e:t=j
           ·subst e;rw [Hx.out] at hy;cases hy;exact Hr.out
           ·exact HW.out t y (by omega) hy⟩,by simp only [intOf];omega⟩
        ·have hq1:(q==1)=false:=by simp at c5;simp;omega
         have Hr:Hid (qav ls=false):=qdv Hl.out (qd6 Hx.out (by rw [HB.out,hq1];simp))
         go_wp2_with (first
          | (go_at_call 64;refine (qaf _ _ _ _).mono ?_;rintro e w' ⟨rfl,hw'⟩;have hw2:=hw'.symm;subst hw2)
          | (go_at_call 159;refine (CH.out _ hK2).mono ?_;rintro e w1 ⟨v1,rfl,k1⟩;have kk1:Keeps w w1:=hK2.trans k1)
          | (go_at_call 160;refine (WS.out _ kk1).mono ?_;rintro e w2 ⟨rfl,k2⟩;have kk2:Keeps w w2:=kk1.trans k2))
         go_ret
         exact ⟨by rw [Hr.out];rfl,kk2⟩
      ·have e:j=m:=by omega
       subst e
       have Hk:Hid (qbO ls l=true):=qh8 C1.out C2.out fun t x hx=>HW.out t x (by have:=qas hx;rw [Hm.out] at this;exact this) hx
       go_wp2
       exact ⟨⟨k+1,by omega,by go_num,hK2,fun t y ht hy=>by
        by_cases e:t=k
        ·subst e;rw [Hl.out] at hy;cases hy;exact Hk.out
        ·exact H.out t y (by omega) hy⟩,by simp only [intOf];omega⟩
    ·go_wp2_with (go_at_call 64;refine (qaf _ _ _ _).mono ?_;rintro e w' ⟨rfl,hw'⟩;have hw2:=hw'.symm;subst hw2)
     go_loopw [4] (fun i wr=>∃ j:Nat,j <= m /\ i = .int .i64 j /\ Keeps w wr /\ Hid (∀ (t:Nat) (x:Int),t < j->l.waits[t]?=some x->qbR ls x=true)) (fun i _=>m - (intOf i).toNat)
     case atStart=>exact ⟨0,Nat.zero_le _,rfl,hK,fun j y hj=>by omega⟩
     case round =>
      obtain ⟨j,hj,rfl,hK2,HW⟩:=hrel
      by_cases hlt2:j < m
      ·obtain ⟨x,hx⟩:=qai (xs:=l.waits) (k:=j) (by rw [Hm.out];exact hlt2)
       obtain ⟨b2,off2,rfl,x0⟩:=hns.at hx
       have hlt3:(j:Int) < (m:Int):=by omega
       have Hx:Hid (l.waits[j]?=some x):=hx
       obtain ⟨q,Hq⟩:∃ q:Nat,Hid (qaF ls x=q):=⟨_,rfl⟩
       obtain ⟨g,Hg⟩:∃ g:Bool,Hid ((qam ls (n+1) x).2=g):=⟨_,rfl⟩
       have CH:Hid (∀ w',Keeps w w'->Calls Tryz.prog 159 #[.slice (some ⟨b,off,none⟩) n cap,.int .i64 x] w' fun e w''=>∃ v,e = .returned (.tuple #[v,.bool g]) /\ Keeps w' w''):=by
        intro w' h
        have:=qe6 (some ⟨b,off,none⟩) cap ls x w' (by rw [Hn.out];exact hl0) (HS.out.keeps h)
        rw [Hn.out,Hg.out] at this
        exact this.mono fun e w'' ⟨v,h1,_,h2⟩=>⟨v,h1,h2⟩
       have WS:Hid (∀ w',Keeps w w'->Calls Tryz.prog 160 #[.slice (some ⟨b,off,none⟩) n cap,.int .i64 x] w' fun e w''=>e = .returned (.int .i64 (q:Int)) /\ Keeps w' w''):=by
        intro w' h
        have:=qh6 (some ⟨b,off,none⟩) cap ls x w' HL.out (HS.out.keeps h)
        rw [Hn.out,Hq.out] at this
        exact this
       have HB:Hid (qbR ls x=(g&&(inB x 1 1000&&q==1))):=by show _=_;unfold qbR;rw [Hn.out,Hg.out,Hq.out]
       clear hns hx
       cases c4:inB x 1 1000
       ·have Hr:Hid (qav ls=false):=qdv Hl.out (qd6 Hx.out (by rw [HB.out,c4];simp))
        go_wp2_with (first
         | (go_at_call 64;refine (qaf _ _ _ _).mono ?_;rintro e w' ⟨rfl,hw'⟩;have hw2:=hw'.symm;subst hw2)
         | (go_at_call 159;refine (CH.out _ hK2).mono ?_;rintro e w1 ⟨v1,rfl,k1⟩;have kk1:Keeps w w1:=hK2.trans k1)
         | (go_at_call 160;refine (WS.out _ kk1).mono ?_;rintro e w2 ⟨rfl,k2⟩;have kk2:Keeps w w2:=kk1.trans k2))
        go_ret
        exact ⟨by rw [Hr.out];rfl,kk1⟩
       ·cases c5:((q:Int) != 1)
        ·have hq1:(q==1)=true:=by simp at c5;simp;omega
         cases c6:g
         ·have Hr:Hid (qav ls=false):=qdv Hl.out (qd6 Hx.out (by rw [HB.out,c6];simp))
          rw [c6] at CH
          go_wp2_with (first
           | (go_at_call 64;refine (qaf _ _ _ _).mono ?_;rintro e w' ⟨rfl,hw'⟩;have hw2:=hw'.symm;subst hw2)
           | (go_at_call 159;refine (CH.out _ hK2).mono ?_;rintro e w1 ⟨v1,rfl,k1⟩;have kk1:Keeps w w1:=hK2.trans k1)
           | (go_at_call 160;refine (WS.out _ kk1).mono ?_;rintro e w2 ⟨rfl,k2⟩;have kk2:Keeps w w2:=kk1.trans k2))
          go_ret
          exact ⟨by rw [Hr.out];rfl,kk2⟩
         ·have Hr:Hid (qbR ls x=true):=by show _=_;rw [HB.out,c6,c4,hq1];rfl
          rw [c6] at CH
          go_wp2_with (first
           | (go_at_call 64;refine (qaf _ _ _ _).mono ?_;rintro e w' ⟨rfl,hw'⟩;have hw2:=hw'.symm;subst hw2)
           | (go_at_call 159;refine (CH.out _ hK2).mono ?_;rintro e w1 ⟨v1,rfl,k1⟩;have kk1:Keeps w w1:=hK2.trans k1)
           | (go_at_call 160;refine (WS.out _ kk1).mono ?_;rintro e w2 ⟨rfl,k2⟩;have kk2:Keeps w w2:=kk1.trans k2))
          exact ⟨⟨j+1,by omega,by go_num,kk2,fun t y ht hy=>by
           by_cases e:t=j
           ·subst e;rw [Hx.out] at hy;cases hy;exact Hr.out
           ·exact HW.out t y (by omega) hy⟩,by simp only [intOf];omega⟩
        ·have hq1:(q==1)=false:=by simp at c5;simp;omega
         have Hr:Hid (qav ls=false):=qdv Hl.out (qd6 Hx.out (by rw [HB.out,hq1];simp))
         go_wp2_with (first
          | (go_at_call 64;refine (qaf _ _ _ _).mono ?_;rintro e w' ⟨rfl,hw'⟩;have hw2:=hw'.symm;subst hw2)
          | (go_at_call 159;refine (CH.out _ hK2).mono ?_;rintro e w1 ⟨v1,rfl,k1⟩;have kk1:Keeps w w1:=hK2.trans k1)
          | (go_at_call 160;refine (WS.out _ kk1).mono ?_;rintro e w2 ⟨rfl,k2⟩;have kk2:Keeps w w2:=kk1.trans k2))
         go_ret
         exact ⟨by rw [Hr.out];rfl,kk2⟩
      ·have e:j=m:=by omega
       subst e
       have Hk:Hid (qbO ls l=true):=qh8 C1.out C2.out fun t x hx=>HW.out t x (by have:=qas hx;rw [Hm.out] at this;exact this) hx
       go_wp2
       exact ⟨⟨k+1,by omega,by go_num,hK2,fun t y ht hy=>by
        by_cases e:t=k
        ·subst e;rw [Hl.out] at hy;cases hy;exact Hk.out
        ·exact H.out t y (by omega) hy⟩,by simp only [intOf];omega⟩
  ·have e:k=n:=by omega
   subst e
   have Hr:Hid (qav ls=true):=qm3 (by rw [Hn.out];omega) fun j l hl=>H.out j l (by have:=qas hl;rw [Hn.out] at this;exact this) hl
   go_wp2
   go_ret
   exact ⟨by rw [Hr.out];rfl,hK⟩
variable {p:Bool}
attribute [local go_sem] Keeps.refl Keeps.alloc Keeps.drew Keeps.drewN
set_option maxHeartbeats 1000000 in
theorem qm5 (a:Option Addr) (cap:Nat) (ls:List Lk) (no:Int) (w:World) (hl:qak ls <= 2097152) (hs:Lks p w a ls) :
  Calls Tryz.prog 223 #[.slice a ls.length cap,.int .i64 no] w fun e w'=>∃ v,e = .returned v /\ OwnN w' w.heap.size v (qaR ls no) /\ Keeps w w':=by
 have hl0:ls.length <= 2097152:=by unfold qak at hl;omega
 have HS:Hid (Lks p w a ls):=hs
 clear hs
 have LO:Hid (∀ w',Keeps w w'->Calls Tryz.prog 113 #[.slice a ls.length cap] w' fun e w''=>e = .returned (.bool (qav ls)) /\ Keeps w' w''):=fun w' h=>qe7 a cap ls w' hl (HS.out.keeps h)
 have CH:Hid (∀ w',Keeps w w'->Calls Tryz.prog 159 #[.slice a ls.length cap,.int .i64 no] w' fun e w''=>∃ v,e = .returned (.tuple #[v,.bool (qam ls (ls.length+1) no).2]) /\ OwnN w'' w'.heap.size v (qam ls (ls.length+1) no).1 /\ Keeps w' w''):=fun w' h=>qe6 a cap ls no w' hl0 (HS.out.keeps h)
 obtain ⟨n,Hn⟩:∃ n,Hid (ls.length=n):=⟨_,rfl⟩
 obtain ⟨C,HC⟩:∃ C,Hid (qam ls (n+1) no=C):=⟨_,rfl⟩
 rw [Hn.out] at LO CH ⊢
 rw [HC.out] at CH
 clear hl hl0
 cases hb:qav ls
 ·have Hr:Hid (qaR ls no=[]):=by show _=_;unfold qaR;rw [hb];rfl
  rw [hb] at LO
  go_enter Tryz.func223,Tryz.ntmps223
  go_wp2_with (go_at_call 113;refine (LO.out _ (Keeps.refl _)).mono ?_;rintro e w1 ⟨rfl,k1⟩)
  go_ret
  exact ⟨_,rfl,by rw [Hr.out];exact Own.new 3 1 ic w1 k1.size,k1.alloc _⟩
 ·have Hr:Hid (qaR ls no=C.1):=by show _=_;unfold qaR;rw [hb,Hn.out,HC.out];rfl
  rw [hb] at LO
  go_enter Tryz.func223,Tryz.ntmps223
  go_wp2_with (first
   | (go_at_call 113;refine (LO.out _ (Keeps.refl _)).mono ?_;rintro e w1 ⟨rfl,k1⟩)
   | (go_at_call 159;refine (CH.out _ k1).mono ?_;rintro e w2 ⟨v,rfl,O2,k2⟩))
  go_ret
  exact ⟨_,rfl,by rw [Hr.out];exact O2.base k1.size,k1.trans k2⟩
theorem qm6 (xs ys:List Int) (x:Int):qbm (xs++ys) x=qbm xs x++qbm ys x:=by simp [qbm]
theorem qh9 {xs:List Int} {k:Nat} {y x:Int} (h:xs[k]?=some y):qbm (xs.take (k+1)) x=qbm (xs.take k) x++(if y != x then [y] else []):=by
 rw [List.take_add_one,h,qm6]
 congr 1
 cases hx:(y != x) <;> simp [qbm,hx]
theorem qm7 (xs:List Int) (x:Int):(qbm xs x).length <= xs.length:=List.length_filter_le _ _
set_option maxHeartbeats 2000000 in
theorem qm8 (a:Option Addr) (cap:Nat) (xs:List Int) (x:Int) (w:World) (hl:xs.length <= 2097152) (hs:Ns w a xs) :
  Calls Tryz.prog 250 #[.slice a xs.length cap,.int .i64 x] w fun e w'=>∃ v,e = .returned v /\ OwnN w' w.heap.size v (qbm xs x) /\ Keeps w w':=by
 generalize hn:xs.length=n at hl
 have Hn:Hid (xs.length=n):=hn
 clear hn
 have HS:Hid (Ns w a xs):=hs
 clear hs
 go_enter Tryz.func250,Tryz.ntmps250
 go_wp2
 have kz:Hid (Keeps w (w.alloc (.cells #[] 3))):=(Keeps.refl _).alloc _
 have own0:Hid (OwnN (w.alloc (.cells #[] 3)) w.heap.size (.slice (some ⟨w.heap.size,0,none⟩) 0 0) []):=Own.new 3 1 ic w (Nat.le_refl _)
 generalize w.alloc (.cells #[] 3)=W at *
 go_loopw [5,6] (fun v i wr=>∃ (k:Nat) (ys:List Int),k <= n /\ i = .int .i64 k /\ ys.length <= k /\ Hid (OwnN wr w.heap.size v ys) /\ Keeps w wr /\ Hid (qbm (xs.take k) x=ys)) (fun _ i _=>n - (intOf i).toNat)
 case atStart=>exact ⟨0,[],Nat.zero_le _,rfl,by simp,own0,kz.out,by show _=_;simp [qbm]⟩
 case round =>
  obtain ⟨k,ys,hk,rfl,hy,own,hK,HI⟩:=hrel
  clear own0 kz
  by_cases hlt:k < n
  ·obtain ⟨y,hy1⟩:=qai (xs:=xs) (k:=k) (by rw [Hn.out];exact hlt)
   obtain ⟨b,off,rfl,r0⟩:=HS.out.at hy1
   have hlt':(k:Int) < (n:Int):=by omega
   have Hy:Hid (xs[k]?=some y):=hy1
   clear hy1
   cases hq:(y != x)
   ·go_wp2
    refine ⟨⟨k+1,ys,by omega,by go_num,by omega,own,hK,?_⟩,by simp only [intOf];omega⟩
    show _=_
    rw [qh9 Hy.out,HI.out,hq]
    simp
   ·go_wp2_with (at_builtin;(refine qbi rfl _ _ 25 rfl w 3 (.int .i64 0) 1 8 ic Tryz.underlying25 (by kernel_rfl) rfl (by decide) qaZ qci _ ys rfl wr own.out hK ((Keeps.refl _).alloc _) y _ 1 (Blk.new _ _ _) rfl ?c1 ?c2 ?_))
    case c1=>unfold maxLen;omega
    case c2=>omega
    intro v' w5 own5 k5 _
    have HO:Hid (OwnN w5 w.heap.size v' (ys++[y])):=own5
    clear own5 own
    go_wp2
    refine ⟨⟨k+1,ys++[y],by omega,by go_num,by simp;omega,HO,k5,?_⟩,by simp only [intOf];omega⟩
    show _=_
    rw [qh9 Hy.out,HI.out,hq]
    rfl
  ·have e:k=n:=by omega
   subst e
   have HR:Hid (qbm xs x=ys):=by show _=_;rw [<- HI.out,<- Hn.out,List.take_length]
   go_wp2
   go_ret
   exact ⟨_,rfl,by rw [HR.out];exact own.out,hK⟩
theorem qe8 {α:Type} {P:Program} (w:World) (base:Nat) (t ty e:TypeId) (z:Value) (sz bytes:Nat) (c:α->Array Value) (ht:P.underlying t=some (.slice e)) (hinfo:(P.info? e).map (fun i=>(i.zero,i.size,i.bytes))=some (some z,sz,bytes))
  (hzs:z.cells.size=sz) (hsz:0 < sz) (hc:∀ x,(c x).size=sz) (h1:∀ x,∀ u∈(c x).toList,u.oneCell'=true)
  (v:Value) (xs:List α) (hown:Own e sz c w base v xs) (hbase:base <= w.heap.size)
  (ys:List α) (b off cp:Nat) (hl:Lies sz c w (some ⟨b,off,none⟩) ys)
  (h63:xs.length+ys.length <= maxLen) (hbytes:(xs.length+ys.length)*bytes <= 140737488355328) :
  ∃ v' w',(Builtin.append_ #[t,t] ty #[v,.slice (some ⟨b,off,none⟩) ys.length cp]).run P w = .ok v' w' /\ Own e sz c w' base v' (xs++ys) /\ w.grownBy w' v.ownBlock /\ ∀ k,v'.ownBlock=some k->v.ownBlock=some k∨k=w.heap.size:=by
 obtain ⟨i,hi,hzz⟩:=Option.map_eq_some_iff.1 hinfo
 simp only [Prod.mk.injEq] at hzz
 obtain ⟨hz0,hz1,hz2⟩:=hzz
 have hnews:∀ j u,(qat c ys)[j]?=some u->w.cell? ((⟨b,off,none⟩:Addr).add j)=some u:=by
  intro j u hj
  have hjl:j < ys.length*sz:=by
   have:=qcY hc ys
   rcases Nat.lt_or_ge j (ys.length*sz) with h | h
   ·exact h
   ·rw [List.getElem?_eq_none (by omega)] at hj;cases hj
  have hq:j / sz < ys.length:=Nat.div_lt_of_lt_mul (by rw [Nat.mul_comm];exact hjl)
  have hm:j % sz < sz:=Nat.mod_lt _ hsz
  have hjj:j / sz*sz+j % sz=j:=by rw [Nat.mul_comm];exact Nat.div_add_mod j sz
  have h2:=qdH hc ys (j / sz) ys[j / sz] (List.getElem?_eq_getElem hq) (j % sz) hm
  rw [hjj,hj] at h2
  rcases hl with hl | ⟨b',off',e',hb',hl⟩
  ·rw [hl] at hq;simp at hq
  ·simp only [Option.some.injEq,Addr.mk.injEq] at e'
   obtain ⟨rfl,rfl,-⟩:=e'
   have h3:=hl (j / sz) ys[j / sz] (List.getElem?_eq_getElem hq) (j % sz) hm
   have ea:(⟨b,off,none⟩:Addr).add j=⟨b,off+j,none⟩:=by unfold Addr.add;by_cases h:j=0 <;> simp [h]
   rw [ea,<- hjj,<- Nat.add_assoc,h3,<- h2]
 obtain ⟨v',w',hrun,r1,r2,r3⟩:=run_append_own (P:=P) w base t ty e i z sz bytes ht hi hz0 hz1 hz2 hzs hsz v xs.length (qat c xs) hown ⟨b,off,none⟩ ys.length cp (qat c ys) (qcY hc ys) hnews (qeq h1 ys) h63 hbytes hbase
 refine ⟨v',w',hrun,by unfold Own;rw [qeX,List.length_append];exact r1,r2,fun k hk => ?_⟩
 subst hz1
 subst hz2
 have hsm:xs.length+ys.length <= 9223372036854775807:=by simp only [maxLen] at h63;omega
 have hown':=hown
 rcases hown'.2 with ⟨rfl,hx0⟩ | ⟨g,cap,cur,rfl,hbg,hg,hnc,hcm,hcs,htake⟩
 ·by_cases hm:ys.length=0
  ·have:=r3.2 ⟨rfl,hm⟩
   rw [this] at hk
   simp [Value.ownBlock] at hk
  ·have hr:=run_append_nil (P:=P) w t ty e i z ht hi hz0 ⟨b,off,none⟩ ys.length cp (qat c ys) (qcY hc ys) hnews (by omega) (by omega) (by have hb:=hbytes;rw [hx0,Nat.zero_add] at hb;omega)
   rw [hr] at hrun
   simp only [Result.ok.injEq] at hrun
   rw [<- hrun.1] at hk
   simp [Value.ownBlock] at hk
   exact .inr hk.symm
 ·by_cases hroom:xs.length+ys.length <= cap
  ·obtain ⟨w2,hr,_,_⟩:=run_append_fits (P:=P) w base t ty e i i.size ht hi rfl g xs.length cap (qat c xs) hown ⟨b,off,none⟩ ys.length cp (qat c ys) (qcY hc ys) hnews (qeq h1 ys) hroom
   rw [hr] at hrun
   simp only [Result.ok.injEq] at hrun
   rw [<- hrun.1] at hk
   exact .inl hk
  ·have holds:∀ j u,(qat c xs)[j]?=some u->w.cell? ((⟨g,0,none⟩:Addr).add j)=some u:=World.ownsRow.cells hown (g:=g) rfl
   have hr:=run_append_grow (P:=P) w t ty e i z ht hi hz0 ⟨g,0,none⟩ xs.length cap (qat c xs) hown.1 holds ⟨b,off,none⟩ ys.length cp (qat c ys) (qcY hc ys) hnews (by omega) (by omega) (growslice_fits (by omega) hbytes)
   rw [hr] at hrun
   simp only [Result.ok.injEq] at hrun
   rw [<- hrun.1] at hk
   simp [Value.ownBlock] at hk
   exact .inr hk.symm
theorem qd7 {α:Type} {P:Program} {ops:Array Oper} {o:Oper} {a:Act} {w:World} {K:Act->World->Prop} {Q:Exit->Act->World->Prop} {E:Prop}
  (hg:o.guard=none) (s x:Operand) (t:TypeId) (hop:o.op=Op.call { callee:=Callee.builtin Builtin.append,args:=#[s,x],argTypes:=#[t,t] })
  (base:Nat) (e:TypeId) (z:Value) (sz bytes:Nat) (c:α->Array Value) (ht:P.underlying t=some (.slice e)) (hinfo:(P.info? e).map (fun i=>(i.zero,i.size,i.bytes))=some (some z,sz,bytes))
  (hzs:z.cells.size=sz) (hsz:0 < sz) (hc:∀ x,(c x).size=sz) (h1:∀ x,∀ u∈(c x).toList,u.oneCell'=true)
  (v:Value) (xs:List α) (hs:a.eval s=v) (hown:Own e sz c w base v xs) (hbase:base <= w.heap.size)
  (ys:List α) (b off cp:Nat) (hl:Lies sz c w (some ⟨b,off,none⟩) ys) (hx:a.eval x = .slice (some ⟨b,off,none⟩) ys.length cp)
  (h63:xs.length+ys.length <= maxLen) (hbytes:(xs.length+ys.length)*bytes <= 140737488355328)
  (hK:∀ v' w',Own e sz c w' base v' (xs++ys)->w.grownBy w' v.ownBlock->(∀ k,v'.ownBlock=some k->v.ownBlock=some k∨k=w.heap.size)->K (a.put o.dst v') w') :
  if Region.wanted o (yielded ops a.tmps)=true then Oper.wp P o a w K Q else E:=by
 have hw:Region.wanted o (yielded ops a.tmps)=true:=by simp [Region.wanted,hg]
 rw [if_pos hw]
 obtain ⟨v',w',hrun,r1,r2,r3⟩:=qe8 (P:=P) w base t o.type e z sz bytes c ht hinfo hzs hsz hc h1 v xs hown hbase ys b off cp hl h63 hbytes
 unfold Oper.wp
 simp [execOp,hop,resolve,invoke,builtin,hs,hx,hrun,Result.andThen]
 exact hK v' w' r1 r2 r3
theorem qcA {α:Type} {P:Program} {w:World} {ops:Array Oper} {rest:List Oper} {o:Oper} {a:Act} {Q:Exit->Act->World->Prop} (hgd:o.guard=none) (s x:Operand) (t:TypeId)
  (hop:o.op = .call { callee := .builtin .append,args:=#[s,x],argTypes:=#[t,t] })
  (base:Nat) (e:TypeId) (z:Value) (sz bytes:Nat) (c:α->Array Value) (ht:P.underlying t=some (.slice e)) (hinfo:(P.info? e).map (fun i=>(i.zero,i.size,i.bytes))=some (some z,sz,bytes))
  (hzs:z.cells.size=sz) (hsz:0 < sz) (hc:∀ x,(c x).size=sz) (h1:∀ x,∀ u∈(c x).toList,u.oneCell'=true)
  (v:Value) (xs:List α) (hs:a.eval s=v) (hown:Own e sz c w base v xs) (hbase:base <= w.heap.size)
  (y:α) (b cp:Nat) (hb:Blk w b (c y)) (hx:a.eval x = .slice (some ⟨b,0,none⟩) 1 cp)
  (h63:xs.length+1 <= maxLen) (hbytes:(xs.length+1)*bytes <= 140737488355328)
  (h:∀ v' w',Own e sz c w' base v' (xs++[y])->w.grownBy w' v.ownBlock->(∀ k,v'.ownBlock=some k->v.ownBlock=some k∨k=w.heap.size)->wpList P ops Q rest (a.put o.dst v') w'):wpList P ops Q (o::rest) a w:=by
 refine wpList_plain hgd fun K hK => ?_
 have hl:Lies sz c w (some ⟨b,0,none⟩) [y]:=by
  refine .inr ⟨_,_,rfl,hb.lt,fun i x hx k hk => ?_⟩
  cases i with
  | zero=>simp at hx;subst hx;simpa using hb.cells k
  | succ i=>simp at hx
 obtain ⟨v',w',hrun,r1,r2,r3⟩:=qe8 (P:=P) w base t o.type e z sz bytes c ht hinfo hzs hsz hc h1 v xs hown hbase [y] b 0 cp hl h63 hbytes
 have hrun':(Builtin.append_ #[t,t] o.type #[v,.slice (some ⟨b,0,none⟩) 1 cp]).run P w = .ok v' w':=hrun
 unfold Oper.wp execOp
 simp only [hop,resolve,invoke,builtin,Sem.run_bind,Sem.run_pure,Result.andThen_ok,List.map_toArray,List.map_cons,List.map_nil,hs,hx,hrun']
 exact hK _ _ (h v' w' r1 r2 r3)
theorem qm9 {α:Type} {P:Program} {ops:Array Oper} {o:Oper} {a:Act} {w:World} {K:Act->World->Prop} {Q:Exit->Act->World->Prop} {E:Prop}
  (hg:o.guard=none) (s x:Operand) (t:TypeId) (hop:o.op=Op.call { callee:=Callee.builtin Builtin.append,args:=#[s,x],argTypes:=#[t,t] })
  (base:Nat) (e:TypeId) (z:Value) (sz bytes:Nat) (c:α->Array Value) (ht:P.underlying t=some (.slice e)) (hinfo:(P.info? e).map (fun i=>(i.zero,i.size,i.bytes))=some (some z,sz,bytes))
  (v:Value) (xs:List α) (hs:a.eval s=v) (hown:Own e sz c w base v xs) (hx:a.eval x = .slice none 0 0)
  (hK:K (a.put o.dst v) w) :
  if Region.wanted o (yielded ops a.tmps)=true then Oper.wp P o a w K Q else E:=by
 have hw:Region.wanted o (yielded ops a.tmps)=true:=by simp [Region.wanted,hg]
 rw [if_pos hw]
 obtain ⟨i,hi,hzz⟩:=Option.map_eq_some_iff.1 hinfo
 have hrun:=run_append_owned_none (P:=P) w base t o.type e i sz ht hi v xs.length (qat c xs) hown
 unfold Oper.wp
 simp [execOp,hop,resolve,invoke,builtin,hs,hx,hrun,Result.andThen]
 exact hK
theorem Mine.push {w w':World} {lo hi hi':Nat} {v v':Value} {vs:List Lv} {ls:List Lk} (h:Mine w lo hi v vs ls) {y:Lv} {l:Lk} (O:Own 104 2 lvc w' lo v' (vs++[y])) (g:w.grownBy w' v.ownBlock) (he:y.o=l.owner) (ho:OwnN w lo y.row l.waits)
  (hb:∀ b,y.row.ownBlock=some b->hi <= b /\ b < hi' /\ b < w.heap.size) (hv:∀ b,v'.ownBlock=some b->v.ownBlock=some b∨(w.heap.size <= b /\ b < hi')) (hh:hi <= hi'):Mine w' lo hi' v' (vs++[y]) (ls++[l]):=by
 have hin:∀ (i:Nat) (x:Lv) (b:Nat),vs[i]?=some x->x.row.ownBlock=some b->b < w.heap.size:=fun i x b hx e=>by
  obtain ⟨m,hm⟩:=qai (xs:=ls) (k:=i) (by rw [<- h.len];exact qas hx)
  exact ((h.rows i x m hx hm).2.ltb b e).2
 have at':∀ (i:Nat) (x:Lv),(vs++[y])[i]?=some x->(i < vs.length /\ vs[i]?=some x)∨(i=vs.length /\ x=y):=by
  intro i x hx
  rcases Nat.lt_or_ge i vs.length with hi | hi
  ·rw [List.getElem?_append_left hi] at hx;exact .inl ⟨hi,hx⟩
  ·rw [List.getElem?_append_right hi] at hx
   have:i - vs.length=0:=by have:=qas hx;simp at this;omega
   rw [this] at hx
   simp at hx
   exact .inr ⟨by omega,hx.symm⟩
 have yv:∀ b,y.row.ownBlock=some b->v.ownBlock≠some b:=fun b e e'=>by have:=(hb b e).1;have:=h.out b e';omega
 refine ⟨by simp [h.len],O,fun b e => ?_,?_,?_,?_⟩
 ·rcases hv b e with e' | e'
  ·exact Nat.lt_of_lt_of_le (h.out b e') hh
  ·exact e'.2
 ·intro i x m hx hm
  rcases at' i x hx with ⟨hi,hx2⟩ | ⟨rfl,rfl⟩
  ·rw [List.getElem?_append_left (by rw [<- h.len];exact hi)] at hm
   obtain ⟨r1,r2⟩:=h.rows i x m hx2 hm
   exact ⟨r1,r2.same fun b e=>g.block b (r2.ltb b e).2 (fun e'=>(h.inn i x b hx2 e).2 e'.symm)⟩
  ·rw [h.len,List.getElem?_append_right (Nat.le_refl _),Nat.sub_self] at hm
   simp at hm
   subst hm
   exact ⟨he,ho.same fun b e=>g.block b (hb b e).2.2 (fun e'=>yv b e e'.symm)⟩
 ·intro i x b hx e
  rcases at' i x hx with ⟨hi,hx2⟩ | ⟨rfl,rfl⟩
  ·refine ⟨Nat.lt_of_lt_of_le (h.inn i x b hx2 e).1 hh,fun e' => ?_⟩
   rcases hv b e' with e2 | e2
   ·exact (h.inn i x b hx2 e).2 e2
   ·have:=hin i x b hx2 e;omega
  ·refine ⟨(hb b e).2.1,fun e' => ?_⟩
   rcases hv b e' with e2 | e2
   ·exact yv b e e2
   ·have:=(hb b e).2.2;omega
 ·intro i j x z b hx hz e1 e2
  rcases at' i x hx with ⟨hi,hx2⟩ | ⟨rfl,rfl⟩ <;> rcases at' j z hz with ⟨hj,hz2⟩ | ⟨rfl,rfl⟩
  ·exact h.apart i j x z b hx2 hz2 e1 e2
  ·have:=(hb b e2).1;have:=(h.inn i x b hx2 e1).1;omega
  ·have:=(hb b e1).1;have:=(h.inn j z b hz2 e2).1;omega
  ·rfl
theorem Mine.none (w:World) (lo hi:Nat) (v:Value) (O:Own 104 2 lvc w lo v []) (hv:∀ b,v.ownBlock=some b->b < hi):Mine w lo hi v [] [] :=
 ⟨rfl,O,hv,fun i x l h=>by simp at h,fun i x b h=>by simp at h,fun i j x y b h=>by simp at h⟩
def allW:List Lk->List Int
 | []=>[]
 | l::r=>l.waits++allW r
theorem qna (xs ys:List Lk):allW (xs++ys)=allW xs++allW ys:=by
 induction xs with
 | nil=>rfl
 | cons l r ih=>simp [allW,ih]
theorem qd8 {ls:List Lk} {x:Int}:x∈allW ls↔∃ (j:Nat) (l:Lk),ls[j]?=some l /\ hasB l.waits x=true:=by
 induction ls with
 | nil=>simp [allW]
 | cons l r ih =>
  simp only [allW,List.mem_append,ih]
  constructor
  ·rintro (h | ⟨j,m,h1,h2⟩)
   ·exact ⟨0,l,rfl,qb9.2 h⟩
   ·exact ⟨j+1,m,h1,h2⟩
  ·rintro ⟨j,m,h1,h2⟩
   cases j with
   | zero=>simp at h1;subst h1;exact .inl (qb9.1 h2)
   | succ j=>exact .inr ⟨j,m,by simpa using h1,h2⟩
theorem qia {ls:List Lk} {x:Int}:qax ls x=none↔x ∉ allW ls:=by
 rw [qd8]
 constructor
 ·rintro h ⟨j,l,h1,h2⟩
  rw [qfa h j l h1] at h2;cases h2
 ·intro h
  refine qgd fun j m hm => ?_
  cases hb:hasB m.waits x
  ·rfl
  ·exact absurd ⟨j,m,hm,hb⟩ h
theorem qf7 (ls:List Lk) (x:Int):qaF ls x=qaQ (allW ls) x:=by
 induction ls with
 | nil=>rfl
 | cons l r ih=>simp only [qaF,allW,qf5,ih]
theorem qf8:∀ {xs:List Int},xs.Nodup↔∀ x∈xs,qaQ xs x=1
 | []=>by simp
 | y::r=>by
  rw [List.nodup_cons,qf8 (xs:=r)]
  have e:∀ x,qaQ (y::r) x=(if y==x then 1 else 0)+qaQ r x:=by
   intro x
   have:=qf5 [y] r x
   simp only [List.singleton_append] at this
   rw [this]
   congr 1
   cases c:(y==x) <;> simp [qaQ,c]
  constructor
  ·rintro ⟨h1,h2⟩ x hx
   rw [e]
   rcases List.mem_cons.1 hx with rfl | hx
   ·have:=qik.2 (qeF.2 h1);simp;omega
   ·have hne:y≠x:=fun e'=>h1 (e' ▸ hx)
    have:=h2 x hx
    rw [if_neg (by simpa using hne)];omega
  ·intro h
   have hy:y ∉ r:=fun hm=>by
    have h1:=h y (List.mem_cons_self ..)
    rw [e] at h1
    have:=qij.2 (qb9.2 hm)
    simp at h1;omega
   refine ⟨hy,fun x hx => ?_⟩
   have h1:=h x (List.mem_cons_of_mem _ hx)
   have hne:y≠x:=fun e'=>hy (e' ▸ hx)
   rw [e,if_neg (by simpa using hne)] at h1
   omega
theorem qnb (ls:List Lk):sumW ls=(allW ls).length:=by
 induction ls with
 | nil=>rfl
 | cons l r ih=>simp [sumW,allW,ih]
theorem qnc {xs:List Int} {n:Nat} (h:xs.Nodup) (hb:∀ x∈xs,1 <= x /\ x <= (n:Int)):xs.length <= n:=by
 refine qeH n xs.length (fun i=>((xs.getD i 0) - 1).toNat) (fun i hi => ?_) (fun i j hi hj e => ?_)
 ·have:=hb _ (List.getElem_mem hi)
  rw [List.getD_eq_getElem?_getD,List.getElem?_eq_getElem hi,Option.getD_some]
  omega
 ·have h1:=hb _ (List.getElem_mem hi)
  have h2:=hb _ (List.getElem_mem hj)
  simp only [List.getD_eq_getElem?_getD,List.getElem?_eq_getElem hi,List.getElem?_eq_getElem hj,Option.getD_some] at e
  exact (List.getElem_inj h).1 (by omega)
theorem Right.few {ls:List Lk} (R:Right ls):sumW ls <= 1000:=by
 rw [qnb]
 refine qnc (n:=1000) (qf8.2 fun x hx => ?_) fun x hx => ?_
 ·obtain ⟨j,l,hl,h⟩:=qd8.1 hx
  rw [<- qf7];exact R.once j l x hl h
 ·obtain ⟨j,l,hl,h⟩:=qd8.1 hx
  exact R.no j l x hl h
end Go.Proofs.YthpdlbcdbncnhaaGreatDoor
