/-
  Fair shares over lists: contracts of the model's functions.
  Fair shares: a contract of the model's function.
  Locks: who waits where, as a map; what is right of them by
  The walks of the exact laws of chapter 7, over contracts of
  In a list of tasks each is found at its place.
  Deadlines: the contract of one of the model's functions.
  The walks of the exact laws over lists of tasks, over contr
  The walks of the exact laws over one task, over contracts o
  Deadlines: the contract of one of the model's functions.
  An element of a row of one's own is written over.
  Fair shares: a contract of the model's function.
  The walks of the exact laws over ChainOf, LockAsk and LockF
  Fair shares: a contract of the model's function.
  copy of elements of whatever size into a row that is known
  Drawn locks: the contract of the model's l7DrawRight.
  The system, as a plain record, and what chapter 9 asks of i
  Rows of ghosts and of turns: the laws' own helpers.
-/
import Derived.Test.YteagpjlgjfaclaaGreatDoorFixSpec
import Derived.Test.YteagpjlgjfaclaaGreatDoorTaskList
import Derived.Test.YteagpjlgjfaclaaGreatDoorLockSpec2
import Derived.Test.YteagpjlgjfaclaaGreatDoorPlain1
import Derived.Test.YteagpjlgjfaclaaGreatDoorDueSpec
import Derived.Test.YteagpjlgjfaclaaGreatDoorTasksOkS
import Derived.Test.YteagpjlgjfaclaaGreatDoorTaskPut
import Derived.Test.YteagpjlgjfaclaaGreatDoorTaskNew
import Derived.Test.YteagpjlgjfaclaaGreatDoorFrame
import Derived.Laws.CopyOwn
import Derived.Test.YteagpjlgjfaclaaGreatDoorPickSpec
import Derived.Test.YteagpjlgjfaclaaGreatDoorSum
import Derived.Test.YteagpjlgjfaclaaGreatDoorFar
import Derived.Deep.RegionHeld3
namespace Go.Proofs.YteagpjlgjfaclaaGreatDoor
set_option maxRecDepth 100000
open Go.RowKit
attribute [local go_sem] Keeps.refl Keeps.alloc Keeps.drew Keeps.drewN
theorem qje {α β:Type} (f:β->α->β) (a:β) {ts:List α} {k:Nat} {t:α} (h:ts[k]?=some t):(ts.take (k+1)).foldl f a=f ((ts.take k).foldl f a) t:=by
 have hk:k < ts.length:=by
  rcases Nat.lt_or_ge k ts.length with h' | h'
  ·exact h'
  ·simp [List.getElem?_eq_none h'] at h
 rw [List.getElem?_eq_getElem hk] at h
 rw [List.take_succ_eq_append_getElem hk,List.foldl_append]
 simp only [Option.some.injEq] at h
 rw [h]
 rfl
theorem qjf {α β:Type} (f:β->α->β) (a:β) {ts:List α} {k:Nat} (h:ts.length <= k):(ts.take k).foldl f a=ts.foldl f a:=by rw [List.take_of_length_le h]
set_option maxHeartbeats 2000000 in
theorem qf7 (a:Option Addr) (cap:Nat) (ts:List Tsk) (floor:Int) (w:World) (hl:ts.length <= maxLen) (hs:Ts w a ts) :
  Calls Tryz.prog 178 #[.slice a ts.length cap,.int .i64 floor] w fun e w'=>e = .returned (.int .i64 (qc1 ts floor)) /\ Keeps w w':=by
 unfold maxLen at hl
 generalize hn:ts.length=n at hl
 have Hn:Hid (ts.length=n):=hn
 clear hn
 go_enter Tryz.func178,Tryz.ntmps178
 go_wp2
 go_loopw [5,6] (fun l i wr=>∃ k:Nat,k <= n /\ i = .int .i64 k /\ l = .int .i64 ((ts.take k).foldl qbn (-1)) /\ Keeps w wr) (fun _ i _=>n - (intOf i).toNat)
 case atStart=>exact ⟨0,Nat.zero_le _,rfl,rfl,Keeps.refl _⟩
 case round =>
  obtain ⟨k,hk,rfl,rfl,hK⟩:=hrel
  by_cases hlt:k < n
  ·obtain ⟨t,ht⟩:=qbP (xs:=ts) (k:=k) (by rw [Hn.out];exact hlt)
   obtain ⟨b,off,rfl,r0,r1⟩:=hs.at ht (by omega)
   have hlt':(k:Int) < (n:Int):=by omega
   have Ht:Hid ((ts.take (k+1)).foldl qbn (-1)=qbn ((ts.take k).foldl qbn (-1)) t):=qje _ _ ht
   clear hs ht
   generalize (ts.take k).foldl qbn (-1)=L at *
   cases hf:qbb t
   ·have HL:Hid (qbn L t=L):=by show _=_;simp [qbn,hf]
    go_wp2_with (go_at_call 184;refine (qcE t _).mono ?_;rintro e w1 ⟨rfl,k1⟩;have K1:=hK.trans k1;rw [hf])
    exact ⟨⟨k+1,by omega,by go_num,by rw [Ht.out,HL.out],K1⟩,by simp only [intOf];omega⟩
   ·cases h1:decide (L < 0)
    ·cases h2:decide (t.v < L)
     ·have HL:Hid (qbn L t=L):=by show _=_;simp only [qbn,hf,h1,h2,Bool.or_false,Bool.and_false,Bool.false_eq_true,if_false]
      go_wp2_with (go_at_call 184;refine (qcE t _).mono ?_;rintro e w1 ⟨rfl,k1⟩;have K1:=hK.trans k1;rw [hf])
      exact ⟨⟨k+1,by omega,by go_num,by rw [Ht.out,HL.out],K1⟩,by simp only [intOf];omega⟩
     ·have HL:Hid (qbn L t=t.v):=by show _=_;simp only [qbn,hf,h2,Bool.or_true,Bool.and_true,if_true]
      go_wp2_with (go_at_call 184;refine (qcE t _).mono ?_;rintro e w1 ⟨rfl,k1⟩;have K1:=hK.trans k1;rw [hf])
      exact ⟨⟨k+1,by omega,by go_num,by rw [Ht.out,HL.out],K1⟩,by simp only [intOf];omega⟩
    ·have HL:Hid (qbn L t=t.v):=by show _=_;simp only [qbn,hf,h1,Bool.true_or,Bool.and_true,if_true]
     go_wp2_with (go_at_call 184;refine (qcE t _).mono ?_;rintro e w1 ⟨rfl,k1⟩;have K1:=hK.trans k1;rw [hf])
     exact ⟨⟨k+1,by omega,by go_num,by rw [Ht.out,HL.out],K1⟩,by simp only [intOf];omega⟩
  ·have hlt':decide ((k:Int) < (n:Int))=false:=by simp;omega
   rw [qjf qbn (-1) (show ts.length <= k by have:=Hn.out;omega)]
   have HV:Hid (qc1 ts floor=if ts.foldl qbn (-1) < 0 then floor else max floor (ts.foldl qbn (-1))):=rfl
   generalize ts.foldl qbn (-1)=L at *
   clear hs
   cases h1:decide (L < 0)
   ·have HL:Hid (qc1 ts floor=max floor L):=by show _=_;rw [HV.out,if_neg (of_decide_eq_false h1)]
    go_wp2_with (go_at_call 56;refine (qcD _ _ _).mono ?_;rintro e w' ⟨rfl,hw'⟩;have hw2:=hw'.symm;subst hw2)
    go_ret
    exact ⟨by rw [HL.out];rfl,hK⟩
   ·have HL:Hid (qc1 ts floor=floor):=by show _=_;rw [HV.out,if_pos (of_decide_eq_true h1)]
    go_wp2
    go_ret
    exact ⟨by rw [HL.out];rfl,hK⟩
end Go.Proofs.YteagpjlgjfaclaaGreatDoor
namespace Go.Proofs.YteagpjlgjfaclaaGreatDoor
set_option maxRecDepth 100000
open Go.RowKit
attribute [local go_sem] Keeps.refl Keeps.alloc Keeps.drew Keeps.drewN
set_option maxHeartbeats 4000000 in
theorem qga (t:Tsk) (floor:Int) (w:World) :
  Calls Tryz.prog 200 #[tk t,.int .i64 floor] w fun e w'=>e = .returned (tk (qc0 t floor)) /\ Keeps w w':=by
 go_enter Tryz.func200,Tryz.ntmps200
 go_wp2_with fail
 refine (qcE t _).mono ?_
 rintro e w1 ⟨rfl,k1⟩
 have B1:=((Blk.new w (tc t) 43).alloc (.cells (tc Tsk.zero) 43)).keeps k1
 have B2:=(Blk.new (w.alloc (.cells (tc t) 43)) (tc Tsk.zero) 43).keeps k1
 have K1:Hid (Keeps w w1):=(((Keeps.refl w).alloc _).alloc _).trans k1
 simp only [World.size_alloc] at B2
 have R:Hid (Blk w1 (w.heap.size+1) (tc Tsk.zero)):=B2
 have B0:Hid (Blk w1 w.heap.size (tc t)):=B1
 obtain ⟨_,b1,b2⟩:=B1
 obtain ⟨_,c1,c2⟩:=B2
 clear k1
 cases hd:qbb t
 ·have Hn:Hid (qc0 t floor=t):=by show _=_;simp [qc0,hd]
  go_wp2
  have D:=R.out.putC (tc (t)).toList rfl
  have K:=Keeps.putC (b:=w.heap.size+1) (by omega) (tc (t)).toList 0 K1.out
  change bodyPost _ _ _ _ _ (putC w1 (w.heap.size+1) 0 (tc (t)).toList)
  generalize putC w1 (w.heap.size+1) 0 (tc (t)).toList=X at D K ⊢
  exact bodyPost_ret (v:=tk (t)) (by simp [results,Tryz.results200,go_sem,D.cells]) rfl ⟨by rw [Hn.out],K⟩
 ·have Hn:Hid (qc0 t floor=qci t (max t.v floor)):=by show _=_;simp [qc0,hd]
  obtain ⟨N,HN⟩:∃ N,Hid (qci t (max t.v floor)=N):=⟨_,rfl⟩
  go_wp2_with fail
  have H0:Has w w.heap.size (tc t) w1:=⟨K1.out,B0.out⟩
  have r1:∀ w',Has w w.heap.size (tc t) w'->∀ k,w'.cell? ⟨w.heap.size,k,none⟩=(tc t)[k]?:=fun w' h=>h.box.cells
  clear b1 b2 c1 c2
  refine wp_region_held_drew (S:=(fun w'=>Has w w.heap.size (tc t) w')) (by kernel_rfl) ?_ (fun hHeld => ?_)
  ·exact H0.go (Keeps.refl _).drew
  refine Plan.go [0,1,2,3] ?_
  iterate 4 (refine qac (by simp only [qab];rfl) (by kernel_rfl) (by exact fun _ _ _ h=>h) (by rfl) (by assumption) (fun w _=>by go_simp;try (with_reducible rfl)) ?_;try simp only [qaa])
  refine Plan.nil ?_
  refine qad 4 (by kernel_rfl) (by simp only [qab];rfl) (fun K hK => ?_)
  go_simp
  first
   | (go_at_call 56;refine (qcD _ _ _).mono ?_;rintro e w2 ⟨rfl,rfl⟩)
   | (go_at_call 214;refine (qes t _ _).mono ?_;rintro e w3 ⟨rfl,k3⟩;rw [HN.out])
  try go_wp2_with fail
  refine hK.out _ _ ?_ (fun hHeld => ?_)
  ·first | exact Has.go (by assumption) (by assumption) | assumption
  clear hK K
  try simp only [qaa]
  refine qad 5 (by kernel_rfl) (by simp only [qab];rfl) (fun K hK => ?_)
  go_simp
  first
   | (go_at_call 56;refine (qcD _ _ _).mono ?_;rintro e w2 ⟨rfl,rfl⟩)
   | (go_at_call 214;refine (qes t _ _).mono ?_;rintro e w3 ⟨rfl,k3⟩;rw [HN.out])
  try go_wp2_with fail
  refine hK.out _ _ ?_ (fun hHeld => ?_)
  ·first | exact Has.go (by assumption) (by assumption) | assumption
  clear hK K
  try simp only [qaa]
  refine qad 6 (by kernel_rfl) (by simp only [qab];rfl) (fun K hK => ?_)
  have HB:=R.out.keeps ((Keeps.refl w1).drew.trans k3);have HD:Hid (Blk w3 (w.heap.size+1) (tc Tsk.zero)):=HB;obtain ⟨_,q1,q2⟩:=HB
  go_simp
  try go_wp2_with fail
  refine hK.out _ _ ?_ (fun hHeld => ?_)
  ·exact Has.put (by assumption) (r:=w.heap.size+1) (by omega) (by omega) 0 (tc N).toList
  clear hK K
  try simp only [qaa]
  refine wpAnyH_done (by kernel_rfl) ?_ _
  go_wp2
  have D:=HD.out.putC (tc N).toList rfl
  have K:=Keeps.putC (b:=w.heap.size+1) (by omega) (tc N).toList 0 (K1.out.trans ((Keeps.refl w1).drew.trans k3))
  change bodyPost _ _ _ _ _ (putC w3 (w.heap.size+1) 0 (tc N).toList)
  generalize putC w3 (w.heap.size+1) 0 (tc N).toList=X at D K ⊢
  exact bodyPost_ret (v:=tk N) (by simp [results,Tryz.results200,go_sem,D.cells]) rfl ⟨by rw [Hn.out,HN.out],K⟩
end Go.Proofs.YteagpjlgjfaclaaGreatDoor
namespace Go.Proofs.YteagpjlgjfaclaaGreatDoor
set_option maxRecDepth 100000
open Go.RowKit
def addW (at_:Int) (es:List (Int × Int)) (no:Int):List (Int × Int):=if hasM es no then es else es++[(no,at_)]
def addL (at_:Int) (es:List (Int × Int)) (ws:List Int):List (Int × Int):=ws.foldl (addW at_) es
def qaZ (ls:List Lk):Nat->List (Int × Int)
 | 0=>[]
 | k+1=>addL k (qaZ ls k) (match ls[k]? with | some l=>l.waits | none=>[])
def qaP (ls:List Lk):List (Int × Int):=qaZ ls ls.length
theorem qe7 {ls:List Lk} {k:Nat} {l:Lk} (h:ls[k]?=some l):qaZ ls (k+1)=addL k (qaZ ls k) l.waits:=by simp [qaZ,h]
theorem qjW {at_:Int} {es:List (Int × Int)} {ws:List Int} {j:Nat} {x:Int} (h:ws[j]?=some x):addL at_ es (ws.take (j+1))=addW at_ (addL at_ es (ws.take j)) x:=by
 unfold addL
 rw [List.take_add_one,h,List.foldl_append]
 rfl
theorem qgo (a:Int) (es:List (Int × Int)) (no x:Int):qaK (addW a es no) x=(qaK es x).or (if no==x then some a else none):=by
 unfold addW hasM
 cases h:qaK es no with
 | none =>
  simp only [Option.isSome_none,Bool.false_eq_true,if_false]
  rw [qlB,qlC]
 | some v =>
  simp only [Option.isSome_some,if_true]
  by_cases e:no=x
  ·subst e;rw [h];rfl
  ·rw [if_neg (by simpa using e)];simp
theorem qgp (a:Int):∀ (ws:List Int) (es:List (Int × Int)) (x:Int),qaK (addL a es ws) x=(qaK es x).or (if hasB ws x then some a else none)
 | [],es,x=>by simp [addL,hasB]
 | y::r,es,x=>by
  have ih:=qgp a r (addW a es y) x
  unfold addL at ih ⊢
  rw [List.foldl_cons,ih,qgo]
  have e:hasB (y::r) x=((y==x)||hasB r x):=by simp [hasB]
  rw [e]
  cases qaK es x with
  | some v=>rfl
  | none=>cases c:(y==x) <;> simp
theorem qe8 (ls:List Lk):∀ (k:Nat),k <= ls.length->∀ x,qaK (qaZ ls k) x=(qay (ls.take k) x).map fun i:Nat=>(i:Int)
 | 0,_,x=>by simp [qaZ,qaK,qay]
 | k+1,hk,x=>by
  obtain ⟨l,hl⟩:=qal (xs:=ls) (k:=k) (by omega)
  rw [qe7 hl,qgp,qe8 ls k (by omega) x]
  unfold qay
  rw [List.take_add_one,hl,List.findIdx?_append]
  cases h:List.findIdx? (fun l=>hasB l.waits x) (ls.take k) with
  | some i=>rfl
  | none =>
   simp only [Option.toList_some,List.findIdx?_singleton,Option.map_none,Option.none_or,List.length_take]
   cases hb:hasB l.waits x
   ·rfl
   ·simp;omega
theorem qgq (ls:List Lk) (x:Int):qaK (qaP ls) x=(qay ls x).map fun i:Nat=>(i:Int):=by
 have:=qe8 ls ls.length (Nat.le_refl _) x
 rwa [List.take_length] at this
theorem qjX {ls:List Lk} {x:Int} (h:qay ls x=none):hasM (qaP ls) x=false:=by unfold hasM;rw [qgq,h];rfl
theorem qgr {ls:List Lk} {x:Int} {i:Nat} (h:qay ls x=some i):hasM (qaP ls) x=true /\ valM (qaP ls) x=(i:Int):=by
 unfold hasM valM
 rw [qgq,h]
 exact ⟨rfl,rfl⟩
theorem qgs (a:Int):∀ (ws:List Int) (es:List (Int × Int)),(addL a es ws).length <= es.length+ws.length /\ ((addL a es ws).length=es.length+ws.length↔(∀ x∈ws,qaK es x=none) /\ ws.Nodup)
 | [],es=>by simp [addL]
 | y::r,es=>by
  have ih:=qgs a r (addW a es y)
  have e1:addL a es (y::r)=addL a (addW a es y) r:=rfl
  rw [e1]
  cases h:qaK es y with
  | some v =>
   have e2:addW a es y=es:=by unfold addW hasM;rw [h];rfl
   rw [e2] at ih ⊢
   refine ⟨by simp only [List.length_cons];omega,fun hh => ?_,fun hh => ?_⟩
   ·simp only [List.length_cons] at hh;omega
   ·have:=hh.1 y (List.mem_cons_self ..);rw [h] at this;cases this
  | none =>
   have e2:addW a es y=es++[(y,a)]:=by unfold addW hasM;rw [h];rfl
   have e3:(addW a es y).length=es.length+1:=by rw [e2];simp
   rw [e3] at ih
   refine ⟨by simp only [List.length_cons];omega,?_⟩
   have e4:(addL a (addW a es y) r).length=es.length+(y::r).length↔(addL a (addW a es y) r).length=es.length+1+r.length:=by simp only [List.length_cons];omega
   rw [e4,ih.2,List.nodup_cons]
   have e5:∀ x,qaK (addW a es y) x=none↔qaK es x=none /\ y≠x:=by
    intro x
    rw [qgo]
    cases qaK es x with
    | some v=>simp
    | none=>by_cases c:y=x <;> simp [c]
   constructor
   ·rintro ⟨h1,h2⟩
    refine ⟨fun x hx => ?_,fun hm=>((e5 y).1 (h1 y hm)).2 rfl,h2⟩
    rcases List.mem_cons.1 hx with rfl | hx
    ·exact h
    ·exact ((e5 x).1 (h1 x hx)).1
   ·rintro ⟨h1,h2,h3⟩
    exact ⟨fun x hx=>(e5 x).2 ⟨h1 x (List.mem_cons_of_mem _ hx),fun e=>h2 (e ▸ hx)⟩,h3⟩
theorem qgt (ls:List Lk):∀ k,k <= ls.length->(qaZ ls k).length <= sumW (ls.take k) /\ ((qaZ ls k).length=sumW (ls.take k)↔(allW (ls.take k)).Nodup)
 | 0,_=>by simp [qaZ,sumW,allW]
 | k+1,hk=>by
  obtain ⟨l,hl⟩:=qal (xs:=ls) (k:=k) (by omega)
  have ih:=qgt ls k (by omega)
  have h2:=qgs k l.waits (qaZ ls k)
  have e0:allW (ls.take (k+1))=allW (ls.take k)++l.waits:=by rw [List.take_add_one,hl,qlh];simp [allW]
  rw [qe7 hl,qd9 hl,e0,List.nodup_append]
  refine ⟨by omega,?_⟩
  have e1:(addL k (qaZ ls k) l.waits).length=sumW (ls.take k)+l.waits.length↔(addL k (qaZ ls k) l.waits).length=(qaZ ls k).length+l.waits.length /\ (qaZ ls k).length=sumW (ls.take k):=by omega
  rw [e1,h2.2,ih.2]
  have e2:∀ x,qaK (qaZ ls k) x=none↔x ∉ allW (ls.take k):=by
   intro x
   rw [qe8 ls k (by omega),Option.map_eq_none_iff,qg0]
  constructor
  ·rintro ⟨⟨h3,h4⟩,h5⟩
   exact ⟨h5,h4,fun a ha b hb e=>(e2 b).1 (h3 b hb) (e ▸ ha)⟩
  ·rintro ⟨h3,h4,h5⟩
   exact ⟨⟨fun x hx=>(e2 x).2 fun hm=>h5 x hm x hx rfl,h4⟩,h3⟩
theorem qgu (ls:List Lk):(qaP ls).length <= sumW ls /\ ((qaP ls).length=sumW ls↔(allW ls).Nodup):=by
 have:=qgt ls ls.length (Nat.le_refl _)
 rwa [List.take_length] at this
def qbk (l:Lk):Bool:=l.waits.all (fun x=>inB x 1 1000)&&(inB l.owner 0 1000&&(!(l.owner==0)||l.waits.length==0))
theorem qjY (ls:List Lk):(decide (ls.length <= 5)&&(ls.all qbk&&(decide ((qaP ls).length=sumW ls)&&ls.all fun l=>(qap ls (ls.length+1) l.owner).2)))=qax ls:=by
 apply Bool.eq_iff_iff.2
 rw [qd7]
 simp only [Bool.and_eq_true,decide_eq_true_eq,List.all_eq_true,(qgu ls).2,qfr]
 have atm:∀ {j:Nat} {l:Lk},ls[j]?=some l->l∈ls:=fun h=>List.mem_of_getElem? h
 constructor
 ·rintro ⟨h1,h2,h3,h4⟩
  have key:∀ l∈ls,(∀ x∈l.waits,1 <= x /\ x <= 1000) /\ (0 <= l.owner /\ l.owner <= 1000) /\ (l.owner=0->l.waits=[]):=by
   intro l hl
   have:=h2 l hl
   simp only [qbk,Bool.and_eq_true,List.all_eq_true,qas,Bool.or_eq_true,Bool.not_eq_true',beq_eq_false_iff_ne,beq_iff_eq,List.length_eq_zero_iff] at this
   refine ⟨this.1,this.2.1,fun e => ?_⟩
   rcases this.2.2 with h | h
   ·exact absurd e h
   ·exact h
  refine ⟨h1,fun j l hl=>(key l (atm hl)).2.1,fun j l hl=>(key l (atm hl)).2.2,fun j l x hl hx=>(key l (atm hl)).1 x (qcK.1 hx),fun j l x hl hx => ?_,fun j l x hl hx => ?_⟩
  ·rw [qfq];exact h3 x (qdL.2 ⟨j,l,hl,hx⟩)
  ·cases hw:qay ls x with
   | none=>exact absurd (qdL.2 ⟨j,l,hl,hx⟩) (qg0.1 hw)
   | some i =>
    obtain ⟨m,hm,-,-⟩:=qc6 hw
    obtain ⟨c,hc⟩:=qfn.1 (h4 m (atm hm))
    exact ⟨_,Ends.step hw (by rw [qbT hm];exact hc)⟩
 ·intro R
  have mem:∀ {l:Lk},l∈ls->∃ j:Nat,ls[j]?=some l:=fun hl=>by
   obtain ⟨j,hj,rfl⟩:=List.mem_iff_getElem.1 hl
   exact ⟨j,List.getElem?_eq_getElem hj⟩
  refine ⟨R.len,fun l hl => ?_,fun x hx => ?_,fun l hl => ?_⟩
  ·obtain ⟨j,hj⟩:=mem hl
   simp only [qbk,Bool.and_eq_true,List.all_eq_true,qas,Bool.or_eq_true,Bool.not_eq_true',beq_eq_false_iff_ne,beq_iff_eq,List.length_eq_zero_iff]
   refine ⟨fun x hx=>R.no j l x hj (qcK.2 hx),R.owner j l hj,?_⟩
   by_cases e:l.owner=0
   ·exact .inr (R.free j l hj e)
   ·exact .inl e
  ·obtain ⟨j,l,hj,hx⟩:=qdL.1 hx
   rw [<- qfq];exact R.once j l x hj hx
  ·rw [qfn]
   cases hw:qay ls l.owner with
   | none=>exact ⟨_,Ends.stop hw⟩
   | some i =>
    obtain ⟨m,hm,hx,-⟩:=qc6 hw
    exact R.ends i m l.owner hm hx
end Go.Proofs.YteagpjlgjfaclaaGreatDoor
namespace Go.Proofs.YteagpjlgjfaclaaGreatDoor
set_option maxRecDepth 100000
open Go.RowKit
variable {p:Bool}
attribute [local go_sem] Keeps.refl Keeps.alloc Keeps.drew Keeps.drewN
end Go.Proofs.YteagpjlgjfaclaaGreatDoor
namespace Go.Proofs.YteagpjlgjfaclaaGreatDoor
set_option maxRecDepth 100000
open Go.RowKit
theorem qmA {ts:List Tsk} (h:ascB ts=true):∀ (j i:Nat) (a b:Tsk),i < j->ts[i]?=some a->ts[j]?=some b->a.no < b.no:=by
 have H:=(qfJ ts).1 h
 intro j
 induction j with
 | zero=>intro i a b hi;omega
 | succ j ih =>
  intro i a b hi ha hb
  rcases Nat.lt_or_ge i j with h1 | h1
  ·have hj:j < ts.length:=by
    rcases Nat.lt_or_ge (j+1) ts.length with h | h
    ·omega
    ·simp [List.getElem?_eq_none h] at hb
   have h2:=ih i a ts[j] h1 ha (List.getElem?_eq_getElem hj)
   have h3:=H j ts[j] b (List.getElem?_eq_getElem hj) hb
   omega
  ·obtain rfl:i=j:=by omega
   exact H i a b ha hb
theorem qmB {ts:List Tsk} (h:qav ts=true):ascB ts=true:=by
 simp only [qav,Bool.and_eq_true] at h;exact h.1.2
theorem qhP {ts:List Tsk} (h:qav ts=true) {i:Nat} {x:Tsk} (hx:ts[i]?=some x):qau ts x.no=i:=by
 have A:=qmA (qmB h)
 have hi:i < ts.length:=by
  rcases Nat.lt_or_ge i ts.length with h | h
  ·exact h
  ·simp [List.getElem?_eq_none h] at hx
 have:ts.findIdx? (fun t=>t.no==x.no)=some i:=by
  rw [List.findIdx?_eq_some_iff_getElem]
  have e1:ts[i]=x:=by rw [List.getElem?_eq_getElem hi] at hx;simpa using hx
  refine ⟨hi,by rw [e1];simp,fun j hj => ?_⟩
  have:=A i j ts[j] x hj (List.getElem?_eq_getElem _) hx
  simp;omega
 simp [qau,this]
theorem qhQ {ts:List Tsk} (h:qav ts=true) {i:Nat} {t:Tsk} (ht:ts[i]?=some t):qah t=true:=by
 simp only [qav,Bool.and_eq_true] at h
 exact List.all_eq_true.1 h.1.1 t (List.mem_of_getElem? ht)
end Go.Proofs.YteagpjlgjfaclaaGreatDoor
namespace Go.Proofs.YteagpjlgjfaclaaGreatDoor
set_option maxRecDepth 100000
open Go.RowKit
attribute [local go_sem] Keeps.refl Keeps.alloc Keeps.drew Keeps.drewN
set_option maxHeartbeats 2000000 in
theorem qfY (t:Tsk) (now:Int) (w:World) :
  Calls Tryz.prog 176 #[tk t,.int .i64 now] w fun e w'=>e = .returned (tk (qbZ t now)) /\ Keeps w w':=by
 go_enter Tryz.func176,Tryz.ntmps176
 go_wp2_with fail
 refine (qdZ t _).mono ?_
 rintro e w1 ⟨rfl,k1⟩
 have B1:=((Blk.new w (tc t) 43).alloc (.cells (tc Tsk.zero) 43)).keeps k1
 have B2:=(Blk.new (w.alloc (.cells (tc t) 43)) (tc Tsk.zero) 43).keeps k1
 have K1:Hid (Keeps w w1):=(((Keeps.refl w).alloc _).alloc _).trans k1
 simp only [World.size_alloc] at B2
 have R:Hid (Blk w1 (w.heap.size+1) (tc Tsk.zero)):=B2
 obtain ⟨_,b1,b2⟩:=B1
 obtain ⟨_,c1,c2⟩:=B2
 clear k1
 cases hd:dueB t
 ·have Hn:Hid (qbZ t now=t):=by show _=_;simp [qbZ,qdY,hd]
  go_wp2
  have D:=R.out.putC (tc (t)).toList rfl
  have K:=Keeps.putC (b:=w.heap.size+1) (by omega) (tc (t)).toList 0 K1.out
  change bodyPost _ _ _ _ _ (putC w1 (w.heap.size+1) 0 (tc (t)).toList)
  generalize putC w1 (w.heap.size+1) 0 (tc (t)).toList=X at D K ⊢
  exact bodyPost_ret (v:=tk (t)) (by simp [results,Tryz.results176,go_sem,D.cells]) rfl ⟨by rw [Hn.out],K⟩
 ·cases hi:inB now 0 100000
  ·have Hn:Hid (qbZ t now=t):=by show _=_;simp [qbZ,qdY,hi]
   go_wp2_with (go_at_call 27;refine (qag _ _ _ _).mono ?_;rintro e w' ⟨rfl,hw'⟩;have hw2:=hw'.symm;subst hw2)
   have D:=R.out.putC (tc (t)).toList rfl
   have K:=Keeps.putC (b:=w.heap.size+1) (by omega) (tc (t)).toList 0 K1.out
   change bodyPost _ _ _ _ _ (putC w1 (w.heap.size+1) 0 (tc (t)).toList)
   generalize putC w1 (w.heap.size+1) 0 (tc (t)).toList=X at D K ⊢
   exact bodyPost_ret (v:=tk (t)) (by simp [results,Tryz.results176,go_sem,D.cells]) rfl ⟨by rw [Hn.out],K⟩
  ·have H:=(qeZ t).1 hd
   obtain ⟨p0,p1⟩:=H.p
   obtain ⟨d0,d1⟩:=H.due
   clear H
   cases hl:decide (now < t.due)
   ·have hl':=of_decide_eq_false hl
    have Hn:Hid (qbZ t now={ t with left:=t.q,due:=t.due+t.p }):=by show _=_;simp only [qbZ,qdY,hd,hi,decide_eq_true (show t.due <= now by omega),Bool.and_true,if_true]
    go_wp2_with (go_at_call 27;refine (qag _ _ _ _).mono ?_;rintro e w' ⟨rfl,hw'⟩;have hw2:=hw'.symm;subst hw2)
    have D:=((R.out.far (c:=w.heap.size) (o:=7) (by omega) (.int .i64 (t.q))).far (c:=w.heap.size) (o:=8) (by omega) (.int .i64 (t.due+t.p))).putC (tc ({ t with left:=t.q,due:=t.due+t.p })).toList rfl
    have K:=Keeps.putC (b:=w.heap.size+1) (by omega) (tc ({ t with left:=t.q,due:=t.due+t.p })).toList 0 ((K1.out.setCell (p:=⟨w.heap.size,7,none⟩) (Nat.le_refl _) (.int .i64 (t.q))).setCell (p:=⟨w.heap.size,8,none⟩) (Nat.le_refl _) (.int .i64 (t.due+t.p)))
    change bodyPost _ _ _ _ _ (putC ((w1.setCell ⟨w.heap.size,7,none⟩ (.int .i64 (t.q))).setCell ⟨w.heap.size,8,none⟩ (.int .i64 (t.due+t.p))) (w.heap.size+1) 0 (tc ({ t with left:=t.q,due:=t.due+t.p })).toList)
    generalize putC ((w1.setCell ⟨w.heap.size,7,none⟩ (.int .i64 (t.q))).setCell ⟨w.heap.size,8,none⟩ (.int .i64 (t.due+t.p))) (w.heap.size+1) 0 (tc ({ t with left:=t.q,due:=t.due+t.p })).toList=X at D K ⊢
    exact bodyPost_ret (v:=tk ({ t with left:=t.q,due:=t.due+t.p })) (by simp [results,Tryz.results176,go_sem,D.cells]) rfl ⟨by rw [Hn.out],K⟩
   ·have hl':=of_decide_eq_true hl
    have Hn:Hid (qbZ t now=t):=by show _=_;simp only [qbZ,qdY,decide_eq_false (show ¬ t.due <= now by omega),Bool.and_false,Bool.false_eq_true,if_false]
    go_wp2_with (go_at_call 27;refine (qag _ _ _ _).mono ?_;rintro e w' ⟨rfl,hw'⟩;have hw2:=hw'.symm;subst hw2)
    have D:=R.out.putC (tc (t)).toList rfl
    have K:=Keeps.putC (b:=w.heap.size+1) (by omega) (tc (t)).toList 0 K1.out
    change bodyPost _ _ _ _ _ (putC w1 (w.heap.size+1) 0 (tc (t)).toList)
    generalize putC w1 (w.heap.size+1) 0 (tc (t)).toList=X at D K ⊢
    exact bodyPost_ret (v:=tk (t)) (by simp [results,Tryz.results176,go_sem,D.cells]) rfl ⟨by rw [Hn.out],K⟩
end Go.Proofs.YteagpjlgjfaclaaGreatDoor
namespace Go.Proofs.YteagpjlgjfaclaaGreatDoor
set_option maxRecDepth 100000
open Go.RowKit
attribute [local go_sem] Keeps.refl Keeps.alloc Keeps.drew Keeps.drewN
def qmx:Prop:=∀ (a:Option Addr) (cap:Nat) (ts:List Tsk) (no:Int) (w:World),ts.length <= maxLen->Ts w a ts->Calls Tryz.prog 17 #[.slice a ts.length cap,.int .i64 no] w fun e w'=>e = .returned (.int .i64 (qau ts no)) /\ Keeps w w'
def qmy:Prop:=∀ (a:Option Addr) (cap:Nat) (ts:List Tsk) (w:World),ts.length <= maxLen->Ts w a ts->Calls Tryz.prog 33 #[.slice a ts.length cap] w fun e w'=>e = .returned (.bool (qav ts)) /\ Keeps w w'
def qmz:Prop:=∀ (ba off cap:Nat) (ts:List Tsk) (t:Tsk) (w:World),ts.length <= maxLen->ts.length <= cap->Ts w (some ⟨ba,off,none⟩) ts->Calls Tryz.prog 187 #[.slice (some ⟨ba,off,none⟩) ts.length cap,tk t] w fun e w'=>∃ v,e = .returned (.tuple #[v,.bool (putB ts t)]) /\ OwnT w' w.heap.size v (putL ts t) /\ Keeps w w'
end Go.Proofs.YteagpjlgjfaclaaGreatDoor
namespace Go.Proofs.YteagpjlgjfaclaaGreatDoor
set_option maxRecDepth 100000
open Go.RowKit
attribute [local go_sem] Keeps.refl Keeps.alloc Keeps.drew Keeps.drewN
def qmu:Prop:=∀ (t:Tsk) (w:World),Calls Tryz.prog 74 #[tk t] w fun e w'=>e = .returned (.bool (qah t)) /\ Keeps w w'
def qmv:Prop:=∀ (no cpu q p now:Int) (w:World),Calls Tryz.prog 162 #[.int .i64 no,.int .i64 cpu,.int .i64 q,.int .i64 p,.int .i64 now] w fun e w'=>e = .returned (.tuple #[tk (qaV no cpu q p now),.bool (qaY no cpu q p now)]) /\ Keeps w w'
end Go.Proofs.YteagpjlgjfaclaaGreatDoor
namespace Go.Proofs.YteagpjlgjfaclaaGreatDoor
set_option maxRecDepth 100000
open Go.RowKit
attribute [local go_sem] Keeps.refl Keeps.alloc Keeps.drew Keeps.drewN
set_option maxHeartbeats 2000000 in
theorem qf0 (t:Tsk) (now:Int) (w:World) :
  Calls Tryz.prog 201 #[tk t,.int .i64 now] w fun e w'=>e = .returned (tk (qbQ t now)) /\ Keeps w w':=by
 go_enter Tryz.func201,Tryz.ntmps201
 go_wp2_with fail
 refine (qdZ t _).mono ?_
 rintro e w1 ⟨rfl,k1⟩
 have B1:=((Blk.new w (tc t) 43).alloc (.cells (tc Tsk.zero) 43)).keeps k1
 have B2:=(Blk.new (w.alloc (.cells (tc t) 43)) (tc Tsk.zero) 43).keeps k1
 have K1:Hid (Keeps w w1):=(((Keeps.refl w).alloc _).alloc _).trans k1
 simp only [World.size_alloc] at B2
 have R:Hid (Blk w1 (w.heap.size+1) (tc Tsk.zero)):=B2
 obtain ⟨_,b1,b2⟩:=B1
 obtain ⟨_,c1,c2⟩:=B2
 clear k1
 cases hd:dueB t
 ·have Hn:Hid (qbQ t now=t):=by show _=_;simp [qbQ,qdy,hd]
  go_wp2
  have D:=R.out.putC (tc (t)).toList rfl
  have K:=Keeps.putC (b:=w.heap.size+1) (by omega) (tc (t)).toList 0 K1.out
  change bodyPost _ _ _ _ _ (putC w1 (w.heap.size+1) 0 (tc (t)).toList)
  generalize putC w1 (w.heap.size+1) 0 (tc (t)).toList=X at D K ⊢
  exact bodyPost_ret (v:=tk (t)) (by simp [results,Tryz.results201,go_sem,D.cells]) rfl ⟨by rw [Hn.out],K⟩
 ·cases hi:inB now 0 100000
  ·have Hn:Hid (qbQ t now=t):=by show _=_;simp [qbQ,qdy,hi]
   go_wp2_with (go_at_call 27;refine (qag _ _ _ _).mono ?_;rintro e w' ⟨rfl,hw'⟩;have hw2:=hw'.symm;subst hw2)
   have D:=R.out.putC (tc (t)).toList rfl
   have K:=Keeps.putC (b:=w.heap.size+1) (by omega) (tc (t)).toList 0 K1.out
   change bodyPost _ _ _ _ _ (putC w1 (w.heap.size+1) 0 (tc (t)).toList)
   generalize putC w1 (w.heap.size+1) 0 (tc (t)).toList=X at D K ⊢
   exact bodyPost_ret (v:=tk (t)) (by simp [results,Tryz.results201,go_sem,D.cells]) rfl ⟨by rw [Hn.out],K⟩
  ·have H:=(qeZ t).1 hd
   obtain ⟨p0,p1⟩:=H.p
   obtain ⟨q0,q1⟩:=H.q
   obtain ⟨l0,l1⟩:=H.left
   obtain ⟨d0,d1⟩:=H.due
   obtain ⟨n0,n1⟩:=qas.1 hi
   clear H
   cases hl:decide (t.due <= now)
   ·have hl':=of_decide_eq_false hl
    have m1:=qfX (A:=40) (B:=40) l0 (by omega) (show 0 <= t.p by omega) p1
    have m2:=qfX (A:=100040) (B:=40) (show 0 <= t.due - now by omega) (by omega) (show 0 <= t.q by omega) (by omega)
    have e1:IntKind.i64.wrap (t.left*t.p)=t.left*t.p:=Go.IntWalk.i64_in _ (by omega)
    have e2:IntKind.i64.wrap ((t.due - now)*t.q)=(t.due - now)*t.q:=Go.IntWalk.i64_in _ (by omega)
    clear m1 m2
    cases hm:decide ((t.due - now)*t.q < t.left*t.p)
    ·have Hn:Hid (qbQ t now=t):=by show _=_;simp only [qbQ,qdy,qeq,hl,hm,Bool.or_false,Bool.and_false,Bool.false_eq_true,if_false]
     go_wp2_with (go_at_call 27;refine (qag _ _ _ _).mono ?_;rintro e w' ⟨rfl,hw'⟩;have hw2:=hw'.symm;subst hw2)
     have D:=R.out.putC (tc (t)).toList rfl
     have K:=Keeps.putC (b:=w.heap.size+1) (by omega) (tc (t)).toList 0 K1.out
     change bodyPost _ _ _ _ _ (putC w1 (w.heap.size+1) 0 (tc (t)).toList)
     generalize putC w1 (w.heap.size+1) 0 (tc (t)).toList=X at D K ⊢
     exact bodyPost_ret (v:=tk (t)) (by simp [results,Tryz.results201,go_sem,D.cells]) rfl ⟨by rw [Hn.out],K⟩
    ·have Hn:Hid (qbQ t now={ t with left:=t.q,due:=now+t.p }):=by show _=_;simp only [qbQ,qdy,qeq,hl,hm,hd,hi,Bool.false_or,Bool.and_true,if_true]
     go_wp2_with (go_at_call 27;refine (qag _ _ _ _).mono ?_;rintro e w' ⟨rfl,hw'⟩;have hw2:=hw'.symm;subst hw2)
     have D:=((R.out.far (c:=w.heap.size) (o:=7) (by omega) (.int .i64 (t.q))).far (c:=w.heap.size) (o:=8) (by omega) (.int .i64 (now+t.p))).putC (tc ({ t with left:=t.q,due:=now+t.p })).toList rfl
     have K:=Keeps.putC (b:=w.heap.size+1) (by omega) (tc ({ t with left:=t.q,due:=now+t.p })).toList 0 ((K1.out.setCell (p:=⟨w.heap.size,7,none⟩) (Nat.le_refl _) (.int .i64 (t.q))).setCell (p:=⟨w.heap.size,8,none⟩) (Nat.le_refl _) (.int .i64 (now+t.p)))
     change bodyPost _ _ _ _ _ (putC ((w1.setCell ⟨w.heap.size,7,none⟩ (.int .i64 (t.q))).setCell ⟨w.heap.size,8,none⟩ (.int .i64 (now+t.p))) (w.heap.size+1) 0 (tc ({ t with left:=t.q,due:=now+t.p })).toList)
     generalize putC ((w1.setCell ⟨w.heap.size,7,none⟩ (.int .i64 (t.q))).setCell ⟨w.heap.size,8,none⟩ (.int .i64 (now+t.p))) (w.heap.size+1) 0 (tc ({ t with left:=t.q,due:=now+t.p })).toList=X at D K ⊢
     exact bodyPost_ret (v:=tk ({ t with left:=t.q,due:=now+t.p })) (by simp [results,Tryz.results201,go_sem,D.cells]) rfl ⟨by rw [Hn.out],K⟩
   ·have Hn:Hid (qbQ t now={ t with left:=t.q,due:=now+t.p }):=by show _=_;simp only [qbQ,qdy,qeq,hl,hd,hi,Bool.true_or,Bool.and_true,if_true]
    go_wp2_with (go_at_call 27;refine (qag _ _ _ _).mono ?_;rintro e w' ⟨rfl,hw'⟩;have hw2:=hw'.symm;subst hw2)
    have D:=((R.out.far (c:=w.heap.size) (o:=7) (by omega) (.int .i64 (t.q))).far (c:=w.heap.size) (o:=8) (by omega) (.int .i64 (now+t.p))).putC (tc ({ t with left:=t.q,due:=now+t.p })).toList rfl
    have K:=Keeps.putC (b:=w.heap.size+1) (by omega) (tc ({ t with left:=t.q,due:=now+t.p })).toList 0 ((K1.out.setCell (p:=⟨w.heap.size,7,none⟩) (Nat.le_refl _) (.int .i64 (t.q))).setCell (p:=⟨w.heap.size,8,none⟩) (Nat.le_refl _) (.int .i64 (now+t.p)))
    change bodyPost _ _ _ _ _ (putC ((w1.setCell ⟨w.heap.size,7,none⟩ (.int .i64 (t.q))).setCell ⟨w.heap.size,8,none⟩ (.int .i64 (now+t.p))) (w.heap.size+1) 0 (tc ({ t with left:=t.q,due:=now+t.p })).toList)
    generalize putC ((w1.setCell ⟨w.heap.size,7,none⟩ (.int .i64 (t.q))).setCell ⟨w.heap.size,8,none⟩ (.int .i64 (now+t.p))) (w.heap.size+1) 0 (tc ({ t with left:=t.q,due:=now+t.p })).toList=X at D K ⊢
    exact bodyPost_ret (v:=tk ({ t with left:=t.q,due:=now+t.p })) (by simp [results,Tryz.results201,go_sem,D.cells]) rfl ⟨by rw [Hn.out],K⟩
end Go.Proofs.YteagpjlgjfaclaaGreatDoor
namespace Go.Proofs.YteagpjlgjfaclaaGreatDoor
set_option maxRecDepth 100000
open Go.RowKit
def qcO (xs:List Value) (k:Nat):List Value->List Value
 | []=>xs
 | v::r=>qcO (xs.set k v) (k+1) r
theorem qfx (A:List Value):∀ (L B:List Value) (k:Nat),qcO (A++B) (A.length+k) L=A++qcO B k L
 | [],_,_=>rfl
 | v::r,B,k=>by
  rw [qcO,qcO,List.set_append_right _ _ (by omega),Nat.add_assoc,show A.length+k - A.length=k by omega]
  exact qfx A r (B.set k v) (k+1)
theorem qhq:∀ (L A B:List Value),A.length=L.length->qcO (A++B) 0 L=L++B
 | [],A,B,h=>by
  have:A=[]:=List.length_eq_zero_iff.1 h
  subst this
  rfl
 | v::r,[],B,h=>by simp at h
 | v::r,a::A,B,h=>by
  have h1:=qfx [v] r (A++B) 0
  have h2:=qhq r A B (by simpa using h)
  rw [qcO]
  simp only [List.cons_append,List.set_cons_zero,List.nil_append,List.length_singleton,Nat.add_zero,Nat.zero_add] at h1 ⊢
  rw [h1,h2]
theorem qhr {α:Type} {c:α->Array Value} {sz:Nat} (hc:∀ x,(c x).size=sz) (x:α):∀ (xs:List α) (i:Nat),i < xs.length->qcO (qae c xs) (i*sz) (c x).toList=qae c (xs.set i x)
 | [],i,h=>by simp at h
 | y::r,0,_=>by
  have e:qae c (y::r)=(c y).toList++qae c r:=rfl
  have e':qae c ((y::r).set 0 x)=(c x).toList++qae c r:=rfl
  rw [e,e',Nat.zero_mul]
  exact qhq _ _ _ (by simp [hc])
 | y::r,i+1,h=>by
  have e:qae c (y::r)=(c y).toList++qae c r:=rfl
  have e':qae c ((y::r).set (i+1) x)=(c y).toList++qae c (r.set i x):=rfl
  have hl:(i+1)*sz=(c y).toList.length+i*sz:=by rw [Array.length_toList,hc,Nat.add_mul,Nat.one_mul,Nat.add_comm]
  rw [e,e',hl,qfx,qhr hc x r i (by simpa using h)]
theorem qhs {base:Nat} {e:TypeId} {size g n cap:Nat}:∀ (L:List Value) (w:World) (k:Nat) (xs:List Value),w.ownsRow base e size (.slice (some ⟨g,0,none⟩) n cap) n xs ->
  (putC w g k L).ownsRow base e size (.slice (some ⟨g,0,none⟩) n cap) n (qcO xs k L)
 | [],_,_,_,h=>h
 | v::r,_,k,_,h=>qhs r _ (k+1) _ (h.stored k v).1
theorem Own.put {α:Type} {e:TypeId} {sz:Nat} {c:α->Array Value} {w:World} {base b cap:Nat} {xs:List α} (hc:∀ x,(c x).size=sz) (h:Own e sz c w base (.slice (Option.some ⟨b,0,none⟩) xs.length cap) xs) {i:Nat} (hi:i < xs.length) (x:α) :
  Own e sz c (putC w b (i*sz) (c x).toList) base (.slice (Option.some ⟨b,0,none⟩) (xs.set i x).length cap) (xs.set i x):=by
 unfold Own at h ⊢
 rw [<- qhr hc x xs i hi,List.length_set]
 exact qhs _ _ _ _ h
end Go.Proofs.YteagpjlgjfaclaaGreatDoor
namespace Go.Proofs.YteagpjlgjfaclaaGreatDoor
set_option maxRecDepth 100000
open Go.RowKit
attribute [local go_sem] Keeps.refl Keeps.alloc Keeps.drew Keeps.drewN
set_option maxHeartbeats 4000000 in
theorem qe0 (t:Tsk) (w:World) :
  Calls Tryz.prog 205 #[tk t] w fun e w'=>e = .returned (tk (qcZ t)) /\ Keeps w w':=by
 go_enter Tryz.func205,Tryz.ntmps205
 go_wp2_with fail
 refine (qcE t _).mono ?_
 rintro e w1 ⟨rfl,k1⟩
 have B1:=((Blk.new w (tc t) 43).alloc (.cells (tc Tsk.zero) 43)).keeps k1
 have B2:=(Blk.new (w.alloc (.cells (tc t) 43)) (tc Tsk.zero) 43).keeps k1
 have K1:Hid (Keeps w w1):=(((Keeps.refl w).alloc _).alloc _).trans k1
 simp only [World.size_alloc] at B2
 have R:Hid (Blk w1 (w.heap.size+1) (tc Tsk.zero)):=B2
 have B0:Hid (Blk w1 w.heap.size (tc t)):=B1
 obtain ⟨_,b1,b2⟩:=B1
 obtain ⟨_,c1,c2⟩:=B2
 clear k1
 cases hd:qbb t
 ·have Hn:Hid (qcZ t=t):=by show _=_;simp [qcZ,hd]
  go_wp2
  have D:=R.out.putC (tc (t)).toList rfl
  have K:=Keeps.putC (b:=w.heap.size+1) (by omega) (tc (t)).toList 0 K1.out
  change bodyPost _ _ _ _ _ (putC w1 (w.heap.size+1) 0 (tc (t)).toList)
  generalize putC w1 (w.heap.size+1) 0 (tc (t)).toList=X at D K ⊢
  exact bodyPost_ret (v:=tk (t)) (by simp [results,Tryz.results205,go_sem,D.cells]) rfl ⟨by rw [Hn.out],K⟩
 ·have H:=(qf9 t).1 hd
  obtain ⟨v0,v1⟩:=H.v
  have hst:=qjh t.nice
  have e1:IntKind.i64.wrap (t.v+qb7 t.nice)=t.v+qb7 t.nice:=Go.IntWalk.i64_in _ (by omega)
  have Hn:Hid (qcZ t=qci t (t.v+qb7 t.nice)):=by show _=_;simp [qcZ,hd]
  clear H hst
  obtain ⟨N,HN⟩:∃ N,Hid (qci t (t.v+qb7 t.nice)=N):=⟨_,rfl⟩
  go_wp2_with fail
  have H0:Has w w.heap.size (tc t) w1:=⟨K1.out,B0.out⟩
  have r1:∀ w',Has w w.heap.size (tc t) w'->∀ k,w'.cell? ⟨w.heap.size,k,none⟩=(tc t)[k]?:=fun w' h=>h.box.cells
  clear b1 b2 c1 c2
  refine wp_region_held_drew (S:=(fun w'=>Has w w.heap.size (tc t) w')) (by kernel_rfl) ?_ (fun hHeld => ?_)
  ·exact H0.go (Keeps.refl _).drew
  refine Plan.go [0,1,2,3,4] ?_
  iterate 5 (refine qac (by simp only [qab];rfl) (by kernel_rfl) (by exact fun _ _ _ h=>h) (by rfl) (by assumption) (fun w _=>by go_simp;try (with_reducible rfl)) ?_;try simp only [qaa])
  refine Plan.nil ?_
  refine qad 5 (by kernel_rfl) (by simp only [qab];rfl) (fun K hK => ?_)
  go_simp
  first
   | (go_at_call 217;refine (qhV _ _).mono ?_;rintro e w2 ⟨rfl,k2⟩)
   | (go_at_call 214;refine (qes t _ _).mono ?_;rintro e w3 ⟨rfl,k3⟩;rw [HN.out])
  try go_wp2_with fail
  refine hK.out _ _ ?_ (fun hHeld => ?_)
  ·first | exact Has.go (by assumption) (by assumption) | assumption
  clear hK K
  try simp only [qaa]
  refine qar 6 (v := ?_) (by simp only [qab];rfl) (by kernel_rfl) (by exact fun _ _ _ h=>h) (by rfl) (by assumption) ?_ ?_
  rotate_left
  ·(intro w _;go_simp;try (with_reducible rfl))
  try simp only [qaa]
  refine qad 7 (by kernel_rfl) (by simp only [qab];rfl) (fun K hK => ?_)
  go_simp
  first
   | (go_at_call 217;refine (qhV _ _).mono ?_;rintro e w2 ⟨rfl,k2⟩)
   | (go_at_call 214;refine (qes t _ _).mono ?_;rintro e w3 ⟨rfl,k3⟩;rw [HN.out])
  try go_wp2_with fail
  refine hK.out _ _ ?_ (fun hHeld => ?_)
  ·first | exact Has.go (by assumption) (by assumption) | assumption
  clear hK K
  try simp only [qaa]
  refine qad 8 (by kernel_rfl) (by simp only [qab];rfl) (fun K hK => ?_)
  have HB:=R.out.keeps (((Keeps.refl w1).drew.trans k2).trans k3);have HD:Hid (Blk w3 (w.heap.size+1) (tc Tsk.zero)):=HB;obtain ⟨_,q1,q2⟩:=HB
  go_simp
  try go_wp2_with fail
  refine hK.out _ _ ?_ (fun hHeld => ?_)
  ·exact Has.put (by assumption) (r:=w.heap.size+1) (by omega) (by omega) 0 (tc N).toList
  clear hK K
  try simp only [qaa]
  refine wpAnyH_done (by kernel_rfl) ?_ _
  go_wp2
  have D:=HD.out.putC (tc N).toList rfl
  have K:=Keeps.putC (b:=w.heap.size+1) (by omega) (tc N).toList 0 (K1.out.trans (((Keeps.refl w1).drew.trans k2).trans k3))
  change bodyPost _ _ _ _ _ (putC w3 (w.heap.size+1) 0 (tc N).toList)
  generalize putC w3 (w.heap.size+1) 0 (tc N).toList=X at D K ⊢
  exact bodyPost_ret (v:=tk N) (by simp [results,Tryz.results205,go_sem,D.cells]) rfl ⟨by rw [Hn.out,HN.out],K⟩
end Go.Proofs.YteagpjlgjfaclaaGreatDoor
namespace Go.Proofs.YteagpjlgjfaclaaGreatDoor
set_option maxRecDepth 100000
open Go.RowKit
variable {p:Bool}
attribute [local go_sem] Keeps.refl Keeps.alloc Keeps.drew Keeps.drewN
theorem qgN:∀ {ls:List Lk} {j:Nat} {l:Lk} (m:Lk),ls[j]?=some l->sumW (ls.set j m)+l.waits.length=sumW ls+m.waits.length
 | [],j,l,m,h=>by simp at h
 | x::r,0,l,m,h=>by
  simp at h
  subst h
  simp only [List.set_cons_zero,sumW]
  omega
 | x::r,j+1,l,m,h=>by
  have:=qgN (ls:=r) (j:=j) m (by simpa using h)
  simp only [List.set_cons_succ,sumW]
  omega
theorem qfi {ls:List Lk} {j:Nat} {l:Lk} (m:Lk) (h:ls[j]?=some l):qaj (ls.set j m)+l.waits.length=qaj ls+m.waits.length:=by
 have:=qgN m h
 unfold qaj
 rw [List.length_set]
 omega
theorem qfj {ls:List Lk} (f:Lk->Lk) (j:Nat) (hf:∀ l,(f l).waits.length <= l.waits.length+1):qaj (ls.modify j f) <= qaj ls+1:=by
 cases h:ls[j]? with
 | none =>
  have hl:ls.length <= j:=by
   rcases Nat.lt_or_ge j ls.length with h1 | h1
   ·rw [List.getElem?_eq_getElem h1] at h;cases h
   ·exact h1
  have:ls.modify j f=ls:=by
   apply List.ext_getElem?
   intro i
   rw [List.getElem?_modify]
   by_cases e:j=i
   ·subst e;rw [h];rfl
   ·simp [e]
  rw [this];omega
 | some l =>
  rw [qd5 h]
  have:=qfi (f l) h
  have:=hf l
  omega
theorem qgO (ls:List Lk) (i no:Int):qaj (askL ls i no) <= qaj ls+1:=by
 unfold askL
 split
 ·simp [qaj,sumW]
 ·split
  ·exact qfj _ _ fun l=>by simp [qcl]
  ·split
   ·exact qfj _ _ fun l=>by simp [qez]
   ·omega
theorem qk8 (ls:List Lk) (i no next:Int):qaj (qaX ls i no next) <= qaj ls+1:=by
 unfold qaX
 split
 ·simp [qaj,sumW]
 ·split
  ·exact qfj _ _ fun l=>by have:=qlx l.waits next;simp [qdI];omega
  ·omega
end Go.Proofs.YteagpjlgjfaclaaGreatDoor
namespace Go.Proofs.YteagpjlgjfaclaaGreatDoor
set_option maxRecDepth 100000
open Go.RowKit
attribute [local go_sem] Keeps.refl Keeps.alloc Keeps.drew Keeps.drewN
set_option maxHeartbeats 4000000 in
theorem qjg (t:Tsk) (cpu frm dst:Int) (w:World) :
  Calls Tryz.prog 153 #[tk t,.int .i64 cpu,.int .i64 frm,.int .i64 dst] w fun e w'=>e = .returned (tk (qbF t cpu frm dst)) /\ Keeps w w':=by
 go_enter Tryz.func153,Tryz.ntmps153
 go_wp2_with fail
 refine (qcE t _).mono ?_
 rintro e w1 ⟨rfl,k1⟩
 have B1:=((Blk.new w (tc t) 43).alloc (.cells (tc Tsk.zero) 43)).keeps k1
 have B2:=(Blk.new (w.alloc (.cells (tc t) 43)) (tc Tsk.zero) 43).keeps k1
 have K1:Hid (Keeps w w1):=(((Keeps.refl w).alloc _).alloc _).trans k1
 simp only [World.size_alloc] at B2
 have R:Hid (Blk w1 (w.heap.size+1) (tc Tsk.zero)):=B2
 have B0:Hid (Blk w1 w.heap.size (tc t)):=B1
 obtain ⟨_,b1,b2⟩:=B1
 obtain ⟨_,c1,c2⟩:=B2
 clear k1
 cases hd:qbb t
 ·have Hn:Hid (qbF t cpu frm dst=t):=by show _=_;simp [qbF,qdp,hd]
  go_wp2_with (first | (go_at_call 27;refine (qag _ _ _ _).mono ?_;rintro e w' ⟨rfl,hw'⟩;have hw2:=hw'.symm;subst hw2) | (go_at_call 56;refine (qcD _ _ _).mono ?_;rintro e w' ⟨rfl,hw'⟩;have hw2:=hw'.symm;subst hw2))
  have D:=R.out.putC (tc (t)).toList rfl
  have K:=Keeps.putC (b:=w.heap.size+1) (by omega) (tc (t)).toList 0 K1.out
  change bodyPost _ _ _ _ _ (putC w1 (w.heap.size+1) 0 (tc (t)).toList)
  generalize putC w1 (w.heap.size+1) 0 (tc (t)).toList=X at D K ⊢
  exact bodyPost_ret (v:=tk (t)) (by simp [results,Tryz.results153,go_sem,D.cells]) rfl ⟨by rw [Hn.out],K⟩
 ·skip
  cases h1:inB cpu 0 3
  ·have Hn:Hid (qbF t cpu frm dst=t):=by show _=_;simp [qbF,qdp,h1]
   go_wp2_with (first | (go_at_call 27;refine (qag _ _ _ _).mono ?_;rintro e w' ⟨rfl,hw'⟩;have hw2:=hw'.symm;subst hw2) | (go_at_call 56;refine (qcD _ _ _).mono ?_;rintro e w' ⟨rfl,hw'⟩;have hw2:=hw'.symm;subst hw2))
   have D:=R.out.putC (tc (t)).toList rfl
   have K:=Keeps.putC (b:=w.heap.size+1) (by omega) (tc (t)).toList 0 K1.out
   change bodyPost _ _ _ _ _ (putC w1 (w.heap.size+1) 0 (tc (t)).toList)
   generalize putC w1 (w.heap.size+1) 0 (tc (t)).toList=X at D K ⊢
   exact bodyPost_ret (v:=tk (t)) (by simp [results,Tryz.results153,go_sem,D.cells]) rfl ⟨by rw [Hn.out],K⟩
  ·skip
   cases h2:inB frm 0 100000000
   ·have Hn:Hid (qbF t cpu frm dst=t):=by show _=_;simp [qbF,qdp,h2]
    go_wp2_with (first | (go_at_call 27;refine (qag _ _ _ _).mono ?_;rintro e w' ⟨rfl,hw'⟩;have hw2:=hw'.symm;subst hw2) | (go_at_call 56;refine (qcD _ _ _).mono ?_;rintro e w' ⟨rfl,hw'⟩;have hw2:=hw'.symm;subst hw2))
    have D:=R.out.putC (tc (t)).toList rfl
    have K:=Keeps.putC (b:=w.heap.size+1) (by omega) (tc (t)).toList 0 K1.out
    change bodyPost _ _ _ _ _ (putC w1 (w.heap.size+1) 0 (tc (t)).toList)
    generalize putC w1 (w.heap.size+1) 0 (tc (t)).toList=X at D K ⊢
    exact bodyPost_ret (v:=tk (t)) (by simp [results,Tryz.results153,go_sem,D.cells]) rfl ⟨by rw [Hn.out],K⟩
   ·skip
    cases h3:inB dst 0 100000000
    ·have Hn:Hid (qbF t cpu frm dst=t):=by show _=_;simp [qbF,qdp,h3]
     go_wp2_with (first | (go_at_call 27;refine (qag _ _ _ _).mono ?_;rintro e w' ⟨rfl,hw'⟩;have hw2:=hw'.symm;subst hw2) | (go_at_call 56;refine (qcD _ _ _).mono ?_;rintro e w' ⟨rfl,hw'⟩;have hw2:=hw'.symm;subst hw2))
     have D:=R.out.putC (tc (t)).toList rfl
     have K:=Keeps.putC (b:=w.heap.size+1) (by omega) (tc (t)).toList 0 K1.out
     change bodyPost _ _ _ _ _ (putC w1 (w.heap.size+1) 0 (tc (t)).toList)
     generalize putC w1 (w.heap.size+1) 0 (tc (t)).toList=X at D K ⊢
     exact bodyPost_ret (v:=tk (t)) (by simp [results,Tryz.results153,go_sem,D.cells]) rfl ⟨by rw [Hn.out],K⟩
    ·skip
     have H:=(qf9 t).1 hd
     obtain ⟨v0,v1⟩:=H.v
     obtain ⟨f0,f1⟩:=qas.1 h2
     obtain ⟨d0,d1⟩:=qas.1 h3
     have e1:IntKind.i64.wrap (t.v - frm)=t.v - frm:=Go.IntWalk.i64_in _ (by omega)
     have e2:IntKind.i64.wrap (dst+max (t.v - frm) 0)=dst+max (t.v - frm) 0:=Go.IntWalk.i64_in _ (by omega)
     clear H
     cases h4:decide (100000000 < dst+max (t.v - frm) 0)
     ·have Hn:Hid (qbF t cpu frm dst={ t with cpu:=cpu,v:=dst+max (t.v - frm) 0 }):=by show _=_;simp only [qbF,qdp,hd,h1,h2,h3,h4,Bool.and_true,Bool.not_false,if_true]
      go_wp2_with (first | (go_at_call 27;refine (qag _ _ _ _).mono ?_;rintro e w' ⟨rfl,hw'⟩;have hw2:=hw'.symm;subst hw2) | (go_at_call 56;refine (qcD _ _ _).mono ?_;rintro e w' ⟨rfl,hw'⟩;have hw2:=hw'.symm;subst hw2))
      have D:=((R.out.far (c:=w.heap.size) (o:=2) (by omega) (.int .i64 cpu)).far (c:=w.heap.size) (o:=13) (by omega) (.int .i64 (dst+max (t.v - frm) 0))).putC (tc ({ t with cpu:=cpu,v:=dst+max (t.v - frm) 0 })).toList rfl
      have K:=Keeps.putC (b:=w.heap.size+1) (by omega) (tc ({ t with cpu:=cpu,v:=dst+max (t.v - frm) 0 })).toList 0 ((K1.out.setCell (p:=⟨w.heap.size,2,none⟩) (Nat.le_refl _) (.int .i64 cpu)).setCell (p:=⟨w.heap.size,13,none⟩) (Nat.le_refl _) (.int .i64 (dst+max (t.v - frm) 0)))
      change bodyPost _ _ _ _ _ (putC ((w1.setCell ⟨w.heap.size,2,none⟩ (.int .i64 cpu)).setCell ⟨w.heap.size,13,none⟩ (.int .i64 (dst+max (t.v - frm) 0))) (w.heap.size+1) 0 (tc ({ t with cpu:=cpu,v:=dst+max (t.v - frm) 0 })).toList)
      generalize putC ((w1.setCell ⟨w.heap.size,2,none⟩ (.int .i64 cpu)).setCell ⟨w.heap.size,13,none⟩ (.int .i64 (dst+max (t.v - frm) 0))) (w.heap.size+1) 0 (tc ({ t with cpu:=cpu,v:=dst+max (t.v - frm) 0 })).toList=X at D K ⊢
      exact bodyPost_ret (v:=tk ({ t with cpu:=cpu,v:=dst+max (t.v - frm) 0 })) (by simp [results,Tryz.results153,go_sem,D.cells]) rfl ⟨by rw [Hn.out],K⟩
     ·have Hn:Hid (qbF t cpu frm dst=t):=by show _=_;simp only [qbF,qdp,h4,Bool.and_false,Bool.not_true,Bool.false_eq_true,if_false]
      go_wp2_with (first | (go_at_call 27;refine (qag _ _ _ _).mono ?_;rintro e w' ⟨rfl,hw'⟩;have hw2:=hw'.symm;subst hw2) | (go_at_call 56;refine (qcD _ _ _).mono ?_;rintro e w' ⟨rfl,hw'⟩;have hw2:=hw'.symm;subst hw2))
      have D:=R.out.putC (tc (t)).toList rfl
      have K:=Keeps.putC (b:=w.heap.size+1) (by omega) (tc (t)).toList 0 K1.out
      change bodyPost _ _ _ _ _ (putC w1 (w.heap.size+1) 0 (tc (t)).toList)
      generalize putC w1 (w.heap.size+1) 0 (tc (t)).toList=X at D K ⊢
      exact bodyPost_ret (v:=tk (t)) (by simp [results,Tryz.results153,go_sem,D.cells]) rfl ⟨by rw [Hn.out],K⟩
end Go.Proofs.YteagpjlgjfaclaaGreatDoor
namespace Go.Proofs.YteagpjlgjfaclaaGreatDoor
set_option maxRecDepth 100000
open Go.RowKit
def Row (w:World) (g:Nat) (t:TypeId) (C:Array Value):Prop:=w.heap[g]?=some (.cells C t (0,0))
theorem Row.lt {w:World} {g:Nat} {t:TypeId} {C:Array Value} (h:Row w g t C):g < w.heap.size:=by
 rcases Nat.lt_or_ge g w.heap.size with hlt | hge
 ·exact hlt
 ·unfold Row at h;rw [Array.getElem?_eq_none hge] at h;cases h
theorem Row.keeps {w w':World} {g:Nat} {t:TypeId} {C:Array Value} (h:Row w g t C) (k:Keeps w w'):Row w' g t C:=(Below.block k g h.lt).trans h
theorem Row.new (w:World) (C:Array Value) (t:TypeId):Row (w.alloc (.cells C t)) w.heap.size t C:=by
 show (w.heap.push (.cells C t))[w.heap.size]?=_
 simp
theorem Row.cell {w:World} {g:Nat} {t:TypeId} {C:Array Value} (h:Row w g t C) (i:Nat):w.cell? ⟨g,i,none⟩=C[i]?:=by
 have h':w.heap[g]?=some (.cells C t (0,0)):=h
 by_cases hi:i < C.size
 ·simp [World.cell?,h',hi]
 ·simp [World.cell?,h',hi]
theorem Row.frozen {w:World} {g:Nat} {t:TypeId} {C:Array Value} (h:Row w g t C) (i:Nat):w.frozen? ⟨g,i,none⟩=false:=by
 have h':w.heap[g]?=some (.cells C t (0,0)):=h
 simp [World.frozen?,h']
theorem Row.setRow {w:World} {g:Nat} {t:TypeId} {C:Array Value} (h:Row w g t C) (D:Array Value):Row (w.setRow g D) g t D:=setRow_heap w g C D t _ h
theorem Keeps.setRow {w0 w:World} {g:Nat} (h:Keeps w0 w) (hg:w0.heap.size <= g) (D:Array Value):Keeps w0 (w.setRow g D):=below_setRow h hg D
theorem qiz (L:List Value) (C:Array Value) (k:Nat) (h:k+L.length <= C.size):(C.toList.take k++L++C.toList.drop (k+L.length)).toArray=setL C k L:=by
 apply Array.ext_getElem?
 intro i
 rw [qdP _ _ _ _ h]
 simp only [List.getElem?_toArray,List.append_assoc]
 by_cases h1:i < k
 ·rw [if_neg (by omega),List.getElem?_append_left (by simp;omega)]
  simp [h1]
 ·rw [List.getElem?_append_right (by simp;omega)]
  have e:min k C.size=k:=by omega
  by_cases h2:i < k+L.length
  ·rw [if_pos (by omega),List.getElem?_append_left (by simp;omega)]
   simp [e]
  ·rw [if_neg (by omega),List.getElem?_append_right (by simp;omega)]
   simp only [List.length_take,Array.length_toList,e,List.getElem?_drop,Array.getElem?_toList]
   congr 1
   omega
theorem Row.putC {g:Nat} {t:TypeId}:∀ (L:List Value) {w:World} {C:Array Value} (k:Nat),Row w g t C->Row (putC w g k L) g t (setL C k L)
 | [],_,_,_,h=>h
 | v::r,w,C,k,h=>by
  have e:w.setCell ⟨g,k,none⟩ v=w.setRow g (C.setIfInBounds k v):=setCell_eq_setRow w g k C t (0,0) v h
  exact Row.putC r (k+1) (by rw [e];exact h.setRow _)
variable {P:Program}
theorem qiA (w:World) (dT sT ty elem:TypeId) (sz g o dLen dCap:Nat) (a:Addr) (sLen sCap:Nat) (C:Array Value) (t:TypeId) (n:Nat) (cs:List Value)
  (hu:P.underlying dT=some (.slice elem)) (hs:(P.info? elem).map (·.size)=some sz)
  (hg:Row w g t C) (hm:n=Nat.min sLen dLen) (hn:cs.length=n*sz)
  (hsrc:∀ j v,cs[j]?=some v->w.cell? (a.add j)=some v) (hfit:o+cs.length <= C.size) (h1:∀ v∈cs,v.oneCell'=true) :
  (Builtin.copy_ #[dT,sT] ty #[.slice (some ⟨g,o,none⟩) dLen dCap,.slice (some a) sLen sCap]).run P w = .ok (goInt n) (w.setRow g (setL C o cs)):=by
 have hl:=run_loadCells_list (P:=P) w a cs hsrc
 have hst:=run_storeCells_at P g o t cs 0 C w hg (by simpa using hfit) h1
 simp only [Nat.add_zero] at hst
 rw [qiz cs C o hfit] at hst
 cases hq:P.info? elem with
 | none=>simp [hq] at hs
 | some i =>
  have hi:i.size=sz:=by simpa [hq] using hs
  simp [Builtin.copy_,run_underlying hu,Builtin.lenOf,Builtin.firstCells,sizeOf,typeInfo,hq,hi,<- hm,<- hn,hl,hst]
theorem qeV (w:World) (dT sT ty elem:TypeId) (d a:Option Addr) (sz dLen dCap sLen sCap:Nat) (hu:P.underlying dT=some (.slice elem)) (hs:(P.info? elem).map (·.size)=some sz) (hn:Nat.min sLen dLen=0) :
  (Builtin.copy_ #[dT,sT] ty #[.slice d dLen dCap,.slice a sLen sCap]).run P w = .ok (goInt 0) w:=by
 cases hq:P.info? elem with
 | none=>simp [hq] at hs
 | some i =>
  have hl:∀ (x:Addr),(loadCells x 0).run P w = .ok #[] w:=fun x=>by simpa using run_loadCells_list (P:=P) w x [] (by simp)
  cases d <;> cases a <;> simp [Builtin.copy_,run_underlying hu,Builtin.lenOf,Builtin.firstCells,sizeOf,typeInfo,hq,hn,storeCells,hl]
theorem qdo {α:Type} (c:α->Array Value) (sz:Nat) (hc:∀ x,(c x).size=sz) (h0:0 < sz) (h1:∀ x,∀ u∈(c x).toList,u.oneCell'=true)
  (w:World) (dT sT ty elem:TypeId) (dp sp:Option Addr) (dLen dCap sLen sCap:Nat) (C:Array Value) (t:TypeId) (g off:Nat) (ys:List α)
  (hu:P.underlying dT=some (.slice elem)) (hs:(P.info? elem).map (·.size)=some sz) (hg:Row w g t C) (hn:ys.length=Nat.min sLen dLen)
  (hd:0 < ys.length->dp=some ⟨g,off,none⟩) (hl:Lies sz c w sp ys) (hfit:off+ys.length*sz <= C.size) :
  (Builtin.copy_ #[dT,sT] ty #[.slice dp dLen dCap,.slice sp sLen sCap]).run P w = .ok (goInt ys.length) (w.setRow g (setL C off (qae c ys))):=by
 rcases hl with rfl | ⟨b,o,rfl,hb,hl⟩
 ·have e:setL C off (qae c ([]:List α))=C:=rfl
  rw [e,setRow_self w g C t (0,0) hg]
  exact qeV w dT sT ty elem dp sp sz dLen dCap sLen sCap hu hs (by simpa using hn.symm)
 ·by_cases hz:ys.length=0
  ·obtain rfl:ys=[]:=List.eq_nil_of_length_eq_zero hz
   have e:setL C off (qae c ([]:List α))=C:=rfl
   rw [e,setRow_self w g C t (0,0) hg]
   exact qeV w dT sT ty elem dp _ sz dLen dCap sLen sCap hu hs (by simpa using hn.symm)
  ·obtain rfl:=hd (by omega)
   refine qiA w dT sT ty elem sz g off dLen dCap ⟨b,o,none⟩ sLen sCap C t ys.length (qae c ys) hu hs hg hn (qa7 hc ys) ?_ (by rw [qa7 hc ys];exact hfit) (qec h1 ys)
   intro j u hj
   have hjl:j < ys.length*sz:=by
    have:=qa7 hc ys
    rcases Nat.lt_or_ge j (ys.length*sz) with h | h
    ·exact h
    ·rw [List.getElem?_eq_none (by omega)] at hj;cases hj
   have hq:j / sz < ys.length:=Nat.div_lt_of_lt_mul (by rw [Nat.mul_comm];exact hjl)
   have hm:j % sz < sz:=Nat.mod_lt _ h0
   have hjj:j / sz*sz+j % sz=j:=by rw [Nat.mul_comm];exact Nat.div_add_mod j sz
   have h2:=qc9 hc ys (j / sz) ys[j / sz] (List.getElem?_eq_getElem hq) (j % sz) hm
   rw [hjj,hj] at h2
   have h3:=hl (j / sz) ys[j / sz] (List.getElem?_eq_getElem hq) (j % sz) hm
   have ea:(⟨b,o,none⟩:Addr).add j=⟨b,o+j,none⟩:=by unfold Addr.add;by_cases h:j=0 <;> simp [h]
   rw [ea,<- hjj,<- Nat.add_assoc,h3,<- h2]
theorem Row.own {α:Type} {c:α->Array Value} {sz:Nat} (hc:∀ x,(c x).size=sz) {w:World} {g:Nat} {t:TypeId} {xs:List α} (h:Row w g t (qae c xs).toArray) {base:Nat} (hb:base <= g) (hm:xs.length <= maxLen) :
  Own t sz c w base (.slice (some ⟨g,0,none⟩) xs.length xs.length) xs :=
 ⟨qa7 hc xs,.inr ⟨g,xs.length,_,rfl,hb,h,Nat.le_refl _,hm,by simp [qa7 hc xs],by rw [<- qa7 hc xs];simp⟩⟩
theorem qiB (Z:Array Value) (A B D:List Value) (h:Z.size=A.length+B.length+D.length):setL (setL (setL Z 0 A) A.length B) (A.length+B.length) D=(A++(B++D)).toArray:=by
 apply Array.ext_getElem?
 intro i
 rw [qdP _ _ _ _ (by rw [qdO,qdO];omega),qdP _ _ _ _ (by rw [qdO];omega),qdP _ _ _ _ (by omega)]
 simp only [List.getElem?_toArray]
 by_cases h1:i < A.length
 ·rw [if_neg (by omega),if_neg (by omega),if_pos (by omega),List.getElem?_append_left h1];simp
 ·rw [List.getElem?_append_right (by omega)]
  by_cases h2:i < A.length+B.length
  ·rw [if_neg (by omega),if_pos (by omega),List.getElem?_append_left (by omega)]
  ·rw [List.getElem?_append_right (by omega)]
   by_cases h3:i < A.length+B.length+D.length
   ·rw [if_pos (by omega)];congr 1;omega
   ·rw [if_neg (by omega),if_neg (by omega),if_neg (by omega),Array.getElem?_eq_none (by omega),List.getElem?_eq_none (by omega)]
end Go.Proofs.YteagpjlgjfaclaaGreatDoor
namespace Go.Proofs.YteagpjlgjfaclaaGreatDoor
set_option maxRecDepth 100000
open Go.RowKit
attribute [local go_sem] Keeps.refl Keeps.alloc Keeps.drew Keeps.drewN
structure DK (w wr:World) (g:Nat) (v:Value) (ls:List Lk):Prop where
 mine:∃ vs,Mine wr w.heap.size wr.heap.size v vs ls
 cur:Cur wr g
 kb:KeepsBut g w wr
theorem DK.but {w wr wr':World} {g:Nat} {v:Value} {ls:List Lk} (h:DK w wr g v ls) (hg:g < w.heap.size) (k:KeepsBut g wr wr') (hc:Cur wr' g):DK w wr' g v ls:=by
 obtain ⟨vs,M⟩:=h.mine
 exact ⟨⟨vs,(M.same fun b h1 _ h3=>k.block b h3 (by omega)).widen (Nat.le_refl _) k.size⟩,hc,h.kb.trans k⟩
theorem qgL (n:Nat):qaj (List.replicate n (⟨0,[]⟩:Lk))=n:=by
 have:sumW (List.replicate n (⟨0,[]⟩:Lk))=0:=by
  induction n with
  | zero=>rfl
  | succ n ih=>rw [List.replicate_succ];simp only [sumW,ih];rfl
 unfold qaj
 rw [this]
 simp
theorem qgM (n:Nat) (hn:n <= 1048576) (z:Int) (hz:z=(n:Int)):∀ w:World,(Instr.makeSlice 25 (.int .i64 z) (.int .i64 z)).run Tryz.prog w = .ok (.slice (some ⟨w.heap.size,0,none⟩) n n) (w.alloc (.cells (madeCells #[.int .i64 0,.slice none 0 0] (n*2)) 37)):=by
 subst hz
 have hmk:=qeE (P:=Tryz.prog) 25 37 (.agg #[.int .i64 0,.slice none 0 0]) 2 32 Tryz.underlying25 (by kernel_rfl) n (by omega) (by omega)
 simp only [Value.cells] at hmk
 exact hmk
theorem DK.made {w wr:World} {g:Nat} (hc:Cur wr g) (k:KeepsBut g w wr) (n:Nat) (hn:n <= 1048576):DK w (wr.alloc (.cells (madeCells #[.int .i64 0,.slice none 0 0] (n*2)) 37)) g (.slice (some ⟨wr.heap.size,0,none⟩) n n) (List.replicate n ⟨0,[]⟩) :=
 ⟨⟨_,(Mine.zero wr n (by unfold maxLen;omega)).widen k.size (by simp)⟩,hc.keeps ((Keeps.refl _).alloc _),k.alloc _⟩
set_option maxHeartbeats 8000000 in
theorem qk5 (g:Nat) (w:World) (hc:Cur w g) :
  Calls Tryz.prog 101 #[.pointer (some ⟨g,0,none⟩)] w fun e w'=>∃ (v:Value) (ls:List Lk),e = .returned v /\ DK w w' g v ls /\ 1 <= ls.length /\ ls.length <= 4 /\ qaj ls <= 16:=by
 have hgl:=hc.lt
 go_enter Tryz.func101,Tryz.ntmps101
 go_wp2_with fail
 refine (qam g _ _ hc (by omega) (by omega)).mono ?_
 rintro e w1 ⟨m,rfl,hm0,hm1,hc1,k1⟩
 obtain ⟨n,Hn⟩:∃ n:Nat,Hid (1+m=(n:Int)):=⟨(1+m).toNat,by show _=_;omega⟩
 have hn1:1 <= n:=by have:=Hn.out;omega
 have hn4:n <= 4:=by have:=Hn.out;omega
 have hmk:=qgM n (by omega) (1+m) Hn.out
 have D0:Hid (DK w (w1.alloc (.cells (madeCells #[.int .i64 0,.slice none 0 0] (n*2)) 37)) g (.slice (some ⟨w1.heap.size,0,none⟩) n n) (List.replicate n ⟨0,[]⟩)):=DK.made hc1 k1 n (by omega)
 clear k1 hc hc1
 go_wp2_with fail
 clear hmk
 generalize w1.alloc (.cells (madeCells #[.int .i64 0,.slice none 0 0] (n*2)) 37)=W at *
 generalize hv0:Value.slice (some ⟨w1.heap.size,0,none⟩) n n=v0 at *
 clear hv0
 refine (qam g _ _ D0.out.cur (by omega) (by omega)).mono ?_
 rintro e w2 ⟨q,rfl,hq0,hq1,hc2,k2⟩
 have D2:Hid (DK w w2 g v0 (List.replicate n ⟨0,[]⟩)):=D0.out.but hgl k2 hc2
 clear D0 k2 hc2
 obtain ⟨r,rfl⟩:=Int.eq_ofNat_of_zero_le hq0
 have hr:r < 12:=by omega
 go_wp2
 go_loopw [3,5] (fun v i wr=>∃ (k:Nat) (ls:List Lk),k <= r /\ i = .int .i64 k /\ Hid (DK w wr g v ls) /\ Hid (Right ls) /\ Hid (ls.length=n) /\ Hid (qaj ls <= n+k)) (fun _ i _=>r - (intOf i).toNat)
 case atStart=>exact ⟨0,_,Nat.zero_le _,rfl,D2,qlf (by omega),by show _=_;simp,by show _ <= _;rw [qgL];omega⟩
 case round =>
  obtain ⟨k,ls,hk,rfl,D,R,hl,hsz⟩:=hrel
  clear D2
  by_cases hlt:k < r
  ·have hlt':(k:Int) < (r:Int):=by omega
   obtain ⟨vs,M⟩:=D.out.mine
   obtain ⟨a,cap,rfl,-,-,-⟩:=M.args
   clear M vs
   rw [hl.out] at D ⊢
   go_wp2_with fail
   refine (qam g _ _ D.out.cur (by omega) (by omega)).mono ?_
   rintro e w3 ⟨x,rfl,hx0,hx1,hc3,k3⟩
   have D3:Hid (DK w w3 g (.slice a n cap) ls):=D.out.but hgl k3 hc3
   clear D hc3 k3
   go_wp2_with fail
   refine (qam g _ _ D3.out.cur (by omega) (by omega)).mono ?_
   rintro e w4 ⟨y,rfl,hy0,hy1,hc4,k4⟩
   have D4:Hid (DK w w4 g (.slice a n cap) ls):=D3.out.but hgl k4 hc4
   clear D3 hc4 k4
   have L4:Hid (Lks true w4 a ls):=by
    obtain ⟨vs,M⟩:=D4.out.mine
    obtain ⟨a',cap',e,L,-,-⟩:=M.args
    simp only [Value.slice.injEq] at e
    obtain ⟨rfl,-,-⟩:=e
    exact L
   go_wp2_with fail
   have SA:=qgK a cap ls x (1+y) w4 (by have:=hsz.out;omega) L4.out
   rw [hl.out] at SA
   refine SA.mono ?_
   rintro e w5 ⟨v5,vs5,rfl,M5,k5⟩
   have hR:=qle R.out x (1+y)
   have D5:Hid (DK w w5 g v5 (askL ls x (1+y))):=⟨⟨vs5,M5.widen (D4.out.kb.size) (Nat.le_refl _)⟩,D4.out.cur.keeps k5,D4.out.kb.trans (.of k5)⟩
   have hs5:Hid (qaj (askL ls x (1+y)) <= n+(k+1)):=by show _ <= _;have:=qgO ls x (1+y);have:=hsz.out;omega
   have hl5:Hid ((askL ls x (1+y)).length=n):=by show _=_;rw [hR.2];exact hl.out
   have R5:Hid (Right (askL ls x (1+y))):=hR.1
   clear SA M5 k5 hR D4 L4
   go_wp2
   exact ⟨⟨k+1,_,by omega,by go_num,D5,R5,hl5,hs5⟩,by simp only [intOf];omega⟩
  ·go_wp2
   go_ret
   exact ⟨_,ls,rfl,D.out,by rw [hl.out];exact hn1,by rw [hl.out];exact hn4,by have:=hsz.out;omega⟩
end Go.Proofs.YteagpjlgjfaclaaGreatDoor
namespace Go.Proofs.YteagpjlgjfaclaaGreatDoor
set_option maxRecDepth 100000
open Go.RowKit
structure Gh where
 cpu:Int
 q:Int
 p:Int
 til:Int
structure Tn where
 cpu:Int
 ctx:Int
 exe:Int
structure Sy where
 now:Int
 cpus:Int
 tasks:List Tsk
 locks:List Lk
 ghosts:List Gh
 floors:List Int
 seq:Int
 missed:Int
 trace:List Tn
def Gh.zero:Gh:=⟨0,0,0,0⟩
def Tn.zero:Tn:=⟨0,0,0⟩
def Sy.zero:Sy:=⟨0,0,[],[],[],[],0,0,[]⟩
def qce (ts:List Tsk) (cpu:Int) (x:Int):Bool:=qak ts x&&(tAt ts x).cpu==cpu
def qbM (ts:List Tsk) (l:Lk):Bool:=l.owner==0||(qak ts l.owner&&l.waits.all (qce ts (tAt ts l.owner).cpu))
def qbr (s:Sy):Bool:=s.locks.length==5&&(qax s.locks&&s.locks.all (qbM s.tasks))
def qaI (cpu:Int) (t:Tsk):Bool:=t.cpu==cpu&&t.cls==1
def qbd (t:Tsk):Int × Int:=(t.q,t.p)
def ghOn (cpu:Int) (g:Gh):Bool:=g.cpu==cpu
def qbw (g:Gh):Int × Int:=(g.q,g.p)
def qan (s:Sy) (cpu:Int):List (Int × Int):=(s.tasks.filter (qaI cpu)).map qbd++(s.ghosts.filter (ghOn cpu)).map qbw
def ghB (cpus:Int) (g:Gh):Bool:=inB g.cpu 0 (cpus - 1)&&(okB g.q g.p&&inB g.til 0 100040)
def qbX (s:Sy):Bool:=s.ghosts.all (ghB s.cpus)&&decide (s.ghosts.length <= 12)
def qaL (xs:List (Int × Int)):Bool:=qbq xs&&decide ((Plain.sumI xs).1 <= (Plain.sumI xs).2)
def qcf (s:Sy):Bool:=inB s.now 0 100000&&(inB s.cpus 1 4&&(qav s.tasks&&(qbr s&&(qbX s&&((s.floors.length:Int)==s.cpus&&(inB s.seq 0 1000000&&(inB s.missed 0 100000&&decide (s.trace.length <= 400))))))))
def qdf (s:Sy) (cpu:Int):Int:=if inB cpu 0 ((s.floors.length:Int) - 1) then s.floors.getD cpu.toNat 0 else 0
def cpuB (s:Sy) (cpu:Nat):Bool:=inB (s.floors.getD cpu 0) 0 100000000&&qaL (qan s cpu)
def sysB (s:Sy):Bool:=qcf s&&(s.tasks.all (fun t=>decide (t.cpu < s.cpus))&&(List.range s.cpus.toNat).all (cpuB s))
def newS (cpus:Int):Sy:=if inB cpus 1 4 then { Sy.zero with cpus:=cpus,locks:=List.replicate 5 ⟨0,[]⟩,floors:=List.replicate cpus.toNat 0 } else Sy.zero
def qaD (s:Sy) (i no:Int):Bool:=inB i 0 ((s.locks.length:Int) - 1)&&(qak s.tasks no&&(qaE s.locks i.toNat==0||(qak s.tasks (qaE s.locks i.toNat)&&(tAt s.tasks (qaE s.locks i.toNat)).cpu==(tAt s.tasks no).cpu)))
end Go.Proofs.YteagpjlgjfaclaaGreatDoor
namespace Go.Proofs.YteagpjlgjfaclaaGreatDoor
set_option maxRecDepth 100000
open Go.RowKit
attribute [local go_sem] Keeps.refl Keeps.alloc Keeps.drew Keeps.drewN
abbrev ghc (g:Gh):Array Value:=#[.int .i64 g.cpu,.int .i64 g.q,.int .i64 g.p,.int .i64 g.til]
abbrev tnc (t:Tn):Array Value:=#[.int .i64 t.cpu,.int .i64 t.ctx,.int .i64 t.exe]
theorem qb5 (g:Gh):(ghc g).size=4:=rfl
theorem qbO (t:Tn):(tnc t).size=3:=rfl
theorem qel (g:Gh):∀ u∈(ghc g).toList,u.oneCell'=true:=by
 intro u hu
 simp at hu
 rcases hu with rfl | rfl | rfl | rfl <;> rfl
theorem qdT (t:Tn):∀ u∈(tnc t).toList,u.oneCell'=true:=by
 intro u hu
 simp at hu
 rcases hu with rfl | rfl | rfl <;> rfl
abbrev Gs (w:World) (a:Option Addr) (gs:List Gh):Prop:=Lies 4 ghc w a gs
abbrev Rs (w:World) (a:Option Addr) (rs:List Tn):Prop:=Lies 3 tnc w a rs
theorem qmf {α:Type} {c:α->Array Value} {sz:Nat} (hc:∀ x,(c x).size=sz) (hsz:0 < sz) (z:α) (n:Nat):(madeCells (c z) (n*sz)).toList=qae c (List.replicate n z):=by
 apply List.ext_getElem?
 intro j
 by_cases hj:j < n*sz
 ·have hq:j / sz < n:=Nat.div_lt_of_lt_mul (by rw [Nat.mul_comm];exact hj)
  have hm:j % sz < sz:=Nat.mod_lt _ hsz
  have hjj:j / sz*sz+j % sz=j:=by rw [Nat.mul_comm];exact Nat.div_add_mod j sz
  have h:=qc9 hc (List.replicate n z) (j / sz) z (by simp [hq]) (j % sz) hm
  rw [hjj] at h
  rw [h]
  simp only [madeCells,Array.getElem?_toList,Array.getElem?_map,Array.getElem?_range,hj,if_true,Option.map_some,hc]
  rw [Array.getElem?_eq_getElem (by rw [hc];exact hm)]
  simp [hc,hm]
 ·rw [List.getElem?_eq_none (by simpa [madeCells] using hj),List.getElem?_eq_none]
  have:=qa7 hc (List.replicate n z)
  simp at this
  omega
theorem Own.zeros {α:Type} {e:TypeId} {c:α->Array Value} {sz:Nat} (hc:∀ x,(c x).size=sz) (hsz:0 < sz) (z:α) (w:World) (n:Nat) (hn:n <= maxLen) :
  Own e sz c (w.alloc (.cells (madeCells (c z) (n*sz)) e)) w.heap.size (.slice (Option.some ⟨w.heap.size,0,none⟩) n n) (List.replicate n z):=by
 have h:=World.ownsRow_lit (e:=e) (size:=sz) (base:=w.heap.size) w (madeCells (c z) (n*sz)) n (Nat.le_refl _) hn (size_madeCells _ _)
 rw [qmf hc hsz] at h
 unfold Own
 rw [List.length_replicate]
 exact h
end Go.Proofs.YteagpjlgjfaclaaGreatDoor
