/-
  Fair shares over lists: contracts of the model's functions.
  Fair shares: a contract of the model's function.
  The program's own test whether a number lies between two.
  Locks: who waits where, as a map; what is right of them by
  Rows of locks are marked, and looked at again.
  The walks of the exact laws of chapter 7, over contracts of
  In a list of tasks each is found at its place.
  Deadlines: the contract of one of the model's functions.
  The walks of the exact laws over lists of tasks, over contr
  The walks of the exact laws over one task, over contracts o
  Deadlines: the contract of one of the model's functions.
  An element of a row of one's own is written over.
  Fair shares: a contract of the model's function.
  The walks of the exact laws over ChainOf, LockAsk and LockF
  Fair shares: a contract of the model's function.
  The walks of the exact laws of chapter 4, over contracts of
  How much is left of what may be asked, once some locks are
  The same as Late, where operations that look at no memory n
  The system, as a plain record, and what chapter 9 asks of i
  Rows of ghosts and of turns: the laws' own helpers.
  Ticks and calls, as plain functions.
-/
import Derived.Test.YteagpjlgjfaclaaGreatDoorFairSpec
import Derived.Test.YteagpjlgjfaclaaGreatDoorTaskList
import Derived.Test.YteagpjlgjfaclaaGreatDoorPlain1
import Derived.Test.YteagpjlgjfaclaaGreatDoorLockSpec2
import Derived.Test.YteagpjlgjfaclaaGreatDoorLockCopy
import Derived.Test.YteagpjlgjfaclaaGreatDoorLockAsk
import Derived.Test.YteagpjlgjfaclaaGreatDoorTaskPut
import Derived.Test.YteagpjlgjfaclaaGreatDoorDueSpec
import Derived.Test.YteagpjlgjfaclaaGreatDoorTaskNew
import Derived.Test.YteagpjlgjfaclaaGreatDoorCur
import Derived.Test.YteagpjlgjfaclaaGreatDoorSumSpec
import Derived.Deep.RegionHeld3
import Derived.Test.YteagpjlgjfaclaaGreatDoorPickPure
import Derived.Test.YteagpjlgjfaclaaGreatDoorSum
import Derived.Test.YteagpjlgjfaclaaGreatDoorFixPure
namespace Go.Proofs.YteagpjlgjfaclaaGreatDoor
set_option maxRecDepth 100000
open Go.RowKit
section
attribute [local go_sem] aa.refl aa.alloc aa.drew aa.drewN
theorem DT {α β:Type} (f:β->α->β) (a:β) {ts:List α} {k:Nat} {t:α} (h:ts[k]?=some t):(ts.take (k+1)).foldl f a=f ((ts.take k).foldl f a) t:=by
 have hk:k < ts.length:=by
  rcases Nat.lt_or_ge k ts.length with h' | h'
  ·exact h'
  ·simp [List.getElem?_eq_none h'] at h
 rw [List.getElem?_eq_getElem hk] at h
 rw [List.take_succ_eq_append_getElem hk,List.foldl_append]
 simp only [Option.some.injEq] at h
 rw [h]
 rfl
theorem DU {α β:Type} (f:β->α->β) (a:β) {ts:List α} {k:Nat} (h:ts.length <= k):(ts.take k).foldl f a=ts.foldl f a:=by rw [List.take_of_length_le h]
set_option maxHeartbeats 2000000 in
theorem wQ (a:Option Addr) (cap:Nat) (ts:List ar) (floor:Int) (w:World) (hl:ts.length <= maxLen) (hs:Ts w a ts) :
  Calls Tryz.prog 178 #[.slice a ts.length cap,.int .i64 floor] w fun e w'=>e = .returned (.int .i64 (lV ts floor)) /\ aa w w':=by
 unfold maxLen at hl
 generalize hn:ts.length=n at hl
 have Hn:Hid (ts.length=n):=hn
 clear hn
 go_enter Tryz.func178,Tryz.ntmps178
 go_wp2
 go_loopw [5,6] (fun l i wr=>∃ k:Nat,k <= n /\ i = .int .i64 k /\ l = .int .i64 ((ts.take k).foldl gP (-1)) /\ aa w wr) (fun _ i _=>n - (intOf i).toNat)
 case atStart=>exact ⟨0,Nat.zero_le _,rfl,rfl,aa.refl _⟩
 case round =>
  obtain ⟨k,hk,rfl,rfl,hK⟩:=hrel
  by_cases hlt:k < n
  ·obtain ⟨t,ht⟩:=iT (xs:=ts) (k:=k) (by rw [Hn.out];exact hlt)
   obtain ⟨b,off,rfl,r0,r1⟩:=hs.at ht (by omega)
   have hlt':(k:Int) < (n:Int):=by omega
   have Ht:Hid ((ts.take (k+1)).foldl gP (-1)=gP ((ts.take k).foldl gP (-1)) t):=DT _ _ ht
   clear hs ht
   generalize (ts.take k).foldl gP (-1)=L at *
   cases hf:gf t
   ·have HL:Hid (gP L t=L):=by show _=_;simp [gP,hf]
    go_wp2_with (go_at_call 184;refine (lA t _).mono ?_;rintro e w1 ⟨rfl,k1⟩;have K1:=hK.trans k1;rw [hf])
    exact ⟨⟨k+1,by omega,by go_num,by rw [Ht.out,HL.out],K1⟩,by simp only [intOf];omega⟩
   ·cases h1:decide (L < 0)
    ·cases h2:decide (t.v < L)
     ·have HL:Hid (gP L t=L):=by show _=_;simp only [gP,hf,h1,h2,Bool.or_false,Bool.and_false,Bool.false_eq_true,if_false]
      go_wp2_with (go_at_call 184;refine (lA t _).mono ?_;rintro e w1 ⟨rfl,k1⟩;have K1:=hK.trans k1;rw [hf])
      exact ⟨⟨k+1,by omega,by go_num,by rw [Ht.out,HL.out],K1⟩,by simp only [intOf];omega⟩
     ·have HL:Hid (gP L t=t.v):=by show _=_;simp only [gP,hf,h2,Bool.or_true,Bool.and_true,if_true]
      go_wp2_with (go_at_call 184;refine (lA t _).mono ?_;rintro e w1 ⟨rfl,k1⟩;have K1:=hK.trans k1;rw [hf])
      exact ⟨⟨k+1,by omega,by go_num,by rw [Ht.out,HL.out],K1⟩,by simp only [intOf];omega⟩
    ·have HL:Hid (gP L t=t.v):=by show _=_;simp only [gP,hf,h1,Bool.true_or,Bool.and_true,if_true]
     go_wp2_with (go_at_call 184;refine (lA t _).mono ?_;rintro e w1 ⟨rfl,k1⟩;have K1:=hK.trans k1;rw [hf])
     exact ⟨⟨k+1,by omega,by go_num,by rw [Ht.out,HL.out],K1⟩,by simp only [intOf];omega⟩
  ·have hlt':decide ((k:Int) < (n:Int))=false:=by simp;omega
   rw [DU gP (-1) (show ts.length <= k by have:=Hn.out;omega)]
   have HV:Hid (lV ts floor=if ts.foldl gP (-1) < 0 then floor else max floor (ts.foldl gP (-1))):=rfl
   generalize ts.foldl gP (-1)=L at *
   clear hs
   cases h1:decide (L < 0)
   ·have HL:Hid (lV ts floor=max floor L):=by show _=_;rw [HV.out,if_neg (of_decide_eq_false h1)]
    go_wp2_with (go_at_call 56;refine (lB _ _ _).mono ?_;rintro e w' ⟨rfl,hw'⟩;have hw2:=hw'.symm;subst hw2)
    go_ret
    exact ⟨by rw [HL.out];rfl,hK⟩
   ·have HL:Hid (lV ts floor=floor):=by show _=_;rw [HV.out,if_pos (of_decide_eq_true h1)]
    go_wp2
    go_ret
    exact ⟨by rw [HL.out];rfl,hK⟩
set_option maxHeartbeats 4000000 in
theorem wR (t:ar) (floor:Int) (w:World) :
  Calls Tryz.prog 200 #[tk t,.int .i64 floor] w fun e w'=>e = .returned (tk (lW t floor)) /\ aa w w':=by
 go_enter Tryz.func200,Tryz.ntmps200
 go_wp2_with fail
 refine (lA t _).mono ?_
 rintro e w1 ⟨rfl,k1⟩
 have B1:=((aq.new w (tc t) 43).alloc (.cells (tc ar.zero) 43)).keeps k1
 have B2:=(aq.new (w.alloc (.cells (tc t) 43)) (tc ar.zero) 43).keeps k1
 have K1:Hid (aa w w1):=(((aa.refl w).alloc _).alloc _).trans k1
 simp only [World.size_alloc] at B2
 have R:Hid (aq w1 (w.heap.size+1) (tc ar.zero)):=B2
 have B0:Hid (aq w1 w.heap.size (tc t)):=B1
 obtain ⟨_,b1,b2⟩:=B1
 obtain ⟨_,c1,c2⟩:=B2
 clear k1
 cases hd:gf t
 ·have Hn:Hid (lW t floor=t):=by show _=_;simp [lW,hd]
  go_wp2
  have D:=R.out.putC (tc (t)).toList rfl
  have K:=aa.putC (b:=w.heap.size+1) (by omega) (tc (t)).toList 0 K1.out
  change bodyPost _ _ _ _ _ (putC w1 (w.heap.size+1) 0 (tc (t)).toList)
  generalize putC w1 (w.heap.size+1) 0 (tc (t)).toList=X at D K ⊢
  exact bodyPost_ret (v:=tk (t)) (by simp [results,Tryz.results200,go_sem,D.cells]) rfl ⟨by rw [Hn.out],K⟩
 ·have Hn:Hid (lW t floor=j7 t (max t.v floor)):=by show _=_;simp [lW,hd]
  obtain ⟨N,HN⟩:∃ N,Hid (j7 t (max t.v floor)=N):=⟨_,rfl⟩
  go_wp2_with fail
  have H0:Has w w.heap.size (tc t) w1:=⟨K1.out,B0.out⟩
  have r1:∀ w',Has w w.heap.size (tc t) w'->∀ k,w'.cell? ⟨w.heap.size,k,none⟩=(tc t)[k]?:=fun w' h=>h.box.cells
  clear b1 b2 c1 c2
  refine wp_region_held_drew (S:=(fun w'=>Has w w.heap.size (tc t) w')) (by kernel_rfl) ?_ (fun hHeld => ?_)
  ·exact H0.go (aa.refl _).drew
  refine ad.go [0,1,2,3] ?_
  iterate 4 (refine aM (h := ?_);try simp only [au])
  refine ad.nil ?_
  refine aR 4 (h:=fun K hK => ?_)
  go_simp
  first
   | (go_at_call 56;refine (lB _ _ _).mono ?_;rintro e w2 ⟨rfl,rfl⟩)
   | (go_at_call 214;refine (qZ t _ _).mono ?_;rintro e w3 ⟨rfl,k3⟩;rw [HN.out])
  try go_wp2_with fail
  refine hK.out _ _ ?_ fun hHeld => ?_
  ·first | exact Has.go (by assumption) (by assumption) | assumption
  clear hK K
  try simp only [au]
  refine aR 5 (h:=fun K hK => ?_)
  go_simp
  first
   | (go_at_call 56;refine (lB _ _ _).mono ?_;rintro e w2 ⟨rfl,rfl⟩)
   | (go_at_call 214;refine (qZ t _ _).mono ?_;rintro e w3 ⟨rfl,k3⟩;rw [HN.out])
  try go_wp2_with fail
  refine hK.out _ _ ?_ fun hHeld => ?_
  ·first | exact Has.go (by assumption) (by assumption) | assumption
  clear hK K
  try simp only [au]
  refine aR 6 (h:=fun K hK => ?_)
  have HB:=R.out.keeps ((aa.refl w1).drew.trans k3);have HD:Hid (aq w3 (w.heap.size+1) (tc ar.zero)):=HB;obtain ⟨_,q1,q2⟩:=HB
  go_simp
  try go_wp2_with fail
  refine hK.out _ _ ?_ fun hHeld => ?_
  ·exact Has.put (by assumption) (r:=w.heap.size+1) (by omega) (by omega) 0 (tc N).toList
  clear hK K
  try simp only [au]
  refine wpAnyH_done (by kernel_rfl) ?_ _
  go_wp2
  have D:=HD.out.putC (tc N).toList rfl
  have K:=aa.putC (b:=w.heap.size+1) (by omega) (tc N).toList 0 (K1.out.trans ((aa.refl w1).drew.trans k3))
  change bodyPost _ _ _ _ _ (putC w3 (w.heap.size+1) 0 (tc N).toList)
  generalize putC w3 (w.heap.size+1) 0 (tc N).toList=X at D K ⊢
  exact bodyPost_ret (v:=tk N) (by simp [results,Tryz.results200,go_sem,D.cells]) rfl ⟨by rw [Hn.out,HN.out],K⟩
end
theorem eW (x lo hi:Int) (w:World) :
  Calls Tryz.prog 105 #[.int .i64 x,.int .i64 lo,.int .i64 hi] w fun e w'=>e = .returned (.bool (aH x lo hi)) /\ w'=w:=by
 by_cases h1:lo <= x
 ·by_cases h2:x <= hi
  ·have Hr:Hid (aH x lo hi=true):=sa h1 h2
   go_enter Tryz.func105,Tryz.ntmps105
   go_wp2
   go_ret
   exact ⟨by rw [Hr.out];rfl,rfl⟩
  ·have Hr:Hid (aH x lo hi=false):=mh (.inr (by omega))
   have hd:decide (x <= hi)=false:=by simpa using h2
   go_enter Tryz.func105,Tryz.ntmps105
   go_wp2
   go_ret
   exact ⟨by rw [Hr.out];rfl,rfl⟩
 ·have Hr:Hid (aH x lo hi=false):=mh (.inl (by omega))
  have hd:decide (lo <= x)=false:=by simpa using h1
  go_enter Tryz.func105,Tryz.ntmps105
  go_wp2
  go_ret
  exact ⟨by rw [Hr.out];rfl,rfl⟩
def dM (at_:Int) (es:List (Int × Int)) (no:Int):List (Int × Int):=if dN es no then es else es++[(no,at_)]
def dI (at_:Int) (es:List (Int × Int)) (ws:List Int):List (Int × Int):=ws.foldl (dM at_) es
def fH (ls:List Lk):Nat->List (Int × Int)
 | 0=>[]
 | k+1=>dI k (fH ls k) (match ls[k]? with | some l=>l.waits | none=>[])
def eg (ls:List Lk):List (Int × Int):=fH ls ls.length
theorem tt {ls:List Lk} {k:Nat} {l:Lk} (h:ls[k]?=some l):fH ls (k+1)=dI k (fH ls k) l.waits:=by simp [fH,h]
theorem DW {at_:Int} {es:List (Int × Int)} {ws:List Int} {j:Nat} {x:Int} (h:ws[j]?=some x):dI at_ es (ws.take (j+1))=dM at_ (dI at_ es (ws.take j)) x:=by
 unfold dI
 rw [List.take_add_one,h,List.foldl_append]
 rfl
theorem wS (a:Int) (es:List (Int × Int)) (no x:Int):eF (dM a es no) x=(eF es x).or (if no==x then some a else none):=by
 unfold dM dN
 cases h:eF es no with
 | none =>
  simp only [Option.isSome_none,Bool.false_eq_true,if_false]
  rw [DX,DZ]
 | some v =>
  simp only [Option.isSome_some,if_true]
  by_cases e:no=x
  ·subst e;rw [h];rfl
  ·rw [if_neg (by simpa using e)];simp
theorem wT (a:Int):∀ (ws:List Int) (es:List (Int × Int)) (x:Int),eF (dI a es ws) x=(eF es x).or (if hasB ws x then some a else none)
 | [],es,x=>by simp [dI,hasB]
 | y::r,es,x=>by
  have ih:=wT a r (dM a es y) x
  unfold dI at ih ⊢
  rw [List.foldl_cons,ih,wS]
  have e:hasB (y::r) x=((y==x)||hasB r x):=by simp [hasB]
  rw [e]
  cases eF es x with
  | some v=>rfl
  | none=>cases c:(y==x) <;> simp
theorem tu (ls:List Lk):∀ (k:Nat),k <= ls.length->∀ x,eF (fH ls k) x=(da (ls.take k) x).map fun i:Nat=>(i:Int)
 | 0,_,x=>by simp [fH,eF,da]
 | k+1,hk,x=>by
  obtain ⟨l,hl⟩:=cd (xs:=ls) (k:=k) (by omega)
  rw [tt hl,wT,tu ls k (by omega) x]
  unfold da
  rw [List.take_add_one,hl,List.findIdx?_append]
  cases h:List.findIdx? (fun l=>hasB l.waits x) (ls.take k) with
  | some i=>rfl
  | none =>
   simp only [Option.toList_some,List.findIdx?_singleton,Option.map_none,Option.none_or,List.length_take]
   cases hb:hasB l.waits x
   ·rfl
   ·simp;omega
theorem wU (ls:List Lk) (x:Int):eF (eg ls) x=(da ls x).map fun i:Nat=>(i:Int):=by
 have:=tu ls ls.length (Nat.le_refl _) x
 rwa [List.take_length] at this
theorem wV {ls:List Lk} {x:Int} (h:da ls x=none):dN (eg ls) x=false:=by unfold dN;rw [wU,h];rfl
theorem re {ls:List Lk} {x:Int} {i:Nat} (h:da ls x=some i):dN (eg ls) x=true /\ fQ (eg ls) x=(i:Int):=by
 unfold dN fQ
 rw [wU,h]
 exact ⟨rfl,rfl⟩
theorem wW (a:Int):∀ (ws:List Int) (es:List (Int × Int)),(dI a es ws).length <= es.length+ws.length /\ ((dI a es ws).length=es.length+ws.length↔(∀ x∈ws,eF es x=none) /\ ws.Nodup)
 | [],es=>by simp [dI]
 | y::r,es=>by
  have ih:=wW a r (dM a es y)
  have e1:dI a es (y::r)=dI a (dM a es y) r:=rfl
  rw [e1]
  cases h:eF es y with
  | some v =>
   have e2:dM a es y=es:=by unfold dM dN;rw [h];rfl
   rw [e2] at ih ⊢
   refine ⟨by simp only [List.length_cons];omega,fun hh => ?_,fun hh => ?_⟩
   ·simp only [List.length_cons] at hh;omega
   ·have:=hh.1 y (List.mem_cons_self ..);rw [h] at this;cases this
  | none =>
   have e2:dM a es y=es++[(y,a)]:=by unfold dM dN;rw [h];rfl
   have e3:(dM a es y).length=es.length+1:=by rw [e2];simp
   rw [e3] at ih
   refine ⟨by simp only [List.length_cons];omega,?_⟩
   have e4:(dI a (dM a es y) r).length=es.length+(y::r).length↔(dI a (dM a es y) r).length=es.length+1+r.length:=by simp only [List.length_cons];omega
   rw [e4,ih.2,List.nodup_cons]
   have e5:∀ x,eF (dM a es y) x=none↔eF es x=none /\ y≠x:=by
    intro x
    rw [wS]
    cases eF es x with
    | some v=>simp
    | none=>by_cases c:y=x <;> simp [c]
   constructor
   ·rintro ⟨h1,h2⟩
    refine ⟨fun x hx => ?_,fun hm=>((e5 y).1 (h1 y hm)).2 rfl,h2⟩
    rcases List.mem_cons.1 hx with rfl | hx
    ·exact h
    ·exact ((e5 x).1 (h1 x hx)).1
   ·rintro ⟨h1,h2,h3⟩
    exact ⟨fun x hx=>(e5 x).2 ⟨h1 x (List.mem_cons_of_mem _ hx),fun e=>h2 (e ▸ hx)⟩,h3⟩
theorem wX (ls:List Lk):∀ k,k <= ls.length->(fH ls k).length <= bD (ls.take k) /\ ((fH ls k).length=bD (ls.take k)↔(dO (ls.take k)).Nodup)
 | 0,_=>by simp [fH,bD,dO]
 | k+1,hk=>by
  obtain ⟨l,hl⟩:=cd (xs:=ls) (k:=k) (by omega)
  have ih:=wX ls k (by omega)
  have h2:=wW k l.waits (fH ls k)
  have e0:dO (ls.take (k+1))=dO (ls.take k)++l.waits:=by rw [List.take_add_one,hl,Ea];simp [dO]
  rw [tt hl,pL hl,e0,List.nodup_append]
  refine ⟨by omega,?_⟩
  have e1:(dI k (fH ls k) l.waits).length=bD (ls.take k)+l.waits.length↔(dI k (fH ls k) l.waits).length=(fH ls k).length+l.waits.length /\ (fH ls k).length=bD (ls.take k):=by omega
  rw [e1,h2.2,ih.2]
  have e2:∀ x,eF (fH ls k) x=none↔x ∉ dO (ls.take k):=by
   intro x
   rw [tu ls k (by omega),Option.map_eq_none_iff,wY]
  constructor
  ·rintro ⟨⟨h3,h4⟩,h5⟩
   exact ⟨h5,h4,fun a ha b hb e=>(e2 b).1 (h3 b hb) (e ▸ ha)⟩
  ·rintro ⟨h3,h4,h5⟩
   exact ⟨⟨fun x hx=>(e2 x).2 fun hm=>h5 x hm x hx rfl,h4⟩,h3⟩
theorem wZ (ls:List Lk):(eg ls).length <= bD ls /\ ((eg ls).length=bD ls↔(dO ls).Nodup):=by
 have:=wX ls ls.length (Nat.le_refl _)
 rwa [List.take_length] at this
def gI (l:Lk):Bool:=l.waits.all (fun x=>aH x 1 1000)&&(aH l.owner 0 1000&&(!(l.owner==0)||l.waits.length==0))
theorem Eb (ls:List Lk):(decide (ls.length <= 5)&&(ls.all gI&&(decide ((eg ls).length=bD ls)&&ls.all fun l=>(cB ls (ls.length+1) l.owner).2)))=du ls:=by
 apply Bool.eq_iff_iff.2
 rw [pM]
 simp only [Bool.and_eq_true,decide_eq_true_eq,List.all_eq_true,(wZ ls).2,tv]
 have rf:∀ {j:Nat} {l:Lk},ls[j]?=some l->l∈ls:=fun h=>List.mem_of_getElem? h
 constructor
 ·rintro ⟨h1,h2,h3,h4⟩
  have key:∀ l∈ls,(∀ x∈l.waits,1 <= x /\ x <= 1000) /\ (0 <= l.owner /\ l.owner <= 1000) /\ (l.owner=0->l.waits=[]):=by
   intro l hl
   have:=h2 l hl
   simp only [gI,Bool.and_eq_true,List.all_eq_true,dq,Bool.or_eq_true,Bool.not_eq_true',beq_eq_false_iff_ne,beq_iff_eq,List.length_eq_zero_iff] at this
   refine ⟨this.1,this.2.1,fun e => ?_⟩
   rcases this.2.2 with h | h
   ·exact absurd e h
   ·exact h
  refine ⟨h1,fun j l hl=>(key l (rf hl)).2.1,fun j l hl=>(key l (rf hl)).2.2,fun j l x hl hx=>(key l (rf hl)).1 x (j8.1 hx),fun j l x hl hx => ?_,fun j l x hl hx => ?_⟩
  ·rw [tw];exact h3 x (oe.2 ⟨j,l,hl,hx⟩)
  ·cases hw:da ls x with
   | none=>exact absurd (oe.2 ⟨j,l,hl,hx⟩) (wY.1 hw)
   | some i =>
    obtain ⟨m,hm,-,-⟩:=qc2 hw
    obtain ⟨c,hc⟩:=tz.1 (h4 m (rf hm))
    exact ⟨_,Ends.step hw (by rw [iP hm];exact hc)⟩
 ·intro R
  have mem:∀ {l:Lk},l∈ls->∃ j:Nat,ls[j]?=some l:=fun hl=>by
   obtain ⟨j,hj,rfl⟩:=List.mem_iff_getElem.1 hl
   exact ⟨j,List.getElem?_eq_getElem hj⟩
  refine ⟨R.len,fun l hl => ?_,fun x hx => ?_,fun l hl => ?_⟩
  ·obtain ⟨j,hj⟩:=mem hl
   simp only [gI,Bool.and_eq_true,List.all_eq_true,dq,Bool.or_eq_true,Bool.not_eq_true',beq_eq_false_iff_ne,beq_iff_eq,List.length_eq_zero_iff]
   refine ⟨fun x hx=>R.no j l x hj (j8.2 hx),R.owner j l hj,?_⟩
   by_cases e:l.owner=0
   ·exact .inr (R.free j l hj e)
   ·exact .inl e
  ·obtain ⟨j,l,hj,hx⟩:=oe.1 hx
   rw [<- tw];exact R.once j l x hj hx
  ·rw [tz]
   cases hw:da ls l.owner with
   | none=>exact ⟨_,Ends.stop hw⟩
   | some i =>
    obtain ⟨m,hm,hx,-⟩:=qc2 hw
    exact R.ends i m l.owner hm hx
variable {p p':Bool}
attribute [local go_sem] aa.refl aa.alloc aa.drew aa.drewN
variable {p:Bool}
attribute [local go_sem] aa.refl aa.alloc aa.drew aa.drewN
theorem sK {ts:List ar} (h:f9 ts=true):∀ (j i:Nat) (a b:ar),i < j->ts[i]?=some a->ts[j]?=some b->a.no < b.no:=by
 have H:=(tA ts).1 h
 intro j
 induction j with
 | zero=>intro i a b hi;omega
 | succ j ih =>
  intro i a b hi ha hb
  rcases Nat.lt_or_ge i j with h1 | h1
  ·have hj:j < ts.length:=by
    rcases Nat.lt_or_ge (j+1) ts.length with h | h
    ·omega
    ·simp [List.getElem?_eq_none h] at hb
   have h2:=ih i a ts[j] h1 ha (List.getElem?_eq_getElem hj)
   have h3:=H j ts[j] b (List.getElem?_eq_getElem hj) hb
   omega
  ·obtain rfl:i=j:=by omega
   exact H i a b ha hb
theorem Ec {ts:List ar} (h:dz ts=true):f9 ts=true:=by
 simp only [dz,Bool.and_eq_true] at h;exact h.1.2
theorem Ed {ts:List ar} (h:dz ts=true) {i:Nat} {x:ar} (hx:ts[i]?=some x):dc ts x.no=i:=by
 have A:=sK (Ec h)
 have hi:i < ts.length:=by
  rcases Nat.lt_or_ge i ts.length with h | h
  ·exact h
  ·simp [List.getElem?_eq_none h] at hx
 have:ts.findIdx? (fun t=>t.no==x.no)=some i:=by
  rw [List.findIdx?_eq_some_iff_getElem]
  have e1:ts[i]=x:=by rw [List.getElem?_eq_getElem hi] at hx;simpa using hx
  refine ⟨hi,by rw [e1];simp,fun j hj => ?_⟩
  have:=A i j ts[j] x hj (List.getElem?_eq_getElem _) hx
  simp;omega
 simp [dc,this]
theorem tC {ts:List ar} (h:dz ts=true) {i:Nat} {t:ar} (ht:ts[i]?=some t):bN t=true:=by
 simp only [dz,Bool.and_eq_true] at h
 exact List.all_eq_true.1 h.1.1 t (List.mem_of_getElem? ht)
section
attribute [local go_sem] aa.refl aa.alloc aa.drew aa.drewN
set_option maxHeartbeats 2000000 in
theorem xd (t:ar) (now:Int) (w:World) :
  Calls Tryz.prog 176 #[tk t,.int .i64 now] w fun e w'=>e = .returned (tk (jk t now)) /\ aa w w':=by
 go_enter Tryz.func176,Tryz.ntmps176
 go_wp2_with fail
 refine (pK t _).mono ?_
 rintro e w1 ⟨rfl,k1⟩
 have B1:=((aq.new w (tc t) 43).alloc (.cells (tc ar.zero) 43)).keeps k1
 have B2:=(aq.new (w.alloc (.cells (tc t) 43)) (tc ar.zero) 43).keeps k1
 have K1:Hid (aa w w1):=(((aa.refl w).alloc _).alloc _).trans k1
 simp only [World.size_alloc] at B2
 have R:Hid (aq w1 (w.heap.size+1) (tc ar.zero)):=B2
 obtain ⟨_,b1,b2⟩:=B1
 obtain ⟨_,c1,c2⟩:=B2
 clear k1
 cases hd:cq t
 ·have Hn:Hid (jk t now=t):=by show _=_;simp [jk,pN,hd]
  go_wp2
  have D:=R.out.putC (tc (t)).toList rfl
  have K:=aa.putC (b:=w.heap.size+1) (by omega) (tc (t)).toList 0 K1.out
  change bodyPost _ _ _ _ _ (putC w1 (w.heap.size+1) 0 (tc (t)).toList)
  generalize putC w1 (w.heap.size+1) 0 (tc (t)).toList=X at D K ⊢
  exact bodyPost_ret (v:=tk (t)) (by simp [results,Tryz.results176,go_sem,D.cells]) rfl ⟨by rw [Hn.out],K⟩
 ·cases hi:aH now 0 100000
  ·have Hn:Hid (jk t now=t):=by show _=_;simp [jk,pN,hi]
   go_wp2_with (go_at_call 27;refine (bq _ _ _ _).mono ?_;rintro e w' ⟨rfl,hw'⟩;have hw2:=hw'.symm;subst hw2)
   have D:=R.out.putC (tc (t)).toList rfl
   have K:=aa.putC (b:=w.heap.size+1) (by omega) (tc (t)).toList 0 K1.out
   change bodyPost _ _ _ _ _ (putC w1 (w.heap.size+1) 0 (tc (t)).toList)
   generalize putC w1 (w.heap.size+1) 0 (tc (t)).toList=X at D K ⊢
   exact bodyPost_ret (v:=tk (t)) (by simp [results,Tryz.results176,go_sem,D.cells]) rfl ⟨by rw [Hn.out],K⟩
  ·have H:=(tq t).1 hd
   obtain ⟨p0,p1⟩:=H.p
   obtain ⟨d0,d1⟩:=H.due
   clear H
   cases hl:decide (now < t.due)
   ·have hl':=of_decide_eq_false hl
    have Hn:Hid (jk t now={ t with left:=t.q,due:=t.due+t.p }):=by show _=_;simp only [jk,pN,hd,hi,decide_eq_true (show t.due <= now by omega),Bool.and_true,if_true]
    go_wp2_with (go_at_call 27;refine (bq _ _ _ _).mono ?_;rintro e w' ⟨rfl,hw'⟩;have hw2:=hw'.symm;subst hw2)
    have D:=((R.out.far (c:=w.heap.size) (o:=7) (by omega) (.int .i64 (t.q))).far (c:=w.heap.size) (o:=8) (by omega) (.int .i64 (t.due+t.p))).putC (tc ({ t with left:=t.q,due:=t.due+t.p })).toList rfl
    have K:=aa.putC (b:=w.heap.size+1) (by omega) (tc ({ t with left:=t.q,due:=t.due+t.p })).toList 0 ((K1.out.setCell (p:=⟨w.heap.size,7,none⟩) (Nat.le_refl _) (.int .i64 (t.q))).setCell (p:=⟨w.heap.size,8,none⟩) (Nat.le_refl _) (.int .i64 (t.due+t.p)))
    change bodyPost _ _ _ _ _ (putC ((w1.setCell ⟨w.heap.size,7,none⟩ (.int .i64 (t.q))).setCell ⟨w.heap.size,8,none⟩ (.int .i64 (t.due+t.p))) (w.heap.size+1) 0 (tc ({ t with left:=t.q,due:=t.due+t.p })).toList)
    generalize putC ((w1.setCell ⟨w.heap.size,7,none⟩ (.int .i64 (t.q))).setCell ⟨w.heap.size,8,none⟩ (.int .i64 (t.due+t.p))) (w.heap.size+1) 0 (tc ({ t with left:=t.q,due:=t.due+t.p })).toList=X at D K ⊢
    exact bodyPost_ret (v:=tk ({ t with left:=t.q,due:=t.due+t.p })) (by simp [results,Tryz.results176,go_sem,D.cells]) rfl ⟨by rw [Hn.out],K⟩
   ·have hl':=of_decide_eq_true hl
    have Hn:Hid (jk t now=t):=by show _=_;simp only [jk,pN,decide_eq_false (show ¬ t.due <= now by omega),Bool.and_false,Bool.false_eq_true,if_false]
    go_wp2_with (go_at_call 27;refine (bq _ _ _ _).mono ?_;rintro e w' ⟨rfl,hw'⟩;have hw2:=hw'.symm;subst hw2)
    have D:=R.out.putC (tc (t)).toList rfl
    have K:=aa.putC (b:=w.heap.size+1) (by omega) (tc (t)).toList 0 K1.out
    change bodyPost _ _ _ _ _ (putC w1 (w.heap.size+1) 0 (tc (t)).toList)
    generalize putC w1 (w.heap.size+1) 0 (tc (t)).toList=X at D K ⊢
    exact bodyPost_ret (v:=tk (t)) (by simp [results,Tryz.results176,go_sem,D.cells]) rfl ⟨by rw [Hn.out],K⟩
def Ee:Prop:=∀ (a:Option Addr) (cap:Nat) (ts:List ar) (no:Int) (w:World),ts.length <= maxLen->Ts w a ts->Calls Tryz.prog 17 #[.slice a ts.length cap,.int .i64 no] w fun e w'=>e = .returned (.int .i64 (dc ts no)) /\ aa w w'
def Ef:Prop:=∀ (a:Option Addr) (cap:Nat) (ts:List ar) (w:World),ts.length <= maxLen->Ts w a ts->Calls Tryz.prog 33 #[.slice a ts.length cap] w fun e w'=>e = .returned (.bool (dz ts)) /\ aa w w'
def Eg:Prop:=∀ (t:ar) (w:World),Calls Tryz.prog 74 #[tk t] w fun e w'=>e = .returned (.bool (bN t)) /\ aa w w'
set_option maxHeartbeats 2000000 in
theorem xf (t:ar) (now:Int) (w:World) :
  Calls Tryz.prog 201 #[tk t,.int .i64 now] w fun e w'=>e = .returned (tk (iV t now)) /\ aa w w':=by
 go_enter Tryz.func201,Tryz.ntmps201
 go_wp2_with fail
 refine (pK t _).mono ?_
 rintro e w1 ⟨rfl,k1⟩
 have B1:=((aq.new w (tc t) 43).alloc (.cells (tc ar.zero) 43)).keeps k1
 have B2:=(aq.new (w.alloc (.cells (tc t) 43)) (tc ar.zero) 43).keeps k1
 have K1:Hid (aa w w1):=(((aa.refl w).alloc _).alloc _).trans k1
 simp only [World.size_alloc] at B2
 have R:Hid (aq w1 (w.heap.size+1) (tc ar.zero)):=B2
 obtain ⟨_,b1,b2⟩:=B1
 obtain ⟨_,c1,c2⟩:=B2
 clear k1
 cases hd:cq t
 ·have Hn:Hid (iV t now=t):=by show _=_;simp [iV,og,hd]
  go_wp2
  have D:=R.out.putC (tc (t)).toList rfl
  have K:=aa.putC (b:=w.heap.size+1) (by omega) (tc (t)).toList 0 K1.out
  change bodyPost _ _ _ _ _ (putC w1 (w.heap.size+1) 0 (tc (t)).toList)
  generalize putC w1 (w.heap.size+1) 0 (tc (t)).toList=X at D K ⊢
  exact bodyPost_ret (v:=tk (t)) (by simp [results,Tryz.results201,go_sem,D.cells]) rfl ⟨by rw [Hn.out],K⟩
 ·cases hi:aH now 0 100000
  ·have Hn:Hid (iV t now=t):=by show _=_;simp [iV,og,hi]
   go_wp2_with (go_at_call 27;refine (bq _ _ _ _).mono ?_;rintro e w' ⟨rfl,hw'⟩;have hw2:=hw'.symm;subst hw2)
   have D:=R.out.putC (tc (t)).toList rfl
   have K:=aa.putC (b:=w.heap.size+1) (by omega) (tc (t)).toList 0 K1.out
   change bodyPost _ _ _ _ _ (putC w1 (w.heap.size+1) 0 (tc (t)).toList)
   generalize putC w1 (w.heap.size+1) 0 (tc (t)).toList=X at D K ⊢
   exact bodyPost_ret (v:=tk (t)) (by simp [results,Tryz.results201,go_sem,D.cells]) rfl ⟨by rw [Hn.out],K⟩
  ·have H:=(tq t).1 hd
   obtain ⟨p0,p1⟩:=H.p
   obtain ⟨q0,q1⟩:=H.q
   obtain ⟨l0,l1⟩:=H.left
   obtain ⟨d0,d1⟩:=H.due
   obtain ⟨n0,n1⟩:=dq.1 hi
   clear H
   cases hl:decide (t.due <= now)
   ·have hl':=of_decide_eq_false hl
    have m1:=xg (A:=40) (B:=40) l0 (by omega) (show 0 <= t.p by omega) p1
    have m2:=xg (A:=100040) (B:=40) (show 0 <= t.due - now by omega) (by omega) (show 0 <= t.q by omega) (by omega)
    have e1:IntKind.i64.wrap (t.left*t.p)=t.left*t.p:=Go.IntWalk.i64_in _ (by omega)
    have e2:IntKind.i64.wrap ((t.due - now)*t.q)=(t.due - now)*t.q:=Go.IntWalk.i64_in _ (by omega)
    clear m1 m2
    cases hm:decide ((t.due - now)*t.q < t.left*t.p)
    ·have Hn:Hid (iV t now=t):=by show _=_;simp only [iV,og,rh,hl,hm,Bool.or_false,Bool.and_false,Bool.false_eq_true,if_false]
     go_wp2_with (go_at_call 27;refine (bq _ _ _ _).mono ?_;rintro e w' ⟨rfl,hw'⟩;have hw2:=hw'.symm;subst hw2)
     have D:=R.out.putC (tc (t)).toList rfl
     have K:=aa.putC (b:=w.heap.size+1) (by omega) (tc (t)).toList 0 K1.out
     change bodyPost _ _ _ _ _ (putC w1 (w.heap.size+1) 0 (tc (t)).toList)
     generalize putC w1 (w.heap.size+1) 0 (tc (t)).toList=X at D K ⊢
     exact bodyPost_ret (v:=tk (t)) (by simp [results,Tryz.results201,go_sem,D.cells]) rfl ⟨by rw [Hn.out],K⟩
    ·have Hn:Hid (iV t now={ t with left:=t.q,due:=now+t.p }):=by show _=_;simp only [iV,og,rh,hl,hm,hd,hi,Bool.false_or,Bool.and_true,if_true]
     go_wp2_with (go_at_call 27;refine (bq _ _ _ _).mono ?_;rintro e w' ⟨rfl,hw'⟩;have hw2:=hw'.symm;subst hw2)
     have D:=((R.out.far (c:=w.heap.size) (o:=7) (by omega) (.int .i64 (t.q))).far (c:=w.heap.size) (o:=8) (by omega) (.int .i64 (now+t.p))).putC (tc ({ t with left:=t.q,due:=now+t.p })).toList rfl
     have K:=aa.putC (b:=w.heap.size+1) (by omega) (tc ({ t with left:=t.q,due:=now+t.p })).toList 0 ((K1.out.setCell (p:=⟨w.heap.size,7,none⟩) (Nat.le_refl _) (.int .i64 (t.q))).setCell (p:=⟨w.heap.size,8,none⟩) (Nat.le_refl _) (.int .i64 (now+t.p)))
     change bodyPost _ _ _ _ _ (putC ((w1.setCell ⟨w.heap.size,7,none⟩ (.int .i64 (t.q))).setCell ⟨w.heap.size,8,none⟩ (.int .i64 (now+t.p))) (w.heap.size+1) 0 (tc ({ t with left:=t.q,due:=now+t.p })).toList)
     generalize putC ((w1.setCell ⟨w.heap.size,7,none⟩ (.int .i64 (t.q))).setCell ⟨w.heap.size,8,none⟩ (.int .i64 (now+t.p))) (w.heap.size+1) 0 (tc ({ t with left:=t.q,due:=now+t.p })).toList=X at D K ⊢
     exact bodyPost_ret (v:=tk ({ t with left:=t.q,due:=now+t.p })) (by simp [results,Tryz.results201,go_sem,D.cells]) rfl ⟨by rw [Hn.out],K⟩
   ·have Hn:Hid (iV t now={ t with left:=t.q,due:=now+t.p }):=by show _=_;simp only [iV,og,rh,hl,hd,hi,Bool.true_or,Bool.and_true,if_true]
    go_wp2_with (go_at_call 27;refine (bq _ _ _ _).mono ?_;rintro e w' ⟨rfl,hw'⟩;have hw2:=hw'.symm;subst hw2)
    have D:=((R.out.far (c:=w.heap.size) (o:=7) (by omega) (.int .i64 (t.q))).far (c:=w.heap.size) (o:=8) (by omega) (.int .i64 (now+t.p))).putC (tc ({ t with left:=t.q,due:=now+t.p })).toList rfl
    have K:=aa.putC (b:=w.heap.size+1) (by omega) (tc ({ t with left:=t.q,due:=now+t.p })).toList 0 ((K1.out.setCell (p:=⟨w.heap.size,7,none⟩) (Nat.le_refl _) (.int .i64 (t.q))).setCell (p:=⟨w.heap.size,8,none⟩) (Nat.le_refl _) (.int .i64 (now+t.p)))
    change bodyPost _ _ _ _ _ (putC ((w1.setCell ⟨w.heap.size,7,none⟩ (.int .i64 (t.q))).setCell ⟨w.heap.size,8,none⟩ (.int .i64 (now+t.p))) (w.heap.size+1) 0 (tc ({ t with left:=t.q,due:=now+t.p })).toList)
    generalize putC ((w1.setCell ⟨w.heap.size,7,none⟩ (.int .i64 (t.q))).setCell ⟨w.heap.size,8,none⟩ (.int .i64 (now+t.p))) (w.heap.size+1) 0 (tc ({ t with left:=t.q,due:=now+t.p })).toList=X at D K ⊢
    exact bodyPost_ret (v:=tk ({ t with left:=t.q,due:=now+t.p })) (by simp [results,Tryz.results201,go_sem,D.cells]) rfl ⟨by rw [Hn.out],K⟩
end
def lC (xs:List Value) (k:Nat):List Value->List Value
 | []=>xs
 | v::r=>lC (xs.set k v) (k+1) r
theorem tD (A:List Value):∀ (L B:List Value) (k:Nat),lC (A++B) (A.length+k) L=A++lC B k L
 | [],_,_=>rfl
 | v::r,B,k=>by
  rw [lC,lC,List.set_append_right _ _ (by omega),Nat.add_assoc,show A.length+k - A.length=k by omega]
  exact tD A r (B.set k v) (k+1)
theorem xh:∀ (L A B:List Value),A.length=L.length->lC (A++B) 0 L=L++B
 | [],A,B,h=>by
  have:A=[]:=List.length_eq_zero_iff.1 h
  subst this
  rfl
 | v::r,[],B,h=>by simp at h
 | v::r,a::A,B,h=>by
  have h1:=tD [v] r (A++B) 0
  have h2:=xh r A B (by simpa using h)
  rw [lC]
  simp only [List.cons_append,List.set_cons_zero,List.nil_append,List.length_singleton,Nat.add_zero,Nat.zero_add] at h1 ⊢
  rw [h1,h2]
theorem xi {α:Type} {c:α->Array Value} {sz:Nat} (hc:∀ x,(c x).size=sz) (x:α):∀ (xs:List α) (i:Nat),i < xs.length->lC (aV c xs) (i*sz) (c x).toList=aV c (xs.set i x)
 | [],i,h=>by simp at h
 | y::r,0,_=>by
  have e:aV c (y::r)=(c y).toList++aV c r:=rfl
  have e':aV c ((y::r).set 0 x)=(c x).toList++aV c r:=rfl
  rw [e,e',Nat.zero_mul]
  exact xh _ _ _ (by simp [hc])
 | y::r,i+1,h=>by
  have e:aV c (y::r)=(c y).toList++aV c r:=rfl
  have e':aV c ((y::r).set (i+1) x)=(c y).toList++aV c (r.set i x):=rfl
  have hl:(i+1)*sz=(c y).toList.length+i*sz:=by rw [Array.length_toList,hc,Nat.add_mul,Nat.one_mul,Nat.add_comm]
  rw [e,e',hl,tD,xi hc x r i (by simpa using h)]
theorem xj {base:Nat} {e:TypeId} {size g n cap:Nat}:∀ (L:List Value) (w:World) (k:Nat) (xs:List Value),w.ownsRow base e size (.slice (some ⟨g,0,none⟩) n cap) n xs ->
  (putC w g k L).ownsRow base e size (.slice (some ⟨g,0,none⟩) n cap) n (lC xs k L)
 | [],_,_,_,h=>h
 | v::r,_,k,_,h=>xj r _ (k+1) _ (h.stored k v).1
theorem Own.put {α:Type} {e:TypeId} {sz:Nat} {c:α->Array Value} {w:World} {base b cap:Nat} {xs:List α} (hc:∀ x,(c x).size=sz) (h:Own e sz c w base (.slice (Option.some ⟨b,0,none⟩) xs.length cap) xs) {i:Nat} (hi:i < xs.length) (x:α) :
  Own e sz c (putC w b (i*sz) (c x).toList) base (.slice (Option.some ⟨b,0,none⟩) (xs.set i x).length cap) (xs.set i x):=by
 unfold Own at h ⊢
 rw [<- xi hc x xs i hi,List.length_set]
 exact xj _ _ _ _ h
section
attribute [local go_sem] aa.refl aa.alloc aa.drew aa.drewN
set_option maxHeartbeats 4000000 in
theorem tE (t:ar) (w:World) :
  Calls Tryz.prog 205 #[tk t] w fun e w'=>e = .returned (tk (lX t)) /\ aa w w':=by
 go_enter Tryz.func205,Tryz.ntmps205
 go_wp2_with fail
 refine (lA t _).mono ?_
 rintro e w1 ⟨rfl,k1⟩
 have B1:=((aq.new w (tc t) 43).alloc (.cells (tc ar.zero) 43)).keeps k1
 have B2:=(aq.new (w.alloc (.cells (tc t) 43)) (tc ar.zero) 43).keeps k1
 have K1:Hid (aa w w1):=(((aa.refl w).alloc _).alloc _).trans k1
 simp only [World.size_alloc] at B2
 have R:Hid (aq w1 (w.heap.size+1) (tc ar.zero)):=B2
 have B0:Hid (aq w1 w.heap.size (tc t)):=B1
 obtain ⟨_,b1,b2⟩:=B1
 obtain ⟨_,c1,c2⟩:=B2
 clear k1
 cases hd:gf t
 ·have Hn:Hid (lX t=t):=by show _=_;simp [lX,hd]
  go_wp2
  have D:=R.out.putC (tc (t)).toList rfl
  have K:=aa.putC (b:=w.heap.size+1) (by omega) (tc (t)).toList 0 K1.out
  change bodyPost _ _ _ _ _ (putC w1 (w.heap.size+1) 0 (tc (t)).toList)
  generalize putC w1 (w.heap.size+1) 0 (tc (t)).toList=X at D K ⊢
  exact bodyPost_ret (v:=tk (t)) (by simp [results,Tryz.results205,go_sem,D.cells]) rfl ⟨by rw [Hn.out],K⟩
 ·have H:=(xk t).1 hd
  obtain ⟨v0,v1⟩:=H.v
  have hst:=Eh t.nice
  have e1:IntKind.i64.wrap (t.v+jl t.nice)=t.v+jl t.nice:=Go.IntWalk.i64_in _ (by omega)
  have Hn:Hid (lX t=j7 t (t.v+jl t.nice)):=by show _=_;simp [lX,hd]
  clear H hst
  obtain ⟨N,HN⟩:∃ N,Hid (j7 t (t.v+jl t.nice)=N):=⟨_,rfl⟩
  go_wp2_with fail
  have H0:Has w w.heap.size (tc t) w1:=⟨K1.out,B0.out⟩
  have r1:∀ w',Has w w.heap.size (tc t) w'->∀ k,w'.cell? ⟨w.heap.size,k,none⟩=(tc t)[k]?:=fun w' h=>h.box.cells
  clear b1 b2 c1 c2
  refine wp_region_held_drew (S:=(fun w'=>Has w w.heap.size (tc t) w')) (by kernel_rfl) ?_ (fun hHeld => ?_)
  ·exact H0.go (aa.refl _).drew
  refine ad.go [0,1,2,3,4] ?_
  iterate 5 (refine aM (h := ?_);try simp only [au])
  refine ad.nil ?_
  refine aR 5 (h:=fun K hK => ?_)
  go_simp
  first
   | (go_at_call 217;refine (xl _ _).mono ?_;rintro e w2 ⟨rfl,k2⟩)
   | (go_at_call 214;refine (qZ t _ _).mono ?_;rintro e w3 ⟨rfl,k3⟩;rw [HN.out])
  try go_wp2_with fail
  refine hK.out _ _ ?_ fun hHeld => ?_
  ·first | exact Has.go (by assumption) (by assumption) | assumption
  clear hK K
  try simp only [au]
  refine di 6 (h := ?_)
  try simp only [au]
  refine aR 7 (h:=fun K hK => ?_)
  go_simp
  first
   | (go_at_call 217;refine (xl _ _).mono ?_;rintro e w2 ⟨rfl,k2⟩)
   | (go_at_call 214;refine (qZ t _ _).mono ?_;rintro e w3 ⟨rfl,k3⟩;rw [HN.out])
  try go_wp2_with fail
  refine hK.out _ _ ?_ fun hHeld => ?_
  ·first | exact Has.go (by assumption) (by assumption) | assumption
  clear hK K
  try simp only [au]
  refine aR 8 (h:=fun K hK => ?_)
  have HB:=R.out.keeps (((aa.refl w1).drew.trans k2).trans k3);have HD:Hid (aq w3 (w.heap.size+1) (tc ar.zero)):=HB;obtain ⟨_,q1,q2⟩:=HB
  go_simp
  try go_wp2_with fail
  refine hK.out _ _ ?_ fun hHeld => ?_
  ·exact Has.put (by assumption) (r:=w.heap.size+1) (by omega) (by omega) 0 (tc N).toList
  clear hK K
  try simp only [au]
  refine wpAnyH_done (by kernel_rfl) ?_ _
  go_wp2
  have D:=HD.out.putC (tc N).toList rfl
  have K:=aa.putC (b:=w.heap.size+1) (by omega) (tc N).toList 0 (K1.out.trans (((aa.refl w1).drew.trans k2).trans k3))
  change bodyPost _ _ _ _ _ (putC w3 (w.heap.size+1) 0 (tc N).toList)
  generalize putC w3 (w.heap.size+1) 0 (tc N).toList=X at D K ⊢
  exact bodyPost_ret (v:=tk N) (by simp [results,Tryz.results205,go_sem,D.cells]) rfl ⟨by rw [Hn.out,HN.out],K⟩
end
variable {p:Bool}
attribute [local go_sem] aa.refl aa.alloc aa.drew aa.drewN
theorem xm:∀ {ls:List Lk} {j:Nat} {l:Lk} (m:Lk),ls[j]?=some l->bD (ls.set j m)+l.waits.length=bD ls+m.waits.length
 | [],j,l,m,h=>by simp at h
 | x::r,0,l,m,h=>by
  simp at h
  subst h
  simp only [List.set_cons_zero,bD]
  omega
 | x::r,j+1,l,m,h=>by
  have:=xm (ls:=r) (j:=j) m (by simpa using h)
  simp only [List.set_cons_succ,bD]
  omega
theorem sM {ls:List Lk} {j:Nat} {l:Lk} (m:Lk) (h:ls[j]?=some l):bR (ls.set j m)+l.waits.length=bR ls+m.waits.length:=by
 have:=xm m h
 unfold bR
 rw [List.length_set]
 omega
theorem tF {ls:List Lk} (f:Lk->Lk) (j:Nat) (hf:∀ l,(f l).waits.length <= l.waits.length+1):bR (ls.modify j f) <= bR ls+1:=by
 cases h:ls[j]? with
 | none =>
  have hl:ls.length <= j:=by
   rcases Nat.lt_or_ge j ls.length with h1 | h1
   ·rw [List.getElem?_eq_getElem h1] at h;cases h
   ·exact h1
  have:ls.modify j f=ls:=by
   apply List.ext_getElem?
   intro i
   rw [List.getElem?_modify]
   by_cases e:j=i
   ·subst e;rw [h];rfl
   ·simp [e]
  rw [this];omega
 | some l =>
  rw [pO h]
  have:=sM (f l) h
  have:=hf l
  omega
theorem vJ (ls:List Lk) (i no:Int):bR (bM ls i no) <= bR ls+1:=by
 unfold bM
 split
 ·simp [bR,bD]
 ·split
  ·exact tF _ _ fun l=>by simp [oh]
  ·split
   ·exact tF _ _ fun l=>by simp [ri]
   ·omega
theorem Ei (ls:List Lk) (i no next:Int):bR (fy ls i no next) <= bR ls+1:=by
 unfold fy
 split
 ·simp [bR,bD]
 ·split
  ·exact tF _ _ fun l=>by have:=Ej l.waits next;simp [qc1];omega
  ·omega
section
attribute [local go_sem] aa.refl aa.alloc aa.drew aa.drewN
set_option maxHeartbeats 4000000 in
theorem Cm (t:ar) (cpu eI dst:Int) (w:World) :
  Calls Tryz.prog 153 #[tk t,.int .i64 cpu,.int .i64 eI,.int .i64 dst] w fun e w'=>e = .returned (tk (iy t cpu eI dst)) /\ aa w w':=by
 go_enter Tryz.func153,Tryz.ntmps153
 go_wp2_with fail
 refine (lA t _).mono ?_
 rintro e w1 ⟨rfl,k1⟩
 have B1:=((aq.new w (tc t) 43).alloc (.cells (tc ar.zero) 43)).keeps k1
 have B2:=(aq.new (w.alloc (.cells (tc t) 43)) (tc ar.zero) 43).keeps k1
 have K1:Hid (aa w w1):=(((aa.refl w).alloc _).alloc _).trans k1
 simp only [World.size_alloc] at B2
 have R:Hid (aq w1 (w.heap.size+1) (tc ar.zero)):=B2
 have B0:Hid (aq w1 w.heap.size (tc t)):=B1
 obtain ⟨_,b1,b2⟩:=B1
 obtain ⟨_,c1,c2⟩:=B2
 clear k1
 cases hd:gf t
 ·have Hn:Hid (iy t cpu eI dst=t):=by show _=_;simp [iy,mX,hd]
  go_wp2_with (first | (go_at_call 27;refine (bq _ _ _ _).mono ?_;rintro e w' ⟨rfl,hw'⟩;have hw2:=hw'.symm;subst hw2) | (go_at_call 56;refine (lB _ _ _).mono ?_;rintro e w' ⟨rfl,hw'⟩;have hw2:=hw'.symm;subst hw2))
  have D:=R.out.putC (tc (t)).toList rfl
  have K:=aa.putC (b:=w.heap.size+1) (by omega) (tc (t)).toList 0 K1.out
  change bodyPost _ _ _ _ _ (putC w1 (w.heap.size+1) 0 (tc (t)).toList)
  generalize putC w1 (w.heap.size+1) 0 (tc (t)).toList=X at D K ⊢
  exact bodyPost_ret (v:=tk (t)) (by simp [results,Tryz.results153,go_sem,D.cells]) rfl ⟨by rw [Hn.out],K⟩
 ·skip
  cases h1:aH cpu 0 3
  ·have Hn:Hid (iy t cpu eI dst=t):=by show _=_;simp [iy,mX,h1]
   go_wp2_with (first | (go_at_call 27;refine (bq _ _ _ _).mono ?_;rintro e w' ⟨rfl,hw'⟩;have hw2:=hw'.symm;subst hw2) | (go_at_call 56;refine (lB _ _ _).mono ?_;rintro e w' ⟨rfl,hw'⟩;have hw2:=hw'.symm;subst hw2))
   have D:=R.out.putC (tc (t)).toList rfl
   have K:=aa.putC (b:=w.heap.size+1) (by omega) (tc (t)).toList 0 K1.out
   change bodyPost _ _ _ _ _ (putC w1 (w.heap.size+1) 0 (tc (t)).toList)
   generalize putC w1 (w.heap.size+1) 0 (tc (t)).toList=X at D K ⊢
   exact bodyPost_ret (v:=tk (t)) (by simp [results,Tryz.results153,go_sem,D.cells]) rfl ⟨by rw [Hn.out],K⟩
  ·skip
   cases h2:aH eI 0 100000000
   ·have Hn:Hid (iy t cpu eI dst=t):=by show _=_;simp [iy,mX,h2]
    go_wp2_with (first | (go_at_call 27;refine (bq _ _ _ _).mono ?_;rintro e w' ⟨rfl,hw'⟩;have hw2:=hw'.symm;subst hw2) | (go_at_call 56;refine (lB _ _ _).mono ?_;rintro e w' ⟨rfl,hw'⟩;have hw2:=hw'.symm;subst hw2))
    have D:=R.out.putC (tc (t)).toList rfl
    have K:=aa.putC (b:=w.heap.size+1) (by omega) (tc (t)).toList 0 K1.out
    change bodyPost _ _ _ _ _ (putC w1 (w.heap.size+1) 0 (tc (t)).toList)
    generalize putC w1 (w.heap.size+1) 0 (tc (t)).toList=X at D K ⊢
    exact bodyPost_ret (v:=tk (t)) (by simp [results,Tryz.results153,go_sem,D.cells]) rfl ⟨by rw [Hn.out],K⟩
   ·skip
    cases h3:aH dst 0 100000000
    ·have Hn:Hid (iy t cpu eI dst=t):=by show _=_;simp [iy,mX,h3]
     go_wp2_with (first | (go_at_call 27;refine (bq _ _ _ _).mono ?_;rintro e w' ⟨rfl,hw'⟩;have hw2:=hw'.symm;subst hw2) | (go_at_call 56;refine (lB _ _ _).mono ?_;rintro e w' ⟨rfl,hw'⟩;have hw2:=hw'.symm;subst hw2))
     have D:=R.out.putC (tc (t)).toList rfl
     have K:=aa.putC (b:=w.heap.size+1) (by omega) (tc (t)).toList 0 K1.out
     change bodyPost _ _ _ _ _ (putC w1 (w.heap.size+1) 0 (tc (t)).toList)
     generalize putC w1 (w.heap.size+1) 0 (tc (t)).toList=X at D K ⊢
     exact bodyPost_ret (v:=tk (t)) (by simp [results,Tryz.results153,go_sem,D.cells]) rfl ⟨by rw [Hn.out],K⟩
    ·skip
     have H:=(xk t).1 hd
     obtain ⟨v0,v1⟩:=H.v
     obtain ⟨f0,f1⟩:=dq.1 h2
     obtain ⟨d0,d1⟩:=dq.1 h3
     have e1:IntKind.i64.wrap (t.v - eI)=t.v - eI:=Go.IntWalk.i64_in _ (by omega)
     have e2:IntKind.i64.wrap (dst+max (t.v - eI) 0)=dst+max (t.v - eI) 0:=Go.IntWalk.i64_in _ (by omega)
     clear H
     cases h4:decide (100000000 < dst+max (t.v - eI) 0)
     ·have Hn:Hid (iy t cpu eI dst={ t with cpu:=cpu,v:=dst+max (t.v - eI) 0 }):=by show _=_;simp only [iy,mX,hd,h1,h2,h3,h4,Bool.and_true,Bool.not_false,if_true]
      go_wp2_with (first | (go_at_call 27;refine (bq _ _ _ _).mono ?_;rintro e w' ⟨rfl,hw'⟩;have hw2:=hw'.symm;subst hw2) | (go_at_call 56;refine (lB _ _ _).mono ?_;rintro e w' ⟨rfl,hw'⟩;have hw2:=hw'.symm;subst hw2))
      have D:=((R.out.far (c:=w.heap.size) (o:=2) (by omega) (.int .i64 cpu)).far (c:=w.heap.size) (o:=13) (by omega) (.int .i64 (dst+max (t.v - eI) 0))).putC (tc ({ t with cpu:=cpu,v:=dst+max (t.v - eI) 0 })).toList rfl
      have K:=aa.putC (b:=w.heap.size+1) (by omega) (tc ({ t with cpu:=cpu,v:=dst+max (t.v - eI) 0 })).toList 0 ((K1.out.setCell (p:=⟨w.heap.size,2,none⟩) (Nat.le_refl _) (.int .i64 cpu)).setCell (p:=⟨w.heap.size,13,none⟩) (Nat.le_refl _) (.int .i64 (dst+max (t.v - eI) 0)))
      change bodyPost _ _ _ _ _ (putC ((w1.setCell ⟨w.heap.size,2,none⟩ (.int .i64 cpu)).setCell ⟨w.heap.size,13,none⟩ (.int .i64 (dst+max (t.v - eI) 0))) (w.heap.size+1) 0 (tc ({ t with cpu:=cpu,v:=dst+max (t.v - eI) 0 })).toList)
      generalize putC ((w1.setCell ⟨w.heap.size,2,none⟩ (.int .i64 cpu)).setCell ⟨w.heap.size,13,none⟩ (.int .i64 (dst+max (t.v - eI) 0))) (w.heap.size+1) 0 (tc ({ t with cpu:=cpu,v:=dst+max (t.v - eI) 0 })).toList=X at D K ⊢
      exact bodyPost_ret (v:=tk ({ t with cpu:=cpu,v:=dst+max (t.v - eI) 0 })) (by simp [results,Tryz.results153,go_sem,D.cells]) rfl ⟨by rw [Hn.out],K⟩
     ·have Hn:Hid (iy t cpu eI dst=t):=by show _=_;simp only [iy,mX,h4,Bool.and_false,Bool.not_true,Bool.false_eq_true,if_false]
      go_wp2_with (first | (go_at_call 27;refine (bq _ _ _ _).mono ?_;rintro e w' ⟨rfl,hw'⟩;have hw2:=hw'.symm;subst hw2) | (go_at_call 56;refine (lB _ _ _).mono ?_;rintro e w' ⟨rfl,hw'⟩;have hw2:=hw'.symm;subst hw2))
      have D:=R.out.putC (tc (t)).toList rfl
      have K:=aa.putC (b:=w.heap.size+1) (by omega) (tc (t)).toList 0 K1.out
      change bodyPost _ _ _ _ _ (putC w1 (w.heap.size+1) 0 (tc (t)).toList)
      generalize putC w1 (w.heap.size+1) 0 (tc (t)).toList=X at D K ⊢
      exact bodyPost_ret (v:=tk (t)) (by simp [results,Tryz.results153,go_sem,D.cells]) rfl ⟨by rw [Hn.out],K⟩
def Ek:Prop:=∀ (t:ar) (w:World),Calls Tryz.prog 169 #[tk t] w fun e w'=>e = .returned (.tuple #[sh (iC t) (iD t),.bool (cq t)]) /\ aa w w'
end
variable {p p':Bool}
attribute [local go_sem] aa.refl aa.alloc aa.drew aa.drewN
section
variable {P:Program} {ops:Array Oper} {Q:Exit->Act->World->Prop} {md:Region.Mode} {S:World->Prop} {L:Nat}
def iW (P:Program) (md:Region.Mode) (ops:Array Oper) (Q:Exit->Act->World->Prop) (S:World->Prop) (L:Nat):Nat->Array Bool->Act->World->Prop
 | 0,listed,a,w=>Region.ready md ops listed=[] /\ Q .normal a w
 | n+1,listed,a,w=>(Region.ready md ops listed=[]->Q .normal a w) /\ ∀ i∈Region.ready md ops listed,wpOp P ops Q i (fun a' w'=>((listed.setIfInBounds i true).getD L true=false->S w') /\ iW P md ops Q S L n (listed.setIfInBounds i true) a' w') a w
theorem xp:∀ (n:Nat) (listed:Array Bool) (a:Act) (w:World),iW P md ops Q S L n listed a w->wpAny P md ops Q n listed a w
 | 0,_,_,_,h=>h
 | n+1,_,_,_,h=>⟨h.1,fun i hi=>wpOp_mono (fun a' w' h'=>xp n _ a' w' h'.2) (h.2 i hi)⟩
theorem tG {T:World->Prop} {i:Nat} {oi:Oper} {v:Value} (tH:i≠L) (hi:ops[i]?=some oi) (hsel:∀ (j:Nat) (o:Oper) cs b,ops[j]?=some o->o.op ≠ .select cs b) (hL:(∀ w,T w)∨(T=S /\ lz md ops L i=true))
  (hQ:∀ c a w,Q (.panic c) (a.put oi.dst v) w->Q (.panic c) a w) :
  ∀ (n:Nat) (listed:Array Bool) (a:Act) (w:World),(∀ j oj,ops[j]?=some oj->j≠i->listed.getD j true=false->(∀ e∈oj.after,Region.binds md e=true->e.on≠i)->oi.apart ops oj=true) ->
   i∈Region.ready md ops listed->YieldsIf P ops T oi v a->(listed.getD L true=false->S w)->((∀ w,T w)∨listed.getD L true=false)->iW P md ops Q S L n (listed.setIfInBounds i true) (a.put oi.dst v) w->iW P md ops Q S L (n+1) listed a w
 | n,listed,a,w,hfree,hr,hy,hS,hN,H=>by
  have hT:T w:=by
   rcases hL with h | ⟨h,-⟩
   ·exact h w
   ·rcases hN with h2 | h2
    ·exact h2 w
    ·rw [h];exact hS h2
  have El:(listed.setIfInBounds i true).getD L true=false->S w:=fun e=>hS (by rw [getD_set_ne true tH] at e;exact e)
  refine ⟨fun h=>(by rw [h] at hr;cases hr),fun j hj => ?_⟩
  by_cases hji:j=i
  ·subst hji;exact hy.wpOp hi hT ⟨El,H⟩
  ·cases n with
   | zero =>
    have:=ready_mono hj hji
    rw [H.1] at this
    cases this
   | succ n =>
    have h1:=H.2 j (ready_mono hj hji)
    obtain ⟨hjun,oj,hoj,hall⟩:=mem_ready.1 hj
    have hnot:∀ e∈oj.after,Region.binds md e=true->e.on≠i:=fun e he hb heq=>by
     have h1:=hall e he hb
     have h0:=(mem_ready.1 hr).1
     rw [heq] at h1
     rcases Nat.lt_or_ge i listed.size with h' | h'
     ·simp [h'] at h0 h1;rw [h0] at h1;cases h1
     ·simp [Array.getElem?_eq_none h'] at h1
    have h2:=wpOp_putIf hoj (hfree j oj hoj hji hjun hnot) (fun cs b=>hsel i oi cs b hi) (fun cs b=>hsel j oj cs b hoj) hQ hy h1
    have hfree':∀ k ok,ops[k]?=some ok->k≠i->(listed.setIfInBounds j true).getD k true=false->(∀ e∈ok.after,Region.binds md e=true->e.on≠i)->oi.apart ops ok=true:=fun k ok hk hki hun hno=>by
     refine hfree k ok hk hki ?_ hno
     by_cases hjk:j=k
     ·subst hjk;exact hjun
     ·rw [getD_set_ne true hjk] at hun;exact hun
    have hN':(∀ w,T w)∨(listed.setIfInBounds j true).getD L true=false:=by
     rcases hN with h | h
     ·exact .inl h
     ·rcases hL with h3 | ⟨-,h3⟩
      ·exact .inl h3
      ·have pG:j≠L:=fun e=>s8 h3 hr (e ▸ hj)
       exact .inr (by rw [getD_set_ne true pG];exact h)
    refine wpOp_mono (fun a' w' h3 => ?_) h2
    have hS':(listed.setIfInBounds j true).getD L true=false->S w':=fun e=>h3.2.1 (by rw [Array.setIfInBounds_comm _ _ (Ne.symm hji),getD_set_ne true tH];exact e)
    refine ⟨hS',tG tH hi hsel hL hQ n (listed.setIfInBounds j true) a' w' hfree' (ready_mono hr (Ne.symm hji)) h3.1 hS' hN' ?_⟩
    rw [Array.setIfInBounds_comm _ _ hji]
    exact h3.2.2
theorem Em {i:Nat} {oi:Oper} {v:Value} {n:Nat} {listed:Array Bool} {a:Act} {w:World} (hi:ops[i]?=some oi)
  (hs:Region.noSelect ops=true) (hf:Region.free md ops listed i=true) (hr:(Region.ready md ops listed).contains i=true) (hL:(lz md ops L i&&i != L && !listed.getD L true)=true)
  (hQ:∀ c a w,Q (.panic c) (a.put oi.dst v) w->Q (.panic c) a w) (hy:YieldsIf P ops S oi v a) (hS:S w)
  (h:iW P md ops Q S L n (listed.setIfInBounds i true) (a.put oi.dst v) w):iW P md ops Q S L (n+1) listed a w:=by
 simp only [Bool.and_eq_true,bne_iff_ne,ne_eq,Bool.not_eq_true'] at hL
 exact tG hL.1.2 hi (Region.noSelect_spec hs) (.inr ⟨rfl,hL.1.1⟩) hQ n listed a w (Region.free_spec hi hf) (by simpa using hr) hy (fun _=>hS) (.inr hL.2) h
theorem mV {i:Nat} {R:List Nat} {oi:Oper} {v:Value} {n:Nat} {listed:Array Bool} {a:Act} {w:World} (hi:ops[i]?=some oi:=by simp only [iM];rfl)
  (hb:(Region.noSelect ops&&Region.free md ops listed i&&(Region.ready md ops listed).contains i&&(lz md ops L i&&i != L && !listed.getD L true))=true:=by kernel_rfl) (hQ:∀ c a w,Q (.panic c) (a.put oi.dst v) w->Q (.panic c) a w:=by exact fun _ _ _ h=>h) (hg:Region.wanted oi (yielded ops a.tmps)=true:=by rfl) (hS:S w:=by assumption)
  (hy:∀ w,S w->(execOp a.eval oi).run P w = .ok (.value v) w:=by intro w _;go_simp;try (with_reducible rfl)) (h:ad R (iW P md ops Q S L n (listed.setIfInBounds i true) (a.put oi.dst v) w)):ad (i::R) (iW P md ops Q S L (n+1) listed a w):=by
 rw [Bool.and_eq_true] at hb
 obtain ⟨h1,h2⟩:=hb
 simp only [Bool.and_eq_true] at h1
 exact Em hi h1.1.1 h1.1.2 h1.2 h2 hQ (Or.inl ⟨hg,hy⟩) hS h
theorem CV {i:Nat} {oi:Oper} {v:Value} {n:Nat} {listed:Array Bool} {a:Act} {w:World} (hi:ops[i]?=some oi)
  (hs:Region.noSelect ops=true) (hf:Region.free md ops listed i=true) (hr:(Region.ready md ops listed).contains i=true) (hL:(i != L)=true)
  (hQ:∀ c a w,Q (.panic c) (a.put oi.dst v) w->Q (.panic c) a w) (hy:YieldsIf P ops (fun _=>True) oi v a) (hS:S w)
  (h:iW P md ops Q S L n (listed.setIfInBounds i true) (a.put oi.dst v) w):iW P md ops Q S L (n+1) listed a w :=
 tG (T:=fun _=>True) (by simpa using hL) hi (Region.noSelect_spec hs) (.inl fun _=>trivial) hQ n listed a w (Region.free_spec hi hf) (by simpa using hr) hy (fun _=>hS) (.inl fun _=>trivial) h
theorem wk {i:Nat} {o:Oper} {n:Nat} {listed:Array Bool} {a:Act} {w:World} (hr:Region.ready md ops listed=[i]:=by kernel_rfl) (ho:ops[i]?=some o:=by simp only [iM];rfl)
  (h:∀ K':Act->World->Prop,Shut (∀ a w,S w->(S w->iW P md ops Q S L n (listed.setIfInBounds i true) a w)->K' a w)->if Region.wanted o (yielded ops a.tmps)=true then Oper.wp P o a w K' Q else K' (a.put o.dst undef) w):iW P md ops Q S L (n+1) listed a w:=by
 refine ⟨fun e=>absurd (hr ▸ e) (by simp),fun j hj => ?_⟩
 rw [hr] at hj
 obtain rfl:j=i:=by simpa using hj
 exact wpOp_step ho (fun K' hK=>h K' (fun a w hS hW=>hK a w ⟨fun _=>hS,hW hS⟩))
theorem CW {o:Oper} {n:Nat} {listed:Array Bool} {a:Act} {w:World} (hr:Region.ready md ops listed=[L]:=by kernel_rfl) (ho:ops[L]?=some o:=by simp only [iM];rfl) (hd:Region.ready md ops (listed.setIfInBounds L true)=[]:=by kernel_rfl)
  (h:∀ K':Act->World->Prop,Shut (∀ a w,Q .normal a w->K' a w)->if Region.wanted o (yielded ops a.tmps)=true then Oper.wp P o a w K' Q else K' (a.put o.dst undef) w):iW P md ops Q S L (n+1) listed a w:=by
 refine ⟨fun e=>absurd (hr ▸ e) (by simp),fun j hj => ?_⟩
 rw [hr] at hj
 obtain rfl:j=L:=by simpa using hj
 refine wpOp_step ho (fun K' hK=>h K' (fun a w hW=>hK a w ⟨fun e => ?_,?_⟩))
 ·exfalso
  by_cases hlt:j < listed.size
  ·simp [hlt] at e
  ·simp [hlt] at e
 ·cases n with
  | zero=>exact ⟨hd,hW⟩
  | succ n=>exact ⟨fun _=>hW,by rw [hd];simp⟩
theorem CU (L:Nat) {id:Nat} {a:Act} {w:World} (hm:P.follows .mixedOrders=true) (hS:S w.drew)
  (h:S w.drew->iW P .any ops Q S L ops.size (Array.replicate ops.size false) a w.drew):(Code.region id ops true).wp P Q a w :=
 wp_region_any hm (xp _ _ _ _ (h hS))
end
structure Gh where
 cpu:Int
 q:Int
 p:Int
 eX:Int
structure Tn where
 cpu:Int
 ctx:Int
 exe:Int
structure Sy where
 now:Int
 az:Int
 tasks:List ar
 ak:List Lk
 af:List Gh
 ax:List Int
 seq:Int
 missed:Int
 trace:List Tn
def Gh.zero:Gh:=⟨0,0,0,0⟩
def Tn.zero:Tn:=⟨0,0,0⟩
def Sy.zero:Sy:=⟨0,0,[],[],[],[],0,0,[]⟩
def jC (ts:List ar) (cpu:Int) (x:Int):Bool:=ct ts x&&(dB ts x).cpu==cpu
def iE (ts:List ar) (l:Lk):Bool:=l.owner==0||(ct ts l.owner&&l.waits.all (jC ts (dB ts l.owner).cpu))
def gQ (s:Sy):Bool:=s.ak.length==5&&(du s.ak&&s.ak.all (iE s.tasks))
def eE (cpu:Int) (t:ar):Bool:=t.cpu==cpu&&t.cls==1
def gg (t:ar):Int × Int:=(t.q,t.p)
def df (cpu:Int) (g:Gh):Bool:=g.cpu==cpu
def gZ (g:Gh):Int × Int:=(g.q,g.p)
def dH (s:Sy) (cpu:Int):List (Int × Int):=(s.tasks.filter (eE cpu)).map gg++(s.af.filter (df cpu)).map gZ
def jD (az:Int) (g:Gh):Bool:=aH g.cpu 0 (az - 1)&&(okB g.q g.p&&aH g.eX 0 100040)
def iX (s:Sy):Bool:=s.af.all (jD s.az)&&decide (s.af.length <= 12)
def ji (xs:List (Int × Int)):Bool:=g8 xs&&decide ((Plain.cD xs).1 <= (Plain.cD xs).2)
def jE (s:Sy):Bool:=aH s.now 0 100000&&(aH s.az 1 4&&(dz s.tasks&&(gQ s&&(iX s&&((s.ax.length:Int)==s.az&&(aH s.seq 0 1000000&&(aH s.missed 0 100000&&decide (s.trace.length <= 400))))))))
def lT (s:Sy) (cpu:Int):Int:=if aH cpu 0 ((s.ax.length:Int) - 1) then s.ax.getD cpu.toNat 0 else 0
def fA (s:Sy) (cpu:Nat):Bool:=aH (s.ax.getD cpu 0) 0 100000000&&ji (dH s cpu)
def aY (s:Sy):Bool:=jE s&&(s.tasks.all (fun t=>decide (t.cpu < s.az))&&(List.range s.az.toNat).all (fA s))
def aP (az:Int):Sy:=if aH az 1 4 then { Sy.zero with az:=az,ak:=List.replicate 5 ⟨0,[]⟩,ax:=List.replicate az.toNat 0 } else Sy.zero
def ew (s:Sy) (i no:Int):Bool:=aH i 0 ((s.ak.length:Int) - 1)&&(ct s.tasks no&&(dY s.ak i.toNat==0||(ct s.tasks (dY s.ak i.toNat)&&(dB s.tasks (dY s.ak i.toNat)).cpu==(dB s.tasks no).cpu)))
section
attribute [local go_sem] aa.refl aa.alloc aa.drew aa.drewN
abbrev cP (g:Gh):Array Value:=#[.int .i64 g.cpu,.int .i64 g.q,.int .i64 g.p,.int .i64 g.eX]
abbrev dX (t:Tn):Array Value:=#[.int .i64 t.cpu,.int .i64 t.ctx,.int .i64 t.exe]
theorem ia (g:Gh):(cP g).size=4:=rfl
theorem iv (t:Tn):(dX t).size=3:=rfl
theorem nR (g:Gh):∀ u∈(cP g).toList,u.oneCell'=true:=by
 intro u hu
 simp at hu
 rcases hu with rfl | rfl | rfl | rfl <;> rfl
theorem nT (t:Tn):∀ u∈(dX t).toList,u.oneCell'=true:=by
 intro u hu
 simp at hu
 rcases hu with rfl | rfl | rfl <;> rfl
abbrev Gs (w:World) (a:Option Addr) (gs:List Gh):Prop:=cm 4 cP w a gs
abbrev Rs (w:World) (a:Option Addr) (rs:List Tn):Prop:=cm 3 dX w a rs
theorem En {α:Type} {c:α->Array Value} {sz:Nat} (hc:∀ x,(c x).size=sz) (hsz:0 < sz) (z:α) (n:Nat):(madeCells (c z) (n*sz)).toList=aV c (List.replicate n z):=by
 apply List.ext_getElem?
 intro j
 by_cases hj:j < n*sz
 ·have hq:j / sz < n:=Nat.div_lt_of_lt_mul (by rw [Nat.mul_comm];exact hj)
  have hm:j % sz < sz:=Nat.mod_lt _ hsz
  have hjj:j / sz*sz+j % sz=j:=by rw [Nat.mul_comm];exact Nat.div_add_mod j sz
  have h:=qc6 hc (List.replicate n z) (j / sz) z (by simp [hq]) (j % sz) hm
  rw [hjj] at h
  rw [h]
  simp only [madeCells,Array.getElem?_toList,Array.getElem?_map,Array.getElem?_range,hj,if_true,Option.map_some,hc]
  rw [Array.getElem?_eq_getElem (by rw [hc];exact hm)]
  simp [hc,hm]
 ·rw [List.getElem?_eq_none (by simpa [madeCells] using hj),List.getElem?_eq_none]
  have:=fG hc (List.replicate n z)
  simp at this
  omega
theorem Own.zeros {α:Type} {e:TypeId} {c:α->Array Value} {sz:Nat} (hc:∀ x,(c x).size=sz) (hsz:0 < sz) (z:α) (w:World) (n:Nat) (hn:n <= maxLen) :
  Own e sz c (w.alloc (.cells (madeCells (c z) (n*sz)) e)) w.heap.size (.slice (Option.some ⟨w.heap.size,0,none⟩) n n) (List.replicate n z):=by
 have h:=World.ownsRow_lit (e:=e) (size:=sz) (base:=w.heap.size) w (madeCells (c z) (n*sz)) n (Nat.le_refl _) hn (size_madeCells _ _)
 rw [En hc hsz] at h
 unfold Own
 rw [List.length_replicate]
 exact h
end
def kJ (s:Sy) (t:ar):ar:={ (if iS s.tasks s.ak t.no&&t.idle then lW (iV { t with idle:=false } s.now) (s.ax.getD t.cpu.toNat 0) else t) with idle := !iS s.tasks s.ak t.no }
def eY (s:Sy):Sy:={ s with tasks:=s.tasks.map (kJ s) }
def jF (cpu:Int) (t:ar):Bool:=t.cpu==cpu && !t.idle
def lY (s:Sy) (cpu:Int):List ar:=s.tasks.filter (jF cpu)
def xq (s:Sy) (t:ar):ar:=jm (lX (kI t)) (s.seq+1)
def xr (s:Sy) (t:ar):Bool:=jn (lX (kI t)) (s.seq+1)
def rj (s:Sy) (cpu:Int) (k:Nat) (t:ar):Sy:={ s with seq:=if xr s t then s.seq+1 else s.seq,tasks:=s.tasks.set k (xq s t),trace:=s.trace++[⟨cpu,t.no,ie s.tasks s.ak t.no⟩] }
def fI (s:Sy) (cpu:Int):Sy :=
 if lx s.tasks s.ak cpu < 0 then { s with trace:=s.trace++[⟨cpu,0,0⟩] }
 else rj s cpu (lx s.tasks s.ak cpu).toNat (s.tasks.getD (lx s.tasks s.ak cpu).toNat ar.zero)
def eh (s:Sy):Nat->Sy
 | 0=>s
 | n+1=>fI (eh s n) n
def kK (now:Int) (t:ar):Bool:=t.cls==1&&(!t.idle&&decide (t.due <= now))
def jG (now:Int) (m:Int) (t:ar):Int:=if kK now t&&decide (0 < t.left) then min (m+1) 100000 else m
def iF (now:Int) (t:ar):ar:=if kK now t then jk t now else t
def fi (s:Sy):Sy:={ s with af:=s.af.filter (fun g=>decide (s.now < g.eX)),missed:=s.tasks.foldl (jG s.now) s.missed,tasks:=s.tasks.map (iF s.now) }
def gh (s:Sy):Sy:={ s with ax:=s.ax.mapIdx fun c x=>lV (lY s c) x }
def g9 (s:Sy):Bool:=aY s&&(!(s.now==100000)&&(!decide (900000 < s.seq) && !decide (400 < (s.trace.length:Int)+s.az)))
def pP (s:Sy):Sy:={ s with now:=s.now+1 }
def dF (s:Sy):Sy:=if g9 s then pP (eh (gh (eY (fi s))) s.az.toNat) else if aY s then s else Sy.zero
def fj (s:Sy):Nat->Sy × Nat
 | 0=>(s,0)
 | n+1=>if g9 s then ((fj (dF s) n).1,(fj (dF s) n).2+1) else (s,0)
structure Cl where
 kind:Int
 no:Int
 cpu:Int
 a:Int
 b:Int
def dU (c:Cl):Cl :=
 if c.kind==1||c.kind==2 then c
 else if c.kind==3 then { c with b:=0 }
 else if c.kind==4||c.kind==5||c.kind==6 then { c with cpu:=0,a:=0,b:=0 }
 else if c.kind==7||c.kind==8||c.kind==9 then { c with cpu:=0,b:=0 }
 else if c.kind==10 then { c with a:=0,b:=0 }
 else if c.kind==11 then { c with no:=0,cpu:=0,b:=0 }
 else c
def fh (x y:Cl):Bool:=x.kind==y.kind&&(x.no==y.no&&(x.cpu==y.cpu&&(x.a==y.a&&x.b==y.b)))
def ef (c:Cl):Bool:=aH c.kind 1 11&&fh c (dU c)
def lj (s:Sy) (c:Cl):ar:=if c.kind==1 then j0 c.no c.cpu c.a c.b s.now else if c.kind==2 then dV (fN c.no c.cpu c.a c.b (s.seq+1)) else dV (kE c.no c.cpu c.a (lT s c.cpu))
def pz (s:Sy) (c:Cl):Bool:=if c.kind==1 then kF c.no c.cpu c.a c.b s.now else if c.kind==2 then bN (fN c.no c.cpu c.a c.b (s.seq+1)) else bN (kE c.no c.cpu c.a (lT s c.cpu))
def vQ (s:Sy) (c:Cl):Bool:=dD s.tasks (lj s c)&&(!(c.kind==1)||ji (dH s c.cpu++[(c.a,c.b)]))
def eJ (s:Sy) (c:Cl):Int :=
 if decide (s.az <= c.cpu) || !pz s c then 1 else if ct s.tasks c.no then 3 else if !vQ s c||(c.kind==2&&decide (900000 < s.seq)) then 4 else 0
def im (s:Sy) (c:Cl):Sy:={ s with tasks:=bY s.tasks (lj s c),seq:=if c.kind==2 then s.seq+1 else s.seq }
def jV (s:Sy) (no:Int):Bool:=gO s.ak no || !decide (dS s.ak no < 0)
def f8 (t:ar):Gh:=⟨t.cpu,t.q,t.p,t.due⟩
def je (s:Sy) (t:ar):Bool:=t.cls==1&&decide (s.now < t.due)
def eH (s:Sy) (t:ar):Int:=if jV s t.no then 5 else if je s t&&s.af.length==12 then 4 else 0
def fk (s:Sy) (k:Nat) (t:ar):Sy:={ s with af:=if je s t then s.af++[f8 t] else s.af,tasks:=s.tasks.eraseIdx k }
def jS (s:Sy) (c:Cl) (t:ar):Int :=
 if !aH c.a 0 4 then 2 else if t.st==2||(!decide (dS s.ak c.no < 0)||(dY s.ak c.a.toNat==c.no || !ew s c.a c.no)) then 5 else if cf s.ak c.a c.no==4 then 6 else 0
def sc (s:Sy) (c:Cl):Sy:={ s with ak:=bM s.ak c.a c.no }
def kr (s:Sy) (c:Cl) (t:ar):Int :=
 if !aH c.a 0 4 then 2 else if t.st==2||(!decide (dS s.ak c.no < 0)||dY s.ak c.a.toNat != c.no) then 5 else 0
def oU (s:Sy) (c:Cl):Sy:={ s with ak:=fy s.ak c.a c.no (j3 s.tasks (lD s.ak c.a.toNat)) }
def kT (s:Sy) (c:Cl) (t:ar):Int:=if t.cls != 3||jV s t.no then 5 else if !aH c.cpu 0 (s.az - 1) then 1 else 0
def oV (s:Sy) (c:Cl) (k:Nat) (t:ar):Sy:={ s with tasks:=s.tasks.set k (iy t c.cpu (s.ax.getD t.cpu.toNat 0) (s.ax.getD c.cpu.toNat 0)) }
def kS (s:Sy) (c:Cl) (t:ar):Int :=
 if c.kind==4 then (if t.st==2 || !decide (dS s.ak c.no < 0) then 5 else 0)
 else if c.kind==5 then (if t.st != 2 then 5 else 0)
 else if c.kind==6 then eH s t
 else if c.kind==7 then jS s c t
 else if c.kind==8 then kr s c t
 else if c.kind==9 then (if t.cls != 3 then 5 else if !aH c.a (-4) 4 then 1 else 0)
 else if c.kind==10 then kT s c t
 else 0
def kq (s:Sy) (c:Cl) (k:Nat) (t:ar):Sy :=
 if c.kind==4 then { s with tasks:=s.tasks.set k { t with st:=2 } }
 else if c.kind==5 then { s with tasks:=s.tasks.set k { t with st:=1 } }
 else if c.kind==6 then fk s k t
 else if c.kind==7 then sc s c
 else if c.kind==8 then oU s c
 else if c.kind==9 then { s with tasks:=s.tasks.set k { t with nice:=c.a } }
 else if c.kind==10 then oV s c k t
 else s
def dv (s:Sy) (c:Cl):Int :=
 if c.kind <= 3 then eJ s c
 else if c.kind==11 then (if !aH c.a 1 50 then 1 else if ((fj s c.a.toNat).2:Int) < c.a then 4 else 0)
 else if !ct s.tasks c.no then 2
 else kS s c (dB s.tasks c.no)
def ee (s:Sy) (c:Cl):Sy :=
 if c.kind <= 3 then im s c
 else if c.kind==11 then (fj s c.a.toNat).1
 else kq s c (dc s.tasks c.no).toNat (dB s.tasks c.no)
def gH (s:Sy) (c:Cl):Int:=if aY s&&ef c then dv s c else 1
def fW (s:Sy) (c:Cl):Sy:=if aY s&&ef c then (if dv s c==0 then ee s c else s) else Sy.zero
def bK (s:Sy):List Cl->Sy
 | []=>s
 | c::r=>if gH s c==0 then bK (fW s c) r else bK s r
def runN (s:Sy):List Cl->List Int
 | []=>[]
 | c::r=>gH s c::(if gH s c==0 then runN (fW s c) r else runN s r)
end Go.Proofs.YteagpjlgjfaclaaGreatDoor
