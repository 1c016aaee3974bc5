/-
  Locks: who waits where, as a map; what is right of them by
-/
import Derived.Test.YthpdlbcdbncnhaaGreatDoorGLock2
import Derived.Test.YthpdlbcdbncnhaaGreatDoorGBase2
import Derived.Test.YthpdlbcdbncnhaaGreatDoorGItask1
import Derived.Test.YthpdlbcdbncnhaaGreatDoorGBase1
import Derived.WalkMore
import Derived.Test.YthpdlbcdbncnhaaGreatDoorGLock3
namespace Go.Proofs.YthpdlbcdbncnhaaGreatDoor
set_option maxRecDepth 100000
open Go.RowKit
def addW (at_:Int) (es:List (Int × Int)) (no:Int):List (Int × Int):=if hasM es no then es else es++[(no,at_)]
def addL (at_:Int) (es:List (Int × Int)) (ws:List Int):List (Int × Int):=ws.foldl (addW at_) es
def qa8 (ls:List Lk):Nat->List (Int × Int)
 | 0=>[]
 | k+1=>addL k (qa8 ls k) (match ls[k]? with | some l=>l.waits | none=>[])
def qaH (ls:List Lk):List (Int × Int):=qa8 ls ls.length
theorem qfK {ls:List Lk} {k:Nat} {l:Lk} (h:ls[k]?=some l):qa8 ls (k+1)=addL k (qa8 ls k) l.waits:=by simp [qa8,h]
theorem qlc {at_:Int} {es:List (Int × Int)} {ws:List Int} {j:Nat} {x:Int} (h:ws[j]?=some x):addL at_ es (ws.take (j+1))=addW at_ (addL at_ es (ws.take j)) x:=by
 unfold addL
 rw [List.take_add_one,h,List.foldl_append]
 rfl
theorem qhd (a:Int) (es:List (Int × Int)) (no x:Int):qaG (addW a es no) x=(qaG es x).or (if no==x then some a else none):=by
 unfold addW hasM
 cases h:qaG es no with
 | none =>
  simp only [Option.isSome_none,Bool.false_eq_true,if_false]
  rw [qjH,qjI]
 | some v =>
  simp only [Option.isSome_some,if_true]
  by_cases e:no=x
  ·subst e;rw [h];rfl
  ·rw [if_neg (by simpa using e)];simp
theorem qhe (a:Int):∀ (ws:List Int) (es:List (Int × Int)) (x:Int),qaG (addL a es ws) x=(qaG es x).or (if hasB ws x then some a else none)
 | [],es,x=>by simp [addL,hasB]
 | y::r,es,x=>by
  have ih:=qhe a r (addW a es y) x
  unfold addL at ih ⊢
  rw [List.foldl_cons,ih,qhd]
  have e:hasB (y::r) x=((y==x)||hasB r x):=by simp [hasB]
  rw [e]
  cases qaG es x with
  | some v=>rfl
  | none=>cases c:(y==x) <;> simp
theorem qfL (ls:List Lk):∀ (k:Nat),k <= ls.length->∀ x,qaG (qa8 ls k) x=(qax (ls.take k) x).map fun i:Nat=>(i:Int)
 | 0,_,x=>by simp [qa8,qaG,qax]
 | k+1,hk,x=>by
  obtain ⟨l,hl⟩:=qai (xs:=ls) (k:=k) (by omega)
  rw [qfK hl,qhe,qfL ls k (by omega) x]
  unfold qax
  rw [List.take_add_one,hl,List.findIdx?_append]
  cases h:List.findIdx? (fun l=>hasB l.waits x) (ls.take k) with
  | some i=>rfl
  | none =>
   simp only [Option.toList_some,List.findIdx?_singleton,Option.map_none,Option.none_or,List.length_take]
   cases hb:hasB l.waits x
   ·rfl
   ·simp;omega
theorem qhf (ls:List Lk) (x:Int):qaG (qaH ls) x=(qax ls x).map fun i:Nat=>(i:Int):=by
 have:=qfL ls ls.length (Nat.le_refl _) x
 rwa [List.take_length] at this
theorem qld {ls:List Lk} {x:Int} (h:qax ls x=none):hasM (qaH ls) x=false:=by unfold hasM;rw [qhf,h];rfl
theorem qhg {ls:List Lk} {x:Int} {i:Nat} (h:qax ls x=some i):hasM (qaH ls) x=true /\ valM (qaH ls) x=(i:Int):=by
 unfold hasM valM
 rw [qhf,h]
 exact ⟨rfl,rfl⟩
theorem qhh (a:Int):∀ (ws:List Int) (es:List (Int × Int)),(addL a es ws).length <= es.length+ws.length /\ ((addL a es ws).length=es.length+ws.length↔(∀ x∈ws,qaG es x=none) /\ ws.Nodup)
 | [],es=>by simp [addL]
 | y::r,es=>by
  have ih:=qhh a r (addW a es y)
  have e1:addL a es (y::r)=addL a (addW a es y) r:=rfl
  rw [e1]
  cases h:qaG es y with
  | some v =>
   have e2:addW a es y=es:=by unfold addW hasM;rw [h];rfl
   rw [e2] at ih ⊢
   refine ⟨by simp only [List.length_cons];omega,fun hh => ?_,fun hh => ?_⟩
   ·simp only [List.length_cons] at hh;omega
   ·have:=hh.1 y (List.mem_cons_self ..);rw [h] at this;cases this
  | none =>
   have e2:addW a es y=es++[(y,a)]:=by unfold addW hasM;rw [h];rfl
   have e3:(addW a es y).length=es.length+1:=by rw [e2];simp
   rw [e3] at ih
   refine ⟨by simp only [List.length_cons];omega,?_⟩
   have e4:(addL a (addW a es y) r).length=es.length+(y::r).length↔(addL a (addW a es y) r).length=es.length+1+r.length:=by simp only [List.length_cons];omega
   rw [e4,ih.2,List.nodup_cons]
   have e5:∀ x,qaG (addW a es y) x=none↔qaG es x=none /\ y≠x:=by
    intro x
    rw [qhd]
    cases qaG es x with
    | some v=>simp
    | none=>by_cases c:y=x <;> simp [c]
   constructor
   ·rintro ⟨h1,h2⟩
    refine ⟨fun x hx => ?_,fun hm=>((e5 y).1 (h1 y hm)).2 rfl,h2⟩
    rcases List.mem_cons.1 hx with rfl | hx
    ·exact h
    ·exact ((e5 x).1 (h1 x hx)).1
   ·rintro ⟨h1,h2,h3⟩
    exact ⟨fun x hx=>(e5 x).2 ⟨h1 x (List.mem_cons_of_mem _ hx),fun e=>h2 (e ▸ hx)⟩,h3⟩
theorem qhi (ls:List Lk):∀ k,k <= ls.length->(qa8 ls k).length <= sumW (ls.take k) /\ ((qa8 ls k).length=sumW (ls.take k)↔(allW (ls.take k)).Nodup)
 | 0,_=>by simp [qa8,sumW,allW]
 | k+1,hk=>by
  obtain ⟨l,hl⟩:=qai (xs:=ls) (k:=k) (by omega)
  have ih:=qhi ls k (by omega)
  have h2:=qhh k l.waits (qa8 ls k)
  have e0:allW (ls.take (k+1))=allW (ls.take k)++l.waits:=by rw [List.take_add_one,hl,qna];simp [allW]
  rw [qfK hl,qeC hl,e0,List.nodup_append]
  refine ⟨by omega,?_⟩
  have e1:(addL k (qa8 ls k) l.waits).length=sumW (ls.take k)+l.waits.length↔(addL k (qa8 ls k) l.waits).length=(qa8 ls k).length+l.waits.length /\ (qa8 ls k).length=sumW (ls.take k):=by omega
  rw [e1,h2.2,ih.2]
  have e2:∀ x,qaG (qa8 ls k) x=none↔x ∉ allW (ls.take k):=by
   intro x
   rw [qfL ls k (by omega),Option.map_eq_none_iff,qia]
  constructor
  ·rintro ⟨⟨h3,h4⟩,h5⟩
   exact ⟨h5,h4,fun a ha b hb e=>(e2 b).1 (h3 b hb) (e ▸ ha)⟩
  ·rintro ⟨h3,h4,h5⟩
   exact ⟨⟨fun x hx=>(e2 x).2 fun hm=>h5 x hm x hx rfl,h4⟩,h3⟩
theorem qhj (ls:List Lk):(qaH ls).length <= sumW ls /\ ((qaH ls).length=sumW ls↔(allW ls).Nodup):=by
 have:=qhi ls ls.length (Nat.le_refl _)
 rwa [List.take_length] at this
def qbr (l:Lk):Bool:=l.waits.all (fun x=>inB x 1 1000)&&(inB l.owner 0 1000&&(!(l.owner==0)||l.waits.length==0))
theorem qle (ls:List Lk):(decide (ls.length <= 5)&&(ls.all qbr&&(decide ((qaH ls).length=sumW ls)&&ls.all fun l=>(qam ls (ls.length+1) l.owner).2)))=qav ls:=by
 apply Bool.eq_iff_iff.2
 rw [qec]
 simp only [Bool.and_eq_true,decide_eq_true_eq,List.all_eq_true,(qhj ls).2,qf8]
 have atm:∀ {j:Nat} {l:Lk},ls[j]?=some l->l∈ls:=fun h=>List.mem_of_getElem? h
 constructor
 ·rintro ⟨h1,h2,h3,h4⟩
  have key:∀ l∈ls,(∀ x∈l.waits,1 <= x /\ x <= 1000) /\ (0 <= l.owner /\ l.owner <= 1000) /\ (l.owner=0->l.waits=[]):=by
   intro l hl
   have:=h2 l hl
   simp only [qbr,Bool.and_eq_true,List.all_eq_true,qap,Bool.or_eq_true,Bool.not_eq_true',beq_eq_false_iff_ne,beq_iff_eq,List.length_eq_zero_iff] at this
   refine ⟨this.1,this.2.1,fun e => ?_⟩
   rcases this.2.2 with h | h
   ·exact absurd e h
   ·exact h
  refine ⟨h1,fun j l hl=>(key l (atm hl)).2.1,fun j l hl=>(key l (atm hl)).2.2,fun j l x hl hx=>(key l (atm hl)).1 x (qb9.1 hx),fun j l x hl hx => ?_,fun j l x hl hx => ?_⟩
  ·rw [qf7];exact h3 x (qd8.2 ⟨j,l,hl,hx⟩)
  ·cases hw:qax ls x with
   | none=>exact absurd (qd8.2 ⟨j,l,hl,hx⟩) (qia.1 hw)
   | some i =>
    obtain ⟨m,hm,-,-⟩:=qda hw
    obtain ⟨c,hc⟩:=qfb.1 (h4 m (atm hm))
    exact ⟨_,Ends.step hw (by rw [qbS hm];exact hc)⟩
 ·intro R
  have mem:∀ {l:Lk},l∈ls->∃ j:Nat,ls[j]?=some l:=fun hl=>by
   obtain ⟨j,hj,rfl⟩:=List.mem_iff_getElem.1 hl
   exact ⟨j,List.getElem?_eq_getElem hj⟩
  refine ⟨R.len,fun l hl => ?_,fun x hx => ?_,fun l hl => ?_⟩
  ·obtain ⟨j,hj⟩:=mem hl
   simp only [qbr,Bool.and_eq_true,List.all_eq_true,qap,Bool.or_eq_true,Bool.not_eq_true',beq_eq_false_iff_ne,beq_iff_eq,List.length_eq_zero_iff]
   refine ⟨fun x hx=>R.no j l x hj (qb9.2 hx),R.owner j l hj,?_⟩
   by_cases e:l.owner=0
   ·exact .inr (R.free j l hj e)
   ·exact .inl e
  ·obtain ⟨j,l,hj,hx⟩:=qd8.1 hx
   rw [<- qf7];exact R.once j l x hj hx
  ·rw [qfb]
   cases hw:qax ls l.owner with
   | none=>exact ⟨_,Ends.stop hw⟩
   | some i =>
    obtain ⟨m,hm,hx,-⟩:=qda hw
    exact R.ends i m l.owner hm hx
variable {p:Bool}
attribute [local go_sem] Keeps.refl Keeps.alloc Keeps.drew Keeps.drewN
theorem qex (w:World):(zeroValue 3).run Tryz.prog w = .ok (.int .i64 0) w:=by kernel_rfl
set_option maxHeartbeats 1000000 in
theorem qlf (a:Option Addr) (cap:Nat) (xs:List Int) (x:Int) (w:World) (hl:xs.length <= maxLen) (hs:Ns w a xs) :
  Calls Tryz.prog 153 #[.slice a xs.length cap,.int .i64 x] w fun e w'=>∃ i:Int,e = .returned (.int .i64 i) /\ decide (0 <= i)=hasB xs x /\ Keeps w w':=by
 unfold maxLen at hl
 generalize hn:xs.length=n at hl
 have Hn:Hid (xs.length=n):=hn
 clear hn
 go_enter Tryz.func153,Tryz.ntmps153
 go_wp2
 go_loopw [8] (fun i wr=>∃ k:Nat,k <= n /\ i = .int .i64 k /\ Keeps w wr /\ Hid (∀ (j:Nat) (y:Int),j < k->xs[j]?=some y->(y==x)=false)) (fun i _=>n - (intOf i).toNat)
 case atStart=>exact ⟨0,Nat.zero_le _,rfl,Keeps.refl _,fun j y hj=>by omega⟩
 case round =>
  obtain ⟨k,hk,rfl,hK,H⟩:=hrel
  by_cases hlt:k < n
  ·obtain ⟨y,hy⟩:=qai (xs:=xs) (k:=k) (by rw [Hn.out];exact hlt)
   obtain ⟨b,off,rfl,r0⟩:=hs.at hy
   have hlt':(k:Int) < (n:Int):=by omega
   have Hy:Hid (xs[k]?=some y):=hy
   clear hs hy
   have hsym:(x==y)=(y==x):=Bool.beq_comm
   cases hq:(y==x)
   ·rw [hq] at hsym
    go_wp2
    exact ⟨⟨k+1,by omega,by go_num,hK,fun j s hj hs=>by
     by_cases e:j=k
     ·subst e;rw [Hy.out] at hs;cases hs;exact hq
     ·exact H.out j s (by omega) hs⟩,by simp only [intOf];omega⟩
   ·rw [hq] at hsym
    have Hr:Hid (hasB xs x=true):=qh2 Hy.out hq
    go_wp2
    go_ret
    exact ⟨_,rfl,by rw [Hr.out];simp,hK⟩
  ·have Hr:Hid (hasB xs x=false):=qh3 fun j y hy=>H.out j y (by have:=qas hy;rw [Hn.out] at this;omega) hy
   go_wp2
   go_ret
   exact ⟨_,rfl,by rw [Hr.out];simp,hK⟩
theorem qlg (a:Option Addr) (cap:Nat) (xs:List Int) (x:Int) (w:World) (hl:xs.length <= maxLen) (hs:Ns w a xs) :
  Calls Tryz.prog 107 #[.slice a xs.length cap,.int .i64 x] w fun e w'=>e = .returned (.bool (hasB xs x)) /\ Keeps w w':=by
 have C:=qlf a cap xs x w hl hs
 obtain ⟨n,Hn⟩:∃ n,Hid (xs.length=n):=⟨_,rfl⟩
 rw [Hn.out] at C ⊢
 go_enter Tryz.func107,Tryz.ntmps107
 go_wp2_with (go_at_call 153;refine C.mono ?_;rintro e w1 ⟨i,rfl,hi,k1⟩;have Hi:Hid (decide (0 <= i)=hasB xs x):=hi;clear hi)
 go_ret
 exact ⟨by rw [<- Hi.out];rfl,k1⟩
set_option maxHeartbeats 1000000 in
theorem qlh (a:Option Addr) (cap:Nat) (ls:List Lk) (w:World) (hl:qak ls <= 2097152) (hs:Lks p w a ls) :
  Calls Tryz.prog 208 #[.slice a ls.length cap] w fun e w'=>e = .returned (.int .i64 (sumW ls)) /\ Keeps w w':=by
 have HL:Hid (qak ls <= 2097152):=hl
 have hl0:ls.length <= 2097152:=by unfold qak at hl;omega
 clear hl
 generalize hn:ls.length=n at hl0
 have Hn:Hid (ls.length=n):=hn
 clear hn
 go_enter Tryz.func208,Tryz.ntmps208
 go_wp2
 go_loopw [3,8] (fun c i wr=>∃ (k q:Nat),k <= n /\ i = .int .i64 k /\ c = .int .i64 q /\ Hid (sumW (ls.take k)=q) /\ q <= 2097152 /\ Keeps w wr) (fun _ i _=>n - (intOf i).toNat)
 case atStart=>exact ⟨0,0,Nat.zero_le _,rfl,rfl,by show _=_;simp [sumW],by omega,Keeps.refl _⟩
 case round =>
  obtain ⟨k,q,hk,rfl,rfl,Hq,hq1,hK⟩:=hrel
  by_cases hlt:k < n
  ·obtain ⟨l,hl1⟩:=qai (xs:=ls) (k:=k) (by rw [Hn.out];exact hlt)
   obtain ⟨b,off,a',cap',rfl,r0,r1,hle,hns⟩:=hs.at hl1
   have hlt':(k:Int) < (n:Int):=by omega
   have Hl:Hid (ls[k]?=some l):=hl1
   have hw2:Hid (q+l.waits.length <= 2097152):=by
    show _ <= _
    have h1:=qeC hl1
    have h2:=qf4 ls (k+1)
    have h4:=HL.out
    rw [Hq.out] at h1
    unfold qak at h4
    omega
   clear hl1 hle hns hs
   obtain ⟨m,Hm⟩:∃ m:Nat,Hid (l.waits.length=m):=⟨_,rfl⟩
   have hm2:q+m <= 2097152:=by rw [<- Hm.out];exact hw2.out
   rw [Hm.out] at r1
   go_wp2
   exact ⟨⟨k+1,q+m,by omega,by go_num,by go_num,by show _=_;rw [qeC Hl.out,Hq.out,Hm.out],by omega,hK.alloc _⟩,by simp only [intOf];omega⟩
  ·have e:k=n:=by omega
   subst e
   have Hr:Hid (sumW ls=q):=by show _=_;rw [<- Hq.out,<- Hn.out,List.take_length]
   go_wp2
   go_ret
   exact ⟨by rw [Hr.out];rfl,hK⟩
set_option maxHeartbeats 4000000 in
theorem qhk (a:Option Addr) (cap:Nat) (ls:List Lk) (w:World) (hl:qak ls <= 2097152) (hs:Lks p w a ls) :
  Calls Tryz.prog 207 #[.slice a ls.length cap] w fun e w'=>e = .returned (.map (some w.heap.size)) /\ MapI w' w.heap.size (qaH ls) /\ Keeps w w':=by
 have HL:Hid (qak ls <= 2097152):=hl
 have hl0:ls.length <= 2097152:=by unfold qak at hl;omega
 clear hl
 have HS:Hid (Lks p w a ls):=hs
 clear hs
 generalize hn:ls.length=n at hl0
 have Hn:Hid (ls.length=n):=hn
 clear hn
 have hmm := @run_makeMap Tryz.prog
 go_enter Tryz.func207,Tryz.ntmps207
 go_wp2
 clear hmm
 have kz:Hid (Keeps w (w.alloc (.map #[] 0))):=(Keeps.refl _).alloc _
 have M0:Hid (MapI (w.alloc (.map #[] 0)) w.heap.size []):=MapI.made w
 generalize w.alloc (.map #[] 0)=W at *
 go_loopw [13] (fun i wr=>∃ (k:Nat),k <= n /\ i = .int .i64 k /\ Hid (MapI wr w.heap.size (qa8 ls k)) /\ Keeps w wr) (fun i _=>n - (intOf i).toNat)
 case atStart=>exact ⟨0,Nat.zero_le _,rfl,M0,kz.out⟩
 case round =>
  obtain ⟨k,hk,rfl,M,hK⟩:=hrel
  clear M0 kz
  by_cases hlt:k < n
  ·obtain ⟨l,hl1⟩:=qai (xs:=ls) (k:=k) (by rw [Hn.out];exact hlt)
   obtain ⟨b,off,a',cap',rfl,r0,r1,hle,hns⟩:=HS.out.at hl1
   have hlt':(k:Int) < (n:Int):=by omega
   have Hl:Hid (ls[k]?=some l):=hl1
   have hw1:Hid (l.waits.length <= 2097152):=by show _ <= _;have:=qdu hl1;have:=HL.out;unfold qak at this;omega
   clear hl1 hle
   obtain ⟨m,Hm⟩:∃ m:Nat,Hid (l.waits.length=m):=⟨_,rfl⟩
   have hm1:m <= 2097152:=by rw [<- Hm.out];exact hw1.out
   rw [Hm.out] at r1
   have M1:Hid (∀ o,MapI (wr.alloc o) w.heap.size (qa8 ls k)):=fun o=>M.out.keeps ((Keeps.refl wr).alloc o)
   go_wp2
   go_loopw [21] (fun i w2=>∃ (j:Nat),j <= m /\ i = .int .i64 j /\ Hid (MapI w2 w.heap.size (addL k (qa8 ls k) (l.waits.take j))) /\ Keeps w w2) (fun i _=>m - (intOf i).toNat)
   case atStart=>exact ⟨0,Nat.zero_le _,rfl,M1.out _,hK.alloc _⟩
   case round =>
    obtain ⟨j,hj,rfl,M2,hK2⟩:=hrel
    clear M M1
    by_cases hlt2:j < m
    ·obtain ⟨x,hx⟩:=qai (xs:=l.waits) (k:=j) (by rw [Hm.out];exact hlt2)
     obtain ⟨b2,off2,rfl,x0⟩:=hns.at hx
     have hlt3:(j:Int) < (m:Int):=by omega
     have Hx:Hid (l.waits[j]?=some x):=hx
     clear hns hx
     obtain ⟨E,HE⟩:∃ E,Hid (addL k (qa8 ls k) (l.waits.take j)=E):=⟨_,rfl⟩
     rw [HE.out] at M2
     have HN:Hid (addL k (qa8 ls k) (l.waits.take (j+1))=addW k E x):=by show _=_;rw [qlc Hx.out,HE.out]
     obtain ⟨v,Hv⟩:∃ v,Hid (valM E x=v):=⟨_,rfl⟩
     cases hq:hasM E x
     ·have Hq:Hid (qaG E x=none):=by show _=_;unfold hasM at hq;simpa using hq
      have HQ:Hid (hasM E x=false):=hq
      have HA:Hid (addW k E x=E++[(x,(k:Int))]):=by show _=_;unfold addW;rw [hq];rfl
      clear hq
      go_wp2_with (first
       | (at_lookup;refine qev rfl _ _ 243 rfl 3 3 Tryz.underlying243 Tryz.underlying3 (qex _) w.heap.size E rfl M2.out x rfl v false Hv.out HQ.out ?_)
       | (at_mapUpdate;refine qjJ rfl _ _ _ 243 rfl 3 3 Tryz.underlying243 Tryz.underlying3 w.heap.size E rfl M2.out x k rfl rfl Hq.out ?_;intro w5 m5 g5;have M5:Hid (MapI w5 w.heap.size (E++[(x,(k:Int))])):=m5;have K5:Hid (Keeps w w5):=hK2.grown g5 (by rintro q ⟨⟩;exact Nat.le_refl _);clear m5 g5))
      exact ⟨⟨j+1,by omega,by go_num,by show MapI _ _ _;rw [HN.out,HA.out];exact M5.out,K5.out⟩,by simp only [intOf];omega⟩
     ·have HQ:Hid (hasM E x=true):=hq
      have HA:Hid (addW k E x=E):=by show _=_;unfold addW;rw [hq];rfl
      clear hq
      go_wp2_with (first
       | (at_lookup;refine qev rfl _ _ 243 rfl 3 3 Tryz.underlying243 Tryz.underlying3 (qex _) w.heap.size E rfl M2.out x rfl v true Hv.out HQ.out ?_))
      exact ⟨⟨j+1,by omega,by go_num,by show MapI _ _ _;rw [HN.out,HA.out];exact M2.out,hK2⟩,by simp only [intOf];omega⟩
    ·have e:j=m:=by omega
     subst e
     have HN:Hid (qa8 ls (k+1)=addL k (qa8 ls k) (l.waits.take j)):=by show _=_;rw [qfK Hl.out,<- Hm.out,List.take_length]
     go_wp2
     exact ⟨⟨k+1,by omega,by go_num,by show MapI _ _ _;rw [HN.out];exact M2.out,hK2⟩,by simp only [intOf];omega⟩
  ·have e:k=n:=by omega
   subst e
   have HR:Hid (qa8 ls k=qaH ls):=by show _=_;unfold qaH;rw [Hn.out]
   rw [HR.out] at M
   go_wp2
   go_ret
   exact ⟨rfl,M.out,hK⟩
def qhl:Value->Nat
 | .slice _ n _=>n
 | _=>0
set_option maxHeartbeats 4000000 in
theorem qhm (B:Nat) (a:Option Addr) (cap:Nat) (ls:List Lk) (no:Int) (w:World) (hl:ls.length <= 2097152) (hs:Lks p w a ls) (hm:MapI w B (qaH ls)) :
  Calls Tryz.prog 226 #[.map (some B),.int .i64 no,.slice a ls.length cap] w fun e w'=>∃ v,e = .returned (.tuple #[v,.bool (qam ls (ls.length+1) no).2]) /\ ((qam ls (ls.length+1) no).2=true->OwnN w' w.heap.size v (qam ls (ls.length+1) no).1) /\ Keeps w w':=by
 have HS:Hid (Lks p w a ls):=hs
 have HM:Hid (MapI w B (qaH ls)):=hm
 clear hs hm
 generalize hn:ls.length=n at hl
 have Hn:Hid (ls.length=n):=hn
 clear hn
 obtain ⟨C,HC⟩:∃ C,Hid (qam ls (n+1) no=C):=⟨_,rfl⟩
 rw [HC.out]
 go_enter Tryz.func226,Tryz.ntmps226
 go_wp2
 go_step3
 go_wp2
 go_step3
 go_wp2
 have kz:Hid (Keeps w (w.alloc (.cells #[.int .i64 no] 3))):=(Keeps.refl _).alloc _
 have own0:Hid (OwnN (w.alloc (.cells #[.int .i64 no] 3)) w.heap.size (.slice (some ⟨w.heap.size,0,none⟩) 1 1) ([]++[no])):=World.ownsRow_lit w #[.int .i64 no] 1 (Nat.le_refl _) (by unfold maxLen;omega) rfl
 generalize w.alloc (.cells #[.int .i64 no] 3)=W at *
 go_loopw [1,8] (fun c v wr=>∃ (done:List Int) (cur:Int),done.length <= n /\ c = .int .i64 cur /\ Hid (OwnN wr w.heap.size v (done++[cur])) /\ Keeps w wr /\ Hid (C=(done++(qam ls (n+1 - done.length) cur).1,(qam ls (n+1 - done.length) cur).2))) (fun _ v _=>n+1 - qhl v)
 case atStart=>exact ⟨[],no,Nat.zero_le _,rfl,own0,kz.out,by show _=_;rw [<- HC.out];simp⟩
 case round =>
  obtain ⟨done,cur,hd,rfl,own,hK,HI⟩:=hrel
  clear own0 kz
  obtain ⟨k,Hk⟩:∃ k,Hid (done.length=k):=⟨_,rfl⟩
  have hd':k <= n:=by rw [<- Hk.out];exact hd
  clear hd
  rw [Hk.out] at HI
  obtain ⟨av,cv,ev,-,-,-⟩:=OwnN.ns own.out
  have el:Hid ((done++[cur]).length=k+1):=by show _=_;simp [Hk.out]
  rw [el.out] at ev
  subst ev
  obtain ⟨f,Hf⟩:∃ f,Hid (n+1 - k=f+1):=⟨n - k,by show _=_;omega⟩
  have HI2:Hid (C=(done++(qam ls (f+1) cur).1,(qam ls (f+1) cur).2)):=by show _=_;rw [<- Hf.out];exact HI.out
  have MM:Hid (MapI wr B (qaH ls)):=HM.out.keeps hK
  cases hx:qax ls cur with
  | none =>
   have HQ:Hid (hasM (qaH ls) cur=false):=qld hx
   obtain ⟨v,Hv⟩:∃ v,Hid (valM (qaH ls) cur=v):=⟨_,rfl⟩
   have HR:Hid (C=(done++[cur],true)):=by show _=_;rw [HI2.out,qea hx]
   go_wp2_with (first
    | (at_lookup;refine qev rfl _ _ 243 rfl 3 3 Tryz.underlying243 Tryz.underlying3 (qex _) B (qaH ls) rfl MM.out cur rfl v false Hv.out HQ.out ?_))
   rw [Exit.noGoto_ret]
   go_ret2
   exact ⟨_,by rw [HR.out];rfl,fun _=>by rw [HR.out];exact own.out,hK⟩
  | some i =>
   have HQ:Hid (hasM (qaH ls) cur=true):=(qhg hx).1
   have Hv:Hid (valM (qaH ls) cur=(i:Int)):=(qhg hx).2
   obtain ⟨l,hl1,-,-⟩:=qda hx
   have Hi:Hid (i < n):=by show _ < _;have:=qas hl1;rw [Hn.out] at this;exact this
   have hi1:(i:Int) < (n:Int):=by have:=Hi.out;omega
   obtain ⟨b,off,a',cap',rfl,r0,r1,-,-⟩:=HS.out.at hl1
   have HR:Hid (C=((done++[cur])++(qam ls f l.owner).1,(qam ls f l.owner).2)):=by
    show _=_
    rw [HI2.out,qeb hx,qbS hl1]
    simp
   clear hl1 r1
   by_cases hlt:k < n
   ·have hlt':¬ ((n:Int) < (k:Int)+1):=by omega
    have hlt2:decide ((n:Int) < (k:Int)+1)=false:=by simpa using hlt'
    go_wp2_with (first
     | (at_lookup;refine qev rfl _ _ 243 rfl 3 3 Tryz.underlying243 Tryz.underlying3 (qex _) B (qaH ls) rfl MM.out cur rfl (i:Int) true Hv.out HQ.out ?_)
     | (at_builtin;(refine qbi rfl _ _ 25 rfl w 3 (.int .i64 0) 1 8 ic Tryz.underlying25 (by kernel_rfl) rfl (by decide) qaZ qci _ (done++[cur]) rfl wr own.out hK ((Keeps.refl _).alloc _) l.owner _ 1 (Blk.new _ _ _) rfl ?c1 ?c2 ?_)))
    case c1=>have:=Hk.out;unfold maxLen;omega
    case c2=>have:=Hk.out;omega
    intro v' w5 own5 k5 _
    have HO:Hid (OwnN w5 w.heap.size v' (done++[cur]++[l.owner])):=by show OwnN _ _ _ _;simpa using own5
    clear own5 own
    go_wp2
    refine ⟨⟨done++[cur],l.owner,by rw [el.out];omega,rfl,HO,k5,?_⟩,?_⟩
    ·show _=_
     rw [HR.out,el.out,show n+1 - (k+1)=f from by have:=Hf.out;omega]
    ·obtain ⟨a6,c6,e6,-,-,-⟩:=OwnN.ns HO.out
     rw [e6,List.length_append,el.out]
     simp only [qhl,List.length_singleton]
     omega
   ·have e:k=n:=by omega
    have hlt':((n:Int) < (k:Int)+1):=by omega
    have Hff:Hid (C.2=false):=by show _=_;rw [HR.out,show f=0 from by have:=Hf.out;omega];rfl
    go_wp2_with (first
     | (at_lookup;refine qev rfl _ _ 243 rfl 3 3 Tryz.underlying243 Tryz.underlying3 (qex _) B (qaH ls) rfl MM.out cur rfl (i:Int) true Hv.out HQ.out ?_))
    rw [Exit.noGoto_ret]
    go_ret2
    exact ⟨_,by rw [Hff.out];rfl,fun h=>(by rw [Hff.out] at h;cases h),hK⟩
variable {p:Bool}
attribute [local go_sem] Keeps.refl Keeps.alloc Keeps.drew Keeps.drewN
theorem qli {l:Lk} {k:Nat} {x:Int} (hx:l.waits[k]?=some x) (h:inB x 1 1000=false):qbr l=false:=by
 unfold qbr
 have:l.waits.all (fun x=>inB x 1 1000)=false:=by
  rw [List.all_eq_false]
  exact ⟨x,List.mem_of_getElem? hx,by rw [h];simp⟩
 rw [this];rfl
theorem qlj {l:Lk} (H:∀ (j:Nat) (x:Int),l.waits[j]?=some x->inB x 1 1000=true):qbr l=(inB l.owner 0 1000&&(!(l.owner==0)||l.waits.length==0)):=by
 unfold qbr
 have:l.waits.all (fun x=>inB x 1 1000)=true:=by
  rw [List.all_eq_true]
  intro x hx
  obtain ⟨j,hj,rfl⟩:=List.mem_iff_getElem.1 hx
  exact H j _ (List.getElem?_eq_getElem hj)
 rw [this];rfl
set_option maxHeartbeats 2000000 in
theorem qlk (o:Int) (a:Option Addr) (cap:Nat) (xs:List Int) (w:World) (hl:xs.length <= maxLen) (hs:Ns w a xs) :
  Calls Tryz.prog 233 #[.agg #[.int .i64 o,.slice a xs.length cap]] w fun e w'=>e = .returned (.bool (qbr ⟨o,xs⟩)) /\ Keeps w w':=by
 unfold maxLen at hl
 generalize hn:xs.length=n at hl
 have Hn:Hid (xs.length=n):=hn
 clear hn
 go_enter Tryz.func233,Tryz.ntmps233
 go_wp2
 go_loopw [8] (fun i wr=>∃ k:Nat,k <= n /\ i = .int .i64 k /\ wr=w.alloc (.cells #[.int .i64 o,.slice a n cap] 104) /\ Hid (∀ (j:Nat) (y:Int),j < k->xs[j]?=some y->inB y 1 1000=true)) (fun i _=>n - (intOf i).toNat)
 case atStart=>exact ⟨0,Nat.zero_le _,rfl,rfl,fun j y hj=>by omega⟩
 case round =>
  obtain ⟨k,hk,rfl,rfl,H⟩:=hrel
  by_cases hlt:k < n
  ·obtain ⟨y,hy⟩:=qai (xs:=xs) (k:=k) (by rw [Hn.out];exact hlt)
   obtain ⟨b,off,rfl,r0⟩:=hs.at hy
   have hlt':(k:Int) < (n:Int):=by omega
   have Hy:Hid (xs[k]?=some y):=hy
   clear hs hy
   cases hq:inB y 1 1000
   ·have Hr:Hid (qbr ⟨o,xs⟩=false):=qli (l:=⟨o,xs⟩) Hy.out hq
    go_wp2_with (go_at_call 104;refine (qaI _ _ _ _).mono ?_;rintro e w' ⟨rfl,hw'⟩;have hw2:=hw'.symm;subst hw2;rw [hq])
    go_ret
    exact ⟨by rw [Hr.out];rfl,(Keeps.refl _).alloc _⟩
   ·go_wp2_with (go_at_call 104;refine (qaI _ _ _ _).mono ?_;rintro e w' ⟨rfl,hw'⟩;have hw2:=hw'.symm;subst hw2;rw [hq])
    exact ⟨⟨k+1,by omega,by go_num,by first | rfl | trivial,fun j s hj hs=>by
     by_cases e:j=k
     ·subst e;rw [Hy.out] at hs;cases hs;exact hq
     ·exact H.out j s (by omega) hs⟩,by simp only [intOf];omega⟩
  ·have Hr:Hid (qbr ⟨o,xs⟩=(inB o 0 1000&&(!(o==0)||n==0))):=by
    show _=_
    rw [qlj (l:=⟨o,xs⟩) fun j y hy=>H.out j y (by have:=qas hy;rw [Hn.out] at this;omega) hy]
    simp only [Hn.out]
   clear H
   cases hq:inB o 0 1000
   ·have Hz:Hid (qbr ⟨o,xs⟩=false):=by show _=_;rw [Hr.out,hq];rfl
    go_wp2_with (go_at_call 104;refine (qaI _ _ _ _).mono ?_;rintro e w' ⟨rfl,hw'⟩;have hw2:=hw'.symm;subst hw2;rw [hq])
    go_ret
    exact ⟨by rw [Hz.out];rfl,(Keeps.refl _).alloc _⟩
   ·have eq0:(o==0) = !(o != 0):=by simp [bne]
    cases h0:(o != 0)
    ·cases h1:((n:Int)==0)
     ·have Hz:Hid (qbr ⟨o,xs⟩=false):=by show _=_;rw [Hr.out,hq,eq0,h0];simp at h1 ⊢;omega
      go_wp2_with (go_at_call 104;refine (qaI _ _ _ _).mono ?_;rintro e w' ⟨rfl,hw'⟩;have hw2:=hw'.symm;subst hw2;rw [hq])
      go_ret
      exact ⟨by rw [Hz.out];rfl,(Keeps.refl _).alloc _⟩
     ·have Hz:Hid (qbr ⟨o,xs⟩=true):=by show _=_;rw [Hr.out,hq,eq0,h0];simp at h1 ⊢;omega
      go_wp2_with (go_at_call 104;refine (qaI _ _ _ _).mono ?_;rintro e w' ⟨rfl,hw'⟩;have hw2:=hw'.symm;subst hw2;rw [hq])
      go_ret
      exact ⟨by rw [Hz.out];rfl,(Keeps.refl _).alloc _⟩
    ·have Hz:Hid (qbr ⟨o,xs⟩=true):=by show _=_;rw [Hr.out,hq,eq0,h0];rfl
     go_wp2_with (go_at_call 104;refine (qaI _ _ _ _).mono ?_;rintro e w' ⟨rfl,hw'⟩;have hw2:=hw'.symm;subst hw2;rw [hq])
     go_ret
     exact ⟨by rw [Hz.out];rfl,(Keeps.refl _).alloc _⟩
def qcx (ls:List Lk):Bool:=ls.all qbr
theorem qll {ls:List Lk} {k:Nat} {l:Lk} (hl:ls[k]?=some l) (h:qbr l=false):qcx ls=false:=by
 unfold qcx
 rw [List.all_eq_false]
 exact ⟨l,List.mem_of_getElem? hl,by rw [h];simp⟩
theorem qlm {ls:List Lk} (H:∀ (j:Nat) (l:Lk),ls[j]?=some l->qbr l=true):qcx ls=true:=by
 unfold qcx
 rw [List.all_eq_true]
 intro l hl
 obtain ⟨j,hj,rfl⟩:=List.mem_iff_getElem.1 hl
 exact H j _ (List.getElem?_eq_getElem hj)
set_option maxHeartbeats 2000000 in
theorem qln (a:Option Addr) (cap:Nat) (ls:List Lk) (w:World) (hl:ls.length <= maxLen) (hs:Lks p w a ls) :
  Calls Tryz.prog 206 #[.slice a ls.length cap] w fun e w'=>e = .returned (.bool (qcx ls)) /\ Keeps w w':=by
 unfold maxLen at hl
 generalize hn:ls.length=n at hl
 have Hn:Hid (ls.length=n):=hn
 clear hn
 go_enter Tryz.func206,Tryz.ntmps206
 go_wp2
 go_loopw [7] (fun i wr=>∃ k:Nat,k <= n /\ i = .int .i64 k /\ Keeps w wr /\ Hid (∀ (j:Nat) (m:Lk),j < k->ls[j]?=some m->qbr m=true)) (fun i _=>n - (intOf i).toNat)
 case atStart=>exact ⟨0,Nat.zero_le _,rfl,Keeps.refl _,fun j y hj=>by omega⟩
 case round =>
  obtain ⟨k,hk,rfl,hK,H⟩:=hrel
  by_cases hlt:k < n
  ·obtain ⟨l,hl1⟩:=qai (xs:=ls) (k:=k) (by rw [Hn.out];exact hlt)
   obtain ⟨b,off,a',cap',rfl,r0,r1,hle,hns⟩:=hs.at hl1
   have hlt':(k:Int) < (n:Int):=by omega
   have Hl:Hid (ls[k]?=some l):=hl1
   have Hle:Hid (l.waits.length <= maxLen):=hle
   have N1:Hid (Ns w a' l.waits):=hns
   clear hs hl1 hle hns
   obtain ⟨q,Hq⟩:∃ q,Hid (qbr l=q):=⟨_,rfl⟩
   have C1:∀ o,Calls Tryz.prog 233 #[.agg #[.int .i64 l.owner,.slice a' l.waits.length cap']] (wr.alloc o) fun e w'=>e = .returned (.bool q) /\ Keeps (wr.alloc o) w':=fun o=>by
    have:=qlk l.owner a' cap' l.waits (wr.alloc o) Hle.out (N1.out.keeps (hK.alloc o))
    rwa [show (⟨l.owner,l.waits⟩:Lk)=l from rfl,Hq.out] at this
   have HC1:Hid (∀ o,Calls Tryz.prog 233 #[.agg #[.int .i64 l.owner,.slice a' l.waits.length cap']] (wr.alloc o) fun e w'=>e = .returned (.bool q) /\ Keeps (wr.alloc o) w'):=C1
   clear C1
   cases q
   ·have Hr:Hid (qcx ls=false):=qll Hl.out Hq.out
    go_wp2_with (go_at_call 233;refine (HC1.out _).mono ?_;rintro e w1 ⟨rfl,k1⟩)
    go_ret
    exact ⟨by rw [Hr.out];rfl,(hK.alloc _).trans k1⟩
   ·go_wp2_with (go_at_call 233;refine (HC1.out _).mono ?_;rintro e w1 ⟨rfl,k1⟩)
    exact ⟨⟨k+1,by omega,by go_num,(hK.alloc _).trans k1,fun j s hj hs=>by
     by_cases e:j=k
     ·subst e;rw [Hl.out] at hs;cases hs;exact Hq.out
     ·exact H.out j s (by omega) hs⟩,by simp only [intOf];omega⟩
  ·have Hr:Hid (qcx ls=true):=qlm fun j m hm=>H.out j m (by have:=qas hm;rw [Hn.out] at this;omega) hm
   go_wp2
   go_ret
   exact ⟨by rw [Hr.out];rfl,hK⟩
def qb8 (ls:List Lk):Bool:=ls.all fun l=>(qam ls (ls.length+1) l.owner).2
theorem qlo {ls:List Lk} {k:Nat} {l:Lk} (hl:ls[k]?=some l) (h:(qam ls (ls.length+1) l.owner).2=false):qb8 ls=false:=by
 unfold qb8
 rw [List.all_eq_false]
 exact ⟨l,List.mem_of_getElem? hl,by rw [h];simp⟩
theorem qlp {ls:List Lk} (H:∀ (j:Nat) (l:Lk),ls[j]?=some l->(qam ls (ls.length+1) l.owner).2=true):qb8 ls=true:=by
 unfold qb8
 rw [List.all_eq_true]
 intro l hl
 obtain ⟨j,hj,rfl⟩:=List.mem_iff_getElem.1 hl
 exact H j _ (List.getElem?_eq_getElem hj)
set_option maxHeartbeats 2000000 in
theorem qlq (B:Nat) (a:Option Addr) (cap:Nat) (ls:List Lk) (w:World) (hl:ls.length <= 2097152) (hs:Lks p w a ls) (hm:MapI w B (qaH ls)) :
  Calls Tryz.prog 209 #[.slice a ls.length cap,.map (some B)] w fun e w'=>e = .returned (.bool (qb8 ls)) /\ Keeps w w':=by
 have HS:Hid (Lks p w a ls):=hs
 have CF:Hid (∀ no w',Keeps w w'->Calls Tryz.prog 226 #[.map (some B),.int .i64 no,.slice a ls.length cap] w' fun e w''=>∃ v,e = .returned (.tuple #[v,.bool (qam ls (ls.length+1) no).2]) /\ ((qam ls (ls.length+1) no).2=true->OwnN w'' w'.heap.size v (qam ls (ls.length+1) no).1) /\ Keeps w' w''):=fun no w' k=>qhm B a cap ls no w' hl (hs.keeps k) (hm.keeps k)
 clear hs hm
 have HE:Hid (∀ (k:Nat) (l:Lk),ls[k]?=some l->(qam ls (ls.length+1) l.owner).2=false->qb8 ls=false):=fun k l=>qlo
 have HO:Hid ((∀ (j:Nat) (l:Lk),ls[j]?=some l->(qam ls (ls.length+1) l.owner).2=true)->qb8 ls=true):=qlp
 generalize hn:ls.length=n at *
 have Hn:Hid (ls.length=n):=hn
 clear hn
 go_enter Tryz.func209,Tryz.ntmps209
 go_wp2
 go_loopw [11] (fun i wr=>∃ k:Nat,k <= n /\ i = .int .i64 k /\ Keeps w wr /\ Hid (∀ (j:Nat) (m:Lk),j < k->ls[j]?=some m->(qam ls (n+1) m.owner).2=true)) (fun i _=>n - (intOf i).toNat)
 case atStart=>exact ⟨0,Nat.zero_le _,rfl,Keeps.refl _,fun j y hj=>by omega⟩
 case round =>
  obtain ⟨k,hk,rfl,hK,H⟩:=hrel
  by_cases hlt:k < n
  ·obtain ⟨l,hl1⟩:=qai (xs:=ls) (k:=k) (by rw [Hn.out];exact hlt)
   obtain ⟨b,off,a',cap',rfl,r0,r1,-,-⟩:=HS.out.at hl1
   have hlt':(k:Int) < (n:Int):=by omega
   have Hl:Hid (ls[k]?=some l):=hl1
   clear hl1
   obtain ⟨q,Hq⟩:∃ q,Hid ((qam ls (n+1) l.owner).2=q):=⟨_,rfl⟩
   have C1:Hid (∀ o,Calls Tryz.prog 226 #[.map (some B),.int .i64 l.owner,.slice (some ⟨b,off,none⟩) n cap] (wr.alloc o) fun e w'=>∃ v,e = .returned (.tuple #[v,.bool q]) /\ Keeps (wr.alloc o) w'):=fun o=>by
    refine (CF.out l.owner (wr.alloc o) (hK.alloc o)).mono ?_
    rintro e w' ⟨v,rfl,-,k'⟩
    rw [Hq.out]
    exact ⟨v,rfl,k'⟩
   cases q
   ·have Hr:Hid (qb8 ls=false):=HE.out k l Hl.out Hq.out
    go_wp2_with (go_at_call 226;refine (C1.out _).mono ?_;rintro e w1 ⟨v,rfl,k1⟩)
    go_ret
    exact ⟨by rw [Hr.out];rfl,(hK.alloc _).trans k1⟩
   ·go_wp2_with (go_at_call 226;refine (C1.out _).mono ?_;rintro e w1 ⟨v,rfl,k1⟩)
    exact ⟨⟨k+1,by omega,by go_num,(hK.alloc _).trans k1,fun j s hj hs=>by
     by_cases e:j=k
     ·subst e;rw [Hl.out] at hs;cases hs;exact Hq.out
     ·exact H.out j s (by omega) hs⟩,by simp only [intOf];omega⟩
  ·have Hr:Hid (qb8 ls=true):=HO.out fun j m hm=>H.out j m (by have:=qas hm;rw [Hn.out] at this;omega) hm
   go_wp2
   go_ret
   exact ⟨by rw [Hr.out];rfl,hK⟩
theorem qlr (ls:List Lk):(decide (ls.length <= 5)&&(qcx ls&&(decide ((qaH ls).length=sumW ls)&&qb8 ls)))=qav ls:=qle ls
set_option maxHeartbeats 2000000 in
theorem qhn (a:Option Addr) (cap:Nat) (ls:List Lk) (w:World) (hl:qak ls <= 2097152) (hs:Lks p w a ls) :
  Calls Tryz.prog 174 #[.slice a ls.length cap] w fun e w'=>e = .returned (.bool (qav ls)) /\ Keeps w w':=by
 have hl0:ls.length <= 2097152:=by unfold qak at hl;omega
 have E1:Hid (∀ w',Keeps w w'->Calls Tryz.prog 206 #[.slice a ls.length cap] w' fun e w''=>e = .returned (.bool (qcx ls)) /\ Keeps w' w''):=fun w' k=>qln a cap ls w' (by unfold maxLen;omega) (hs.keeps k)
 have E2:Hid (∀ w',Keeps w w'->Calls Tryz.prog 207 #[.slice a ls.length cap] w' fun e w''=>e = .returned (.map (some w'.heap.size)) /\ MapI w'' w'.heap.size (qaH ls) /\ Keeps w' w''):=fun w' k=>qhk a cap ls w' hl (hs.keeps k)
 have E3:Hid (∀ w',Keeps w w'->Calls Tryz.prog 208 #[.slice a ls.length cap] w' fun e w''=>e = .returned (.int .i64 (sumW ls)) /\ Keeps w' w''):=fun w' k=>qlh a cap ls w' hl (hs.keeps k)
 have E4:Hid (∀ B w',Keeps w w'->MapI w' B (qaH ls)->Calls Tryz.prog 209 #[.slice a ls.length cap,.map (some B)] w' fun e w''=>e = .returned (.bool (qb8 ls)) /\ Keeps w' w''):=fun B w' k m=>qlq B a cap ls w' hl0 (hs.keeps k) m
 have HP:Hid ((decide (ls.length <= 5)&&(qcx ls&&(decide ((qaH ls).length=sumW ls)&&qb8 ls)))=qav ls):=qlr ls
 have Hsum:Hid (sumW ls <= 2097152):=by show _ <= _;unfold qak at hl;omega
 have Hpl:Hid ((qaH ls).length <= sumW ls):=(qhj ls).1
 clear hl hs
 generalize hn:ls.length=n at *
 obtain ⟨g1,G1⟩:∃ g,Hid (qcx ls=g):=⟨_,rfl⟩
 obtain ⟨g2,G2⟩:∃ g,Hid (qb8 ls=g):=⟨_,rfl⟩
 obtain ⟨s,Hs⟩:∃ s,Hid (sumW ls=s):=⟨_,rfl⟩
 obtain ⟨m,Hm⟩:∃ m,Hid ((qaH ls).length=m):=⟨_,rfl⟩
 obtain ⟨E,HE⟩:∃ E,Hid (qaH ls=E):=⟨_,rfl⟩
 rw [G1.out] at E1
 rw [HE.out] at E2 E4
 rw [Hs.out] at E3 Hsum
 rw [G2.out] at E4
 rw [G1.out,G2.out,Hs.out,Hm.out] at HP
 have HmE:Hid (E.length=m):=by show _=_;rw [<- HE.out];exact Hm.out
 have hs0:s <= 2097152:=Hsum.out
 have hm0:m <= 2097152:=by have:=Hpl.out;rw [Hm.out,Hs.out] at this;omega
 clear hn Hpl
 by_cases h5:n <= 5
 ·have h5':decide ((5:Int) < (n:Int))=false:=by simp;omega
  have d5:decide (n <= 5)=true:=decide_eq_true h5
  cases g1
  ·have Hr:Hid (qav ls=false):=by show _=_;rw [<- HP.out,d5];rfl
   go_enter Tryz.func174,Tryz.ntmps174
   go_wp2_with (go_at_call 206;refine (E1.out _ (Keeps.refl _)).mono ?_;rintro e w1 ⟨rfl,k1⟩)
   go_ret
   exact ⟨by rw [Hr.out];rfl,k1⟩
  ·by_cases hms:m=s
   ·have Hr:Hid (qav ls=g2):=by show _=_;rw [<- HP.out,d5,decide_eq_true hms];rfl
    subst hms
    have hee:((m:Int)==(m:Int))=true:=by simp
    go_enter Tryz.func174,Tryz.ntmps174
    go_wp2_with (first
     | (go_at_call 206;refine (E1.out _ (Keeps.refl _)).mono ?_;rintro e w1 ⟨rfl,k1⟩)
     | (go_at_call 207;refine (E2.out _ k1).mono ?_;rintro e w2 ⟨rfl,m2,k2⟩;have K2:Keeps w w2:=k1.trans k2;have M2:Hid (MapI w2 w1.heap.size E):=m2;have hlen:∀ ty,(Builtin.len_ #[243] ty #[.map (some w1.heap.size)]).run Tryz.prog w2 = .ok (.int .i64 m) w2:=(fun ty=>by have h:=MapI.len m2 (P:=Tryz.prog) (t:=243) Tryz.underlying243 ty;rw [HmE.out] at h;exact h);clear m2)
     | (go_at_call 208;refine (E3.out _ K2).mono ?_;rintro e w3 ⟨rfl,k3⟩;have K3:Keeps w w3:=K2.trans k3)
     | (go_at_call 209;refine (E4.out _ _ K3 (M2.out.keeps k3)).mono ?_;rintro e w4 ⟨rfl,k4⟩))
    go_ret
    exact ⟨by rw [Hr.out];rfl,K3.trans k4⟩
   ·have Hr:Hid (qav ls=false):=by show _=_;rw [<- HP.out,d5,decide_eq_false hms];rfl
    have hne:((m:Int)==(s:Int))=false:=by simp;omega
    go_enter Tryz.func174,Tryz.ntmps174
    go_wp2_with (first
     | (go_at_call 206;refine (E1.out _ (Keeps.refl _)).mono ?_;rintro e w1 ⟨rfl,k1⟩)
     | (go_at_call 207;refine (E2.out _ k1).mono ?_;rintro e w2 ⟨rfl,m2,k2⟩;have K2:Keeps w w2:=k1.trans k2;have M2:Hid (MapI w2 w1.heap.size E):=m2;have hlen:∀ ty,(Builtin.len_ #[243] ty #[.map (some w1.heap.size)]).run Tryz.prog w2 = .ok (.int .i64 m) w2:=(fun ty=>by have h:=MapI.len m2 (P:=Tryz.prog) (t:=243) Tryz.underlying243 ty;rw [HmE.out] at h;exact h);clear m2)
     | (go_at_call 208;refine (E3.out _ K2).mono ?_;rintro e w3 ⟨rfl,k3⟩;have K3:Keeps w w3:=K2.trans k3))
    go_ret
    exact ⟨by rw [Hr.out];rfl,K3⟩
 ·have h5':(5:Int) < (n:Int):=by omega
  have Hr:Hid (qav ls=false):=by show _=_;rw [<- HP.out,decide_eq_false h5];rfl
  go_enter Tryz.func174,Tryz.ntmps174
  go_wp2
  go_ret
  exact ⟨by rw [Hr.out];rfl,Keeps.refl _⟩
set_option maxHeartbeats 1000000 in
theorem qls (a:Option Addr) (cap:Nat) (ls:List Lk) (no:Int) (w:World) (hl:qak ls <= 2097152) (hs:Lks p w a ls) :
  Calls Tryz.prog 193 #[.slice a ls.length cap,.int .i64 no] w fun e w'=>∃ v,e = .returned v /\ OwnN w' w.heap.size v (qaR ls no) /\ Keeps w w':=by
 have hl0:ls.length <= 2097152:=by unfold qak at hl;omega
 have E1:=qhn a cap ls w hl hs
 have E2:Hid (∀ w',Keeps w w'->Calls Tryz.prog 207 #[.slice a ls.length cap] w' fun e w''=>e = .returned (.map (some w'.heap.size)) /\ MapI w'' w'.heap.size (qaH ls) /\ Keeps w' w''):=fun w' k=>qhk a cap ls w' hl (hs.keeps k)
 have CF:Hid (∀ B w',Keeps w w'->MapI w' B (qaH ls)->Calls Tryz.prog 226 #[.map (some B),.int .i64 no,.slice a ls.length cap] w' fun e w''=>∃ v,e = .returned (.tuple #[v,.bool (qam ls (ls.length+1) no).2]) /\ ((qam ls (ls.length+1) no).2=true->OwnN w'' w'.heap.size v (qam ls (ls.length+1) no).1) /\ Keeps w' w''):=fun B w' k m=>qhm B a cap ls no w' hl0 (hs.keeps k) m
 clear hs hl
 cases hb:qav ls
 ·rw [hb] at E1
  have Hr:Hid (qaR ls no=[]):=by show _=_;unfold qaR;rw [hb];rfl
  obtain ⟨n,Hn⟩:∃ n,Hid (ls.length=n):=⟨_,rfl⟩
  rw [Hn.out] at E1 ⊢
  go_enter Tryz.func193,Tryz.ntmps193
  go_wp2_with (go_at_call 174;refine E1.mono ?_;rintro e w1 ⟨rfl,k1⟩)
  go_ret
  exact ⟨_,rfl,by rw [Hr.out];exact World.ownsRow_nil _ _ _ _,k1⟩
 ·rw [hb] at E1
  have R:=qec.1 hb
  have Ht:Hid ((qam ls (ls.length+1) no).2=true):=by
   show _=_
   obtain ⟨d,hd⟩:=R.chain no
   exact qfb.2 ⟨d,hd⟩
  have Hr:Hid (qaR ls no=(qam ls (ls.length+1) no).1):=by show _=_;unfold qaR;rw [hb];rfl
  clear R
  obtain ⟨n,Hn⟩:∃ n,Hid (ls.length=n):=⟨_,rfl⟩
  rw [Hn.out] at E1 E2 CF Ht Hr ⊢
  obtain ⟨C,HC⟩:∃ C,Hid (qam ls (n+1) no=C):=⟨_,rfl⟩
  rw [HC.out] at CF Ht Hr
  rw [Ht.out] at CF
  go_enter Tryz.func193,Tryz.ntmps193
  go_wp2_with (first
   | (go_at_call 174;refine E1.mono ?_;rintro e w1 ⟨rfl,k1⟩)
   | (go_at_call 207;refine (E2.out _ k1).mono ?_;rintro e w2 ⟨rfl,m2,k2⟩;have K2:Keeps w w2:=k1.trans k2;have M2:Hid (MapI w2 w1.heap.size (qaH ls)):=m2;clear m2)
   | (go_at_call 226;refine (CF.out _ _ K2 M2.out).mono ?_;rintro e w3 ⟨v,rfl,o3,k3⟩;have O3:Hid (OwnN w3 w2.heap.size v C.1):=o3 (by trivial);clear o3))
  go_ret
  exact ⟨_,rfl,by rw [Hr.out];exact O3.out.base K2.size,K2.trans k3⟩
end Go.Proofs.YthpdlbcdbncnhaaGreatDoor
