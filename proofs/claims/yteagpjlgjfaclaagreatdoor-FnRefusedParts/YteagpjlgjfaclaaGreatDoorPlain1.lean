/-
  Sums of parts without loss: the plain arithmetic. No Go in
  A call that starts no goroutine, where the row lets some be
  A part of time is right: the contract of the program's Shar
  Locks that lie there, as the laws and later chapters hand t
  How much is left of what may be asked, once some locks are
  Maps from numbers to numbers that the call makes, told by t
  A task is written over an element of a row.
  Parts of time: contracts of the functions that say which pa
-/
import Derived.Test.YteagpjlgjfaclaaGreatDoorRows
import Derived.Conc.LeavingOf
import Derived.LoneHanded
import Derived.RaceLone
import Derived.RunNT
import Derived.CallAlone
import Derived.Leaving
import Derived.Test.YteagpjlgjfaclaaGreatDoorFrame
import Derived.Test.YteagpjlgjfaclaaGreatDoorLockSpec3
import Derived.Test.YteagpjlgjfaclaaGreatDoorBase
import Derived.Maps.OwnSet
import Derived.Test.YteagpjlgjfaclaaGreatDoorTaskBase
import Derived.Test.YteagpjlgjfaclaaGreatDoorFar
import Derived.Laws.ResultCell
import Derived.Deep.RegionHeld3
namespace Go.Proofs.YteagpjlgjfaclaaGreatDoor.Plain
set_option maxRecDepth 100000
def qa8 (s x:Int × Int):Int × Int :=
 ((s.1*x.2+x.1*s.2) / (Int.gcd (s.1*x.2+x.1*s.2) (s.2*x.2):Int),(s.2*x.2) / (Int.gcd (s.1*x.2+x.1*s.2) (s.2*x.2):Int))
def sumI (xs:List (Int × Int)):Int × Int:=xs.foldl qa8 (0,1)
theorem qlT (xs:List (Int × Int)) (x:Int × Int):sumI (xs++[x])=qa8 (sumI xs) x:=by simp [sumI]
theorem qhl (xs:List (Int × Int)) (k:Nat) (h:k < xs.length):sumI (xs.take (k+1))=qa8 (sumI (xs.take k)) (xs.getD k (0,0)):=by
 rw [List.take_succ_eq_append_getElem h,qlT];simp [h]
def Inv (k:Nat) (s:Int × Int):Prop:=0 <= s.1 /\ 1 <= s.2 /\ s.2 <= ((40 ^ k:Nat):Int) /\ s.1 <= (k:Int)*s.2
theorem qhm:Inv 0 (0,1):=by simp [Inv]
theorem qlU (n d g:Int) (_hg:1 <= g) (hn:g ∣ n) (hd:g ∣ d):n=g*(n / g) /\ d=g*(d / g):=⟨(Int.mul_ediv_cancel' hn).symm,(Int.mul_ediv_cancel' hd).symm⟩
theorem qeK {a b c:Int} (h:a <= b) (hc:0 <= c):a*c <= b*c:=Int.mul_le_mul_of_nonneg_right h hc
theorem qlV {a b c:Int} (h:a <= b) (hc:0 <= c):c*a <= c*b:=Int.mul_le_mul_of_nonneg_left h hc
theorem qhn {k:Nat} {n d q p:Int} (h:Inv k (n,d)) (hp1:1 <= p) (hp2:p <= 40) (hq1:1 <= q) (hq2:q <= p) :
  1 <= (Int.gcd (n*p+q*d) (d*p):Int) /\ (Int.gcd (n*p+q*d) (d*p):Int) <= d*p /\ 0 <= n*p /\ 0 <= q*d /\ 1 <= d*p /\ n*p+q*d <= (k+1:Int)*(d*p) /\ n*p <= (k:Int)*(d*p) /\ q*d <= d*p /\ d*p <= ((40 ^ (k+1):Nat):Int) /\ Inv (k+1) (qa8 (n,d) (q,p)):=by
 obtain ⟨h1,h2,h3,h4⟩:=h
 simp only at h1 h2 h3 h4
 have a1:0 <= n*p:=Int.mul_nonneg h1 (by omega)
 have a2:0 <= q*d:=Int.mul_nonneg (by omega) (by omega)
 have a3:1*1 <= d*p:=Int.mul_le_mul h2 hp1 (by omega) (by omega)
 have a4:n*p <= ((k:Int)*d)*p:=qeK h4 (by omega)
 have a5:q*d <= p*d:=qeK hq2 (by omega)
 have a6:((k:Int)*d)*p=(k:Int)*(d*p):=Int.mul_assoc _ _ _
 have a7:p*d=d*p:=Int.mul_comm _ _
 have a8:(k+1:Int)*(d*p)=(k:Int)*(d*p)+d*p:=by rw [Int.add_mul,Int.one_mul]
 have a9:d*p <= ((40 ^ k:Nat):Int)*p:=qeK h3 (by omega)
 have a10:((40 ^ k:Nat):Int)*p <= ((40 ^ k:Nat):Int)*40:=qlV hp2 (by omega)
 have a11:((40 ^ (k+1):Nat):Int)=((40 ^ k:Nat):Int)*40:=by rw [Nat.pow_succ];exact Int.natCast_mul _ _
 have g0:0 < Int.gcd (n*p+q*d) (d*p):=Int.gcd_pos_of_ne_zero_right _ (by omega)
 have gd:=Int.gcd_dvd_right (n*p+q*d) (d*p)
 have gn:=Int.gcd_dvd_left (n*p+q*d) (d*p)
 have gle:=Int.le_of_dvd (by omega) gd
 unfold Inv qa8
 simp only
 generalize (Int.gcd (n*p+q*d) (d*p):Nat)=g at *
 obtain ⟨e1,e2⟩:=qlU _ _ (g:Int) (by omega) gn gd
 have f1:0 <= (n*p+q*d) / (g:Int):=Int.ediv_nonneg (by omega) (by omega)
 have f2:0 < (d*p) / (g:Int):=Int.ediv_pos_of_pos_of_dvd (by omega) (by omega) gd
 have f3:(d*p) / (g:Int) <= d*p:=Int.ediv_le_self _ (by omega)
 generalize (n*p+q*d) / (g:Int)=n' at *
 generalize (d*p) / (g:Int)=d' at *
 refine ⟨by omega,by omega,a1,a2,by omega,by omega,by omega,by omega,by omega,f1,by omega,by omega,?_⟩
 have c1:n*p+q*d <= (k+1:Int)*(d*p):=by omega
 rw [e1,e2] at c1
 have c2:(k+1:Int)*((g:Int)*d')=(g:Int)*((k+1:Int)*d'):=Int.mul_left_comm _ _ _
 rw [c2] at c1
 have:=Int.le_of_mul_le_mul_left c1 (by omega)
 simpa using this
theorem qlW {k:Nat} (h:k <= 7):((40 ^ k:Nat):Int) <= 163840000000:=by
 have:40 ^ k <= 40 ^ 7:=Nat.pow_le_pow_right (by omega) h
 omega
theorem qho {k:Nat} {n d q p:Int} (h:Inv k (n,d)) (hk:k < 7) (hp1:1 <= p) (hp2:p <= 40) (hq1:1 <= q) (hq2:q <= p) :
  0 <= n*p /\ n*p <= 1146880000000 /\ 0 <= q*d /\ q*d <= 163840000000 /\ 1 <= d*p /\ d*p <= 163840000000 /\ 1 <= (Int.gcd (n*p+q*d) (d*p):Int) /\ (Int.gcd (n*p+q*d) (d*p):Int) <= 163840000000:=by
 obtain ⟨a1,a2,a3,a4,a5,a6,a7,a8,a9,_⟩:=qhn h hp1 hp2 hq1 hq2
 have:=qlW (k:=k+1) (by omega)
 have:(k:Int)*(d*p) <= 7*(d*p):=qeK (by omega) (by omega)
 omega
theorem qhp {k:Nat} {n d q p:Int} (h:Inv k (n,d)) (hp1:1 <= p) (hp2:p <= 40) (hq1:1 <= q) (hq2:q <= p):Inv (k+1) (qa8 (n,d) (q,p)):=(qhn h hp1 hp2 hq1 hq2).2.2.2.2.2.2.2.2.2
end Go.Proofs.YteagpjlgjfaclaaGreatDoor.Plain
namespace Go.Proofs.YteagpjlgjfaclaaGreatDoor
set_option maxRecDepth 100000
open Go.RowKit
theorem qlA {P:Program} {f:FuncId} {args:Array Value} {W:World} {Post:Value->World->Prop} (hi:P.inits.idxOf? f=none) (h:Calls P f args W fun e W'=>∃ v,e = .returned v /\ Post v W') :
  ∃ M last o w' t',runNT P (M+1) (Go.Conc.solo (Go.Conc.G (Frame.enter P f args .normal) []) W) #[]=(.ended o w',t') /\ runN P M (Go.Conc.solo (Go.Conc.G (Frame.enter P f args .normal) []) W) = .next last /\
   step P last = .ended o w' /\ Go.Conc.Good P Post last o w' t':=by
 obtain ⟨e,w',fr,⟨v,rfl,hp⟩,hc,hfn,hl⟩:=h []
 obtain ⟨n,hn⟩:∃ n,runN P n (lone (Frame.enter P f args .normal) [] W) = .next (lone fr [] w'):=hc
 have hst:step P (lone fr [] w') = .ended (.done v) w':=step_leave_done hl (by rw [hfn];exact hi)
 have hend:runN P (n+1) (lone (Frame.enter P f args .normal) [] W) = .ended (.done v) w':=by
  rw [runN_add,hn]
  simp only [runN,hst]
 have hall:(runNT P (n+1) (lone (Frame.enter P f args .normal) [] W) #[]).2.allBy 0:=allBy_of_lone P n _ _ hn (by simp [lone]) (by simp [lone])
 refine ⟨n,lone fr [] w',.done v,w',(runNT P (n+1) (lone (Frame.enter P f args .normal) [] W) #[]).2,?_,hn,hst,v,rfl,hp,fun said=>not_race_of_allBy hall,handedOver_of_allBy hall,onlyLeaving_of_quiet (quiet_lone _ _ _),?_⟩
 ·have:=runNT_fst P (n+1) (lone (Frame.enter P f args .normal) [] W) #[]
  rw [hend] at this
  exact Prod.ext this rfl
 ·intro i g hg h0
  simp only [lone] at hg
  rcases i with _ | i
  ·exact absurd rfl h0
  ·simp at hg
end Go.Proofs.YteagpjlgjfaclaaGreatDoor
namespace Go.Proofs.YteagpjlgjfaclaaGreatDoor
set_option maxRecDepth 100000
open Go.RowKit
end Go.Proofs.YteagpjlgjfaclaaGreatDoor
namespace Go.Proofs.YteagpjlgjfaclaaGreatDoor
set_option maxRecDepth 100000
open Go.RowKit
theorem qc5 (ls:List Lk):ls.length <= qaj ls:=by unfold qaj;omega
structure On (w:World) (a:Option Addr) (m cap:Nat) (ls:List Lk):Prop where
 len:ls.length=m
 size:qaj ls <= 2097152
 lks:Lks true w a ls
 pl:Plain w a m cap
theorem On.keeps {w w':World} {a:Option Addr} {m cap:Nat} {ls:List Lk} (h:On w a m cap ls) (k:Keeps w w'):On w' a m cap ls:=⟨h.len,h.size,h.lks.keeps k,h.pl.keeps k⟩
theorem On.small {w:World} {a:Option Addr} {m cap:Nat} {ls:List Lk} (h:On w a m cap ls):ls.length <= maxLen:=by have:=qc5 ls;have:=h.size;unfold maxLen;omega
section calls
variable {w w':World} {a:Option Addr} {m cap:Nat} {ls:List Lk}
theorem On.sLocksOk (h:On w a m cap ls) {z:Bool} (hz:qax ls=z) (k:Keeps w w'):Calls Tryz.prog 70 #[.slice a m cap] w' fun e w''=>e = .returned (.bool z) /\ Keeps w' w'':=by
 have h':=h.keeps k
 have:=qeH a cap ls w' h'.size h'.lks
 rw [h'.len,hz] at this
 exact this
theorem On.at (h:On w a m cap ls) {i:Nat} {l:Lk} (hl:ls[i]?=some l):i < m /\ ∃ b off a' cap',a=some ⟨b,off,none⟩ /\ (∀ w',Keeps w w'->w'.cell? ⟨b,off+i*2,none⟩=some (.int .i64 l.owner)) /\ (∀ w',Keeps w w'->w'.cell? ⟨b,off+i*2+1,none⟩=some (.slice a' l.waits.length cap')) /\ l.waits.length <= maxLen /\ Ns w a' l.waits :=
 ⟨by rw [<- h.len];exact qaw hl,h.lks.at hl⟩
theorem On.sChain (h:On w a m cap ls) (x:Int) (k:Keeps w w'):Calls Tryz.prog 110 #[.slice a m cap,.int .i64 x] w' fun e w''=>∃ v,e = .returned (.tuple #[v,.bool (qap ls (ls.length+1) x).2]) /\ OwnN w'' w'.heap.size v (qap ls (ls.length+1) x).1 /\ Keeps w' w'':=by
 have h':=h.keeps k
 have:=qeG a cap ls x w' (by have:=qc5 ls;have:=h'.size;omega) h'.lks
 rw [h'.len] at this
 rw [h'.len]
 exact this
end calls
theorem OwnN.cells {w:World} {base:Nat} {v:Value} {xs:List Int} (h:OwnN w base v xs) (hp:0 < xs.length):∃ b cap,v = .slice (some ⟨b,0,none⟩) xs.length cap /\ xs.length <= cap /\ ∀ (k:Nat) (x:Int),xs[k]?=some x->∀ w',Keeps w w'->w'.cell? ⟨b,k,none⟩=some (.int .i64 x):=by
 obtain ⟨b,cap,rfl⟩:=Own.blk h hp
 obtain ⟨_,_,e,_,h1,_⟩:=OwnN.ns h
 simp only [Value.slice.injEq] at e
 obtain ⟨rfl,-,rfl⟩:=e
 refine ⟨b,cap,rfl,h1,fun k x hx=>Keeps.has ?_⟩
 have:=Own.cellAt h qaW (i:=k) (k:=0) hx (by omega)
 simpa using this
end Go.Proofs.YteagpjlgjfaclaaGreatDoor
namespace Go.Proofs.YteagpjlgjfaclaaGreatDoor
set_option maxRecDepth 100000
open Go.RowKit
variable {p p':Bool}
attribute [local go_sem] Keeps.refl Keeps.alloc Keeps.drew Keeps.drewN
end Go.Proofs.YteagpjlgjfaclaaGreatDoor
namespace Go.Proofs.YteagpjlgjfaclaaGreatDoor
set_option maxRecDepth 100000
open Go.RowKit
def qaK:List (Int × Int)->Int->Option Int
 | [],_=>none
 | p::r,k=>if p.1==k then some p.2 else qaK r k
def hasM (es:List (Int × Int)) (k:Int):Bool:=(qaK es k).isSome
def valM (es:List (Int × Int)) (k:Int):Int:=(qaK es k).getD 0
def delM (es:List (Int × Int)) (k:Int):List (Int × Int):=es.eraseP fun p=>p.1==k
theorem qlB (es fs:List (Int × Int)) (k:Int):qaK (es++fs) k=(qaK es k).or (qaK fs k):=by
 induction es with
 | nil=>rfl
 | cons p r ih =>
  simp only [List.cons_append,qaK,ih]
  split <;> rfl
theorem qlC (a b k:Int):qaK [(a,b)] k=if a==k then some b else none:=rfl
def MapI (w:World) (b:Nat) (es:List (Int × Int)):Prop :=
 ∃ (xs:Array MapEntry) (clock:Nat),w.heap[b]?=some (.map xs clock) /\ xs.toList.map (fun e=>(e.key,e.val))=es.map fun p=>((.int .i64 p.1,.int .i64 p.2):Value × Value)
theorem MapI.made (w:World):MapI (w.alloc (.map #[] 0)) w.heap.size []:=⟨#[],0,(MapKept.heap_alloc w _).1,rfl⟩
theorem MapI.lt {w:World} {b:Nat} {es:List (Int × Int)} (h:MapI w b es):b < w.heap.size:=by
 obtain ⟨xs,c,hb,_⟩:=h
 exact (Array.getElem?_eq_some_iff.1 hb).1
theorem MapI.same {w w':World} {b:Nat} {es:List (Int × Int)} (h:MapI w b es) (k:w'.heap[b]?=w.heap[b]?):MapI w' b es:=by
 obtain ⟨xs,c,hb,r⟩:=h
 exact ⟨xs,c,k.trans hb,r⟩
theorem MapI.keeps {w w':World} {b:Nat} {es:List (Int × Int)} (h:MapI w b es) (k:Keeps w w'):MapI w' b es:=h.same (Below.block k b h.lt)
theorem qft (k:Int):∀ (xs:List MapEntry) (es:List (Int × Int)) (i:Nat),xs.map (fun e=>(e.key,e.val))=es.map (fun p=>((.int .i64 p.1,.int .i64 p.2):Value × Value)) ->
  (qaK es k=none /\ Instr.findNow (.int .i64) (.int .i64 k) xs i=some none) ∨
  ∃ (j:Nat) (v:Int),qaK es k=some v /\ Instr.findNow (.int .i64) (.int .i64 k) xs i=some (some (i+j,.int .i64 v)) /\ es.eraseIdx j=delM es k
 | [],[],_,_ => .inl ⟨rfl,rfl⟩
 | [],p::r,_,h=>by simp at h
 | e::xs,[],_,h=>by simp at h
 | e::xs,p::r,i,h=>by
  simp only [List.map_cons,List.cons.injEq,Prod.mk.injEq] at h
  obtain ⟨⟨h1,h2⟩,h3⟩:=h
  have hs:Instr.sameNow (.int .i64) (.int .i64 k) e.key=some (k==p.1):=by rw [h1];simp [Instr.sameNow]
  by_cases c:p.1=k
  ·refine .inr ⟨0,p.2,by simp [qaK,c],?_,?_⟩
   ·simp only [Instr.findNow,hs,c,h2];simp
   ·unfold delM;rw [List.eraseP_cons_of_pos (by simpa using c)];rfl
  ·have c1:(k==p.1)=false:=by simpa using fun e=>c e.symm
   have c2:(p.1==k)=false:=by simpa using c
   rcases qft k xs r (i+1) h3 with ⟨g1,g2⟩ | ⟨j,v,g1,g2,g3⟩
   ·exact .inl ⟨by simp [qaK,c2,g1],by simp [Instr.findNow,hs,c1,g2]⟩
   ·refine .inr ⟨j+1,v,by simp [qaK,c2,g1],?_,?_⟩
    ·simp only [Instr.findNow,hs,c1,g2];simp;omega
    ·unfold delM at g3 ⊢;rw [List.eraseP_cons_of_neg (by simpa using c),<- g3];rfl
section
variable {P:Program} {w:World} {b:Nat} {es:List (Int × Int)} {t k e:TypeId}
theorem MapI.look (h:MapI w b es) (ht:P.underlying t=some (.map k e)) (hk:P.underlying k=some (.int .i64)) (hz:(zeroValue e).run P w = .ok (.int .i64 0) w) (x:Int) :
  (Instr.lookup t (.map (some b)) (.int .i64 x) true).run P w = .ok (.tuple #[.int .i64 (valM es x),.bool (hasM es x)]) w:=by
 obtain ⟨xs,clock,hb,r⟩:=h
 have ck:∀ em,(Instr.checkKey em 10000 k (.int .i64 x)).run P w = .ok () w:=fun em=>MapKept.run_checkKey hk (by simp [MapKept.IsKey]) em 9999
 rcases qft x xs.toList es 0 r with ⟨g1,g2⟩ | ⟨j,v,g1,g2,-⟩
 ·simp [Instr.lookup,run_underlying ht,MapKept.run_getObj_map hb,ck,MapKept.run_findKey hk g2,hz,Result.andThen,valM,hasM,g1]
 ·simp [Instr.lookup,run_underlying ht,MapKept.run_getObj_map hb,ck,MapKept.run_findKey hk g2,Result.andThen,valM,hasM,g1]
theorem MapI.len (h:MapI w b es) (ht:P.underlying t=some (.map k e)) (ty:TypeId):(Builtin.len_ #[t] ty #[.map (some b)]).run P w = .ok (.int .i64 es.length) w:=by
 obtain ⟨xs,clock,hb,r⟩:=h
 have:xs.size=es.length:=by have:=congrArg List.length r;simpa using this
 rw [<- this]
 simp [Builtin.len_,run_underlying ht,MapKept.run_getObj_map hb,goInt,Result.andThen]
theorem qlD {o o':Obj} (hb:w.heap[b]?=some o):w.grownBy { w with heap:=w.heap.setIfInBounds b o' } (some b) :=
 ⟨rfl,rfl,rfl,by simp,fun i _ hi=>(MapKept.heap_set hb).2 i (fun e=>hi (by rw [e]))⟩
theorem MapI.put (h:MapI w b es) (ht:P.underlying t=some (.map k e)) (hk:P.underlying k=some (.int .i64)) {x:Int} (y:Int) (hx:qaK es x=none) :
  ∃ w',(Instr.mapUpdate t (.map (some b)) (.int .i64 x) (.int .i64 y)).run P w = .ok () w' /\ MapI w' b (es++[(x,y)]) /\ w.grownBy w' (some b):=by
 obtain ⟨xs,clock,hb,r⟩:=h
 have ck:∀ em,(Instr.checkKey em 10000 k (.int .i64 x)).run P w = .ok () w:=fun em=>MapKept.run_checkKey hk (by simp [MapKept.IsKey]) em 9999
 rcases qft x xs.toList es 0 r with ⟨g1,g2⟩ | ⟨j,v,g1,-,-⟩
 ·refine ⟨{ w with heap:=w.heap.setIfInBounds b (.map (xs.push ⟨.int .i64 x,.int .i64 y,clock⟩) (clock+1)) },?_,⟨_,_,(MapKept.heap_set hb).1,by simp [r]⟩,qlD hb⟩
  simp [Instr.mapUpdate,run_underlying ht,MapKept.run_getObj_map hb,ck,MapKept.run_findKey hk g2,MapKept.run_setObj_map _ hb,Result.andThen]
 ·rw [hx] at g1;cases g1
end
section
variable {P:Program} {w:World} {ops:Array Oper} {rest:List Oper} {o:Oper} {a:Act} {Q:Exit->Act->World->Prop}
theorem qeb (hg:o.guard=none) (m x:Operand) (t:TypeId) (hop:o.op=Op.lookup t m x true) (k e:TypeId) (ht:P.underlying t=some (.map k e)) (hk:P.underlying k=some (.int .i64))
  (hz:(zeroValue e).run P w = .ok (.int .i64 0) w) (b:Nat) (es:List (Int × Int)) (hm:a.eval m = .map (some b)) (h:MapI w b es) (z:Int) (hx:a.eval x = .int .i64 z) (v:Int) (ok:Bool) (hv:valM es z=v) (hok:hasM es z=ok)
  (hK:wpList P ops Q rest (a.put o.dst (.tuple #[.int .i64 v,.bool ok])) w):wpList P ops Q (o::rest) a w:=by
 refine wpList_plain hg fun K' hK' => ?_
 have hrun:=h.look ht hk hz z
 rw [hv,hok] at hrun
 unfold Oper.wp
 simp [execOp,hop,hm,hx,hrun,Result.andThen]
 exact hK' _ _ hK
theorem qlE (hg:o.guard=none) (m x y:Operand) (t:TypeId) (hop:o.op=Op.mapUpdate t m x y) (k e:TypeId) (ht:P.underlying t=some (.map k e)) (hk:P.underlying k=some (.int .i64))
  (b:Nat) (es:List (Int × Int)) (hm:a.eval m = .map (some b)) (h:MapI w b es) (z v:Int) (hx:a.eval x = .int .i64 z) (hy:a.eval y = .int .i64 v) (hn:qaK es z=none)
  (hK:∀ w',MapI w' b (es++[(z,v)])->w.grownBy w' (some b)->wpList P ops Q rest (a.put o.dst undef) w'):wpList P ops Q (o::rest) a w:=by
 refine wpList_plain hg fun K' hK' => ?_
 obtain ⟨w',hrun,r1,r2⟩:=h.put ht hk v hn
 unfold Oper.wp
 simp [execOp,hop,hm,hx,hy,hrun,Result.andThen]
 exact hK' _ _ (hK w' r1 r2)
end
end Go.Proofs.YteagpjlgjfaclaaGreatDoor
namespace Go.Proofs.YteagpjlgjfaclaaGreatDoor
set_option maxRecDepth 100000
open Go.RowKit
end Go.Proofs.YteagpjlgjfaclaaGreatDoor
namespace Go.Proofs.YteagpjlgjfaclaaGreatDoor
set_option maxRecDepth 100000
open Go.RowKit
end Go.Proofs.YteagpjlgjfaclaaGreatDoor
