/-
  How long a drawn row is.
  The program's own test whether a number lies between two.
  Fixed priorities, as plain functions, and what holds of the
  Fair shares, as plain functions, and what holds of them.
  Fixed priorities: contracts of the model's functions.
  Fair shares: contracts of the model's functions.
-/
import Derived.Test.YteagpjlgjfaclaaGreatDoorFrame
import Derived.Test.YteagpjlgjfaclaaGreatDoorTaskSpec
namespace Go.Proofs.YteagpjlgjfaclaaGreatDoor
set_option maxRecDepth 100000
open Go.RowKit
set_option maxHeartbeats 1000000 in
theorem qim (a:Option Addr) (n cap:Nat) (few most:Int) (w:World) (hn:n <= 1048576) (h0:0 <= few) (h1:few <= most) (h2:most <= 255) :
  Calls Tryz.prog 48 #[.slice a n cap,.int .i64 few,.int .i64 most] w fun e w'=>∃ z:Int,e = .returned (.int .i64 z) /\ 0 <= z /\ z <= most /\ w'=w:=by
 have hq:(n:Int).tdiv 4=(n:Int) / 4:=Int.tdiv_eq_ediv_of_nonneg (by omega)
 obtain ⟨d,Hd⟩:∃ d,Hid ((n:Int).tdiv 4=d):=⟨_,rfl⟩
 have hd0:0 <= d:=by rw [<- Hd.out,hq];omega
 have hd1:d <= 1048576:=by rw [<- Hd.out,hq];omega
 have hd:(n:Int).tdiv 4=d:=Hd.out
 have hw:IntKind.i64.wrap (few+d)=few+d:=Go.IntWalk.i64_in _ (by omega)
 clear hq Hd
 by_cases hm:most < few+d
 ·go_enter Tryz.func48,Tryz.ntmps48
  go_wp2
  go_ret
  exact ⟨most,rfl,by omega,by omega,rfl⟩
 ·go_enter Tryz.func48,Tryz.ntmps48
  go_wp2
  go_ret
  exact ⟨few+d,rfl,by omega,by omega,rfl⟩
end Go.Proofs.YteagpjlgjfaclaaGreatDoor
namespace Go.Proofs.YteagpjlgjfaclaaGreatDoor
set_option maxRecDepth 100000
open Go.RowKit
theorem qaN (x lo hi:Int) (w:World) :
  Calls Tryz.prog 105 #[.int .i64 x,.int .i64 lo,.int .i64 hi] w fun e w'=>e = .returned (.bool (inB x lo hi)) /\ w'=w:=by
 by_cases h1:lo <= x
 ·by_cases h2:x <= hi
  ·have Hr:Hid (inB x lo hi=true):=qeR h1 h2
   go_enter Tryz.func105,Tryz.ntmps105
   go_wp2
   go_ret
   exact ⟨by rw [Hr.out];rfl,rfl⟩
  ·have Hr:Hid (inB x lo hi=false):=qdj (.inr (by omega))
   have hd:decide (x <= hi)=false:=by simpa using h2
   go_enter Tryz.func105,Tryz.ntmps105
   go_wp2
   go_ret
   exact ⟨by rw [Hr.out];rfl,rfl⟩
 ·have Hr:Hid (inB x lo hi=false):=qdj (.inl (by omega))
  have hd:decide (lo <= x)=false:=by simpa using h1
  go_enter Tryz.func105,Tryz.ntmps105
  go_wp2
  go_ret
  exact ⟨by rw [Hr.out];rfl,rfl⟩
end Go.Proofs.YteagpjlgjfaclaaGreatDoor
namespace Go.Proofs.YteagpjlgjfaclaaGreatDoor
set_option maxRecDepth 100000
open Go.RowKit
def fixB (t:Tsk):Bool:=qah t&&t.cls==2
def qbG (a b:Tsk):Bool:=fixB a&&fixB b&&(if a.prio != b.prio then decide (b.prio < a.prio) else if a.seq != b.seq then decide (a.seq < b.seq) else decide (a.no < b.no))
def qb0 (t:Tsk) (seq:Int):Bool:=fixB t && !(t.round==0) && !decide (1 < t.left)&&inB seq 0 1000000
def qb1 (t:Tsk) (seq:Int):Tsk:=if fixB t && !(t.round==0) then (if decide (1 < t.left) then { t with left:=t.left - 1 } else if inB seq 0 1000000 then { t with left:=t.round,seq:=seq } else t) else t
structure IsFix (t:Tsk):Prop where
 cls:t.cls=2
 no:1 <= t.no /\ t.no <= 1000
 cpu:0 <= t.cpu /\ t.cpu <= 3
 st:1 <= t.st /\ t.st <= 2
 prio:1 <= t.prio /\ t.prio <= 20
 round:0 <= t.round /\ t.round <= 10
 left:min t.round 1 <= t.left /\ t.left <= t.round
 seq:0 <= t.seq /\ t.seq <= 1000000
 none:t.q=0 /\ t.p=0 /\ t.due=0 /\ t.nice=0 /\ t.v=0
theorem qjp (t:Tsk):fixB t=true↔IsFix t:=by
 constructor
 ·intro h
  simp only [fixB,Bool.and_eq_true,beq_iff_eq] at h
  obtain ⟨h1,h2⟩:=h
  simp [qah,qbf,qa1,h2,dueZ,qby,qas] at h1
  obtain ⟨⟨⟨⟨hno,hcpu⟩,hst⟩,hz⟩,⟨⟨hp,hr⟩,hl⟩,hs⟩:=h1
  exact ⟨h2,by omega,by omega,by omega,by omega,by omega,by omega,by omega,by omega,by omega,by omega,by omega,by omega⟩
 ·rintro ⟨h2,hno,hcpu,hst,hp,hr,hl,hs,h0,h1,h3,h4,h5⟩
  simp [fixB,qah,qbf,qa1,h2,dueZ,qby,qas,h0,h1,h3,h4,h5]
  omega
def qbH (t:Tsk) (seq i:Int):Tsk:=if i < t.left then { t with left:=t.left - i } else { t with left:=t.round - (i - t.left),seq:=seq }
end Go.Proofs.YteagpjlgjfaclaaGreatDoor
namespace Go.Proofs.YteagpjlgjfaclaaGreatDoor
set_option maxRecDepth 100000
open Go.RowKit
def qbb (t:Tsk):Bool:=qah t&&t.cls==3
def qbE (a b:Tsk):Bool:=qbb a&&qbb b&&(decide (a.v < b.v)||a.v==b.v&&decide (a.no < b.no))
def qci (t:Tsk) (x:Int):Tsk:=if inB x 0 100000000 then { t with v:=x } else t
def qcZ (t:Tsk):Tsk:=if qbb t then qci t (t.v+qb7 t.nice) else t
def qc0 (t:Tsk) (floor:Int):Tsk:=if qbb t then qci t (max t.v floor) else t
def qdp (t:Tsk) (cpu frm dst:Int):Bool:=qbb t&&inB cpu 0 3&&inB frm 0 100000000&&inB dst 0 100000000 && !decide (100000000 < dst+max (t.v - frm) 0)
def qbF (t:Tsk) (cpu frm dst:Int):Tsk:=if qdp t cpu frm dst then { t with cpu:=cpu,v:=dst+max (t.v - frm) 0 } else t
def qbn (least:Int) (t:Tsk):Int:=if qbb t&&(decide (least < 0)||decide (t.v < least)) then t.v else least
def qf8 (ts:List Tsk):Int:=ts.foldl qbn (-1)
def qc1 (ts:List Tsk) (floor:Int):Int:=if qf8 ts < 0 then floor else max floor (qf8 ts)
structure IsFair (t:Tsk):Prop where
 cls:t.cls=3
 no:1 <= t.no /\ t.no <= 1000
 cpu:0 <= t.cpu /\ t.cpu <= 3
 st:1 <= t.st /\ t.st <= 2
 nice : -4 <= t.nice /\ t.nice <= 4
 v:0 <= t.v /\ t.v <= 100000000
 none:t.q=0 /\ t.p=0 /\ t.left=0 /\ t.due=0 /\ t.prio=0 /\ t.round=0 /\ t.seq=0
theorem qf9 (t:Tsk):qbb t=true↔IsFair t:=by
 constructor
 ·intro h
  simp only [qbb,Bool.and_eq_true,beq_iff_eq] at h
  obtain ⟨h1,h2⟩:=h
  simp [qah,qbf,qa1,h2,dueZ,fixZ,qas] at h1
  obtain ⟨⟨⟨⟨hno,hcpu⟩,hst⟩,hz⟩,hn,hv⟩:=h1
  exact ⟨h2,by omega,by omega,by omega,by omega,by omega,by omega,by omega,by omega,by omega,by omega,by omega,by omega⟩
 ·rintro ⟨h2,hno,hcpu,hst,hn,hv,h0,h1,h3,h4,h5,h6,h7⟩
  simp [qbb,qah,qbf,qa1,h2,dueZ,fixZ,qas,h0,h1,h3,h4,h5,h6,h7]
  omega
theorem qjh (x:Int):0 <= qb7 x /\ qb7 x <= 48:=by
 unfold qb7
 repeat' split
 all_goals omega
end Go.Proofs.YteagpjlgjfaclaaGreatDoor
namespace Go.Proofs.YteagpjlgjfaclaaGreatDoor
set_option maxRecDepth 100000
open Go.RowKit
attribute [local go_sem] Keeps.refl Keeps.alloc Keeps.drew Keeps.drewN
theorem qe2 (t:Tsk) (w:World) :
  Calls Tryz.prog 216 #[tk t] w fun e w'=>e = .returned (.bool (fixB t)) /\ Keeps w w':=by
 go_enter Tryz.func216,Tryz.ntmps216
 go_wp2_with fail
 refine (qcC t _).mono ?_
 rintro e w1 ⟨rfl,k1⟩
 have B1:=(Blk.new w (tc t) 43).keeps k1
 have K1:Keeps w w1:=((Keeps.refl w).alloc _).trans k1
 obtain ⟨_,b1,b2⟩:=B1
 clear k1
 cases hb:qah t
 ·have Hr:Hid (fixB t=false):=by show _=_;simp [fixB,hb]
  go_wp2
  go_ret
  exact ⟨by rw [Hr.out];rfl,K1⟩
 ·have Hr:Hid (fixB t=(t.cls==2)):=by show _=_;simp [fixB,hb]
  go_wp2
  go_ret
  exact ⟨by rw [Hr.out];rfl,K1⟩
set_option maxHeartbeats 4000000 in
theorem qet (t:Tsk) (seq:Int) (w:World) :
  Calls Tryz.prog 204 #[tk t,.int .i64 seq] w fun e w'=>e = .returned (.tuple #[tk (qb1 t seq),.bool (qb0 t seq)]) /\ Keeps w w':=by
 go_enter Tryz.func204,Tryz.ntmps204
 go_wp2_with fail
 refine (qe2 t _).mono ?_
 rintro e w1 ⟨rfl,k1⟩
 have B1:=((Blk.new w (tc t) 43).alloc (.cells (tc Tsk.zero) 43)).keeps k1
 have B2:=(Blk.new (w.alloc (.cells (tc t) 43)) (tc Tsk.zero) 43).keeps k1
 have K1:Hid (Keeps w w1):=(((Keeps.refl w).alloc _).alloc _).trans k1
 simp only [World.size_alloc] at B2
 have R:Hid (Blk w1 (w.heap.size+1) (tc Tsk.zero)):=B2
 obtain ⟨_,b1,b2⟩:=B1
 obtain ⟨_,c1,c2⟩:=B2
 clear k1
 cases hd:fixB t
 ·have Hn:Hid (qb1 t seq=t):=by show _=_;simp [qb1,hd]
  have Hg:Hid (qb0 t seq=false):=by show _=_;simp [qb0,hd]
  go_wp2
  have D:=R.out.putC (tc (t)).toList rfl
  have K:=Keeps.putC (b:=w.heap.size+1) (by omega) (tc (t)).toList 0 K1.out
  change bodyPost _ _ _ _ _ (putC w1 (w.heap.size+1) 0 (tc (t)).toList)
  generalize putC w1 (w.heap.size+1) 0 (tc (t)).toList=Z at D K ⊢
  exact bodyPost_ret (v := .tuple #[tk (t),.bool false]) (by simp [results,Tryz.results204,go_sem,D.cells]) rfl ⟨by rw [Hn.out,Hg.out],K⟩
 ·cases hr:(t.round==0)
  rotate_left
  ·have Hn:Hid (qb1 t seq=t):=by show _=_;simp [qb1,hr]
   have Hg:Hid (qb0 t seq=false):=by show _=_;simp [qb0,hr]
   go_wp2
   have D:=R.out.putC (tc (t)).toList rfl
   have K:=Keeps.putC (b:=w.heap.size+1) (by omega) (tc (t)).toList 0 K1.out
   change bodyPost _ _ _ _ _ (putC w1 (w.heap.size+1) 0 (tc (t)).toList)
   generalize putC w1 (w.heap.size+1) 0 (tc (t)).toList=Z at D K ⊢
   exact bodyPost_ret (v := .tuple #[tk (t),.bool false]) (by simp [results,Tryz.results204,go_sem,D.cells]) rfl ⟨by rw [Hn.out,Hg.out],K⟩
  ·have H:=(qjp t).1 hd
   obtain ⟨r0,r1⟩:=H.round
   obtain ⟨l0,l1⟩:=H.left
   clear H
   cases hl:decide (1 < t.left)
   rotate_left
   ·have Hn:Hid (qb1 t seq={ t with left:=t.left - 1 }):=by show _=_;simp only [qb1,hd,hr,hl,Bool.not_false,Bool.and_true,if_true]
    have Hg:Hid (qb0 t seq=false):=by show _=_;simp only [qb0,hl,Bool.not_true,Bool.and_false,Bool.false_and]
    go_wp2
    have D:=(R.out.far (c:=w.heap.size) (o:=7) (by omega) (.int .i64 (t.left - 1))).putC (tc ({ t with left:=t.left - 1 })).toList rfl
    have K:=Keeps.putC (b:=w.heap.size+1) (by omega) (tc ({ t with left:=t.left - 1 })).toList 0 (K1.out.setCell (p:=⟨w.heap.size,7,none⟩) (Nat.le_refl _) (.int .i64 (t.left - 1)))
    change bodyPost _ _ _ _ _ (putC (w1.setCell ⟨w.heap.size,7,none⟩ (.int .i64 (t.left - 1))) (w.heap.size+1) 0 (tc ({ t with left:=t.left - 1 })).toList)
    generalize putC (w1.setCell ⟨w.heap.size,7,none⟩ (.int .i64 (t.left - 1))) (w.heap.size+1) 0 (tc ({ t with left:=t.left - 1 })).toList=Z at D K ⊢
    exact bodyPost_ret (v := .tuple #[tk ({ t with left:=t.left - 1 }),.bool false]) (by simp [results,Tryz.results204,go_sem,D.cells]) rfl ⟨by rw [Hn.out,Hg.out],K⟩
   ·cases hi:inB seq 0 1000000
    ·have Hn:Hid (qb1 t seq=t):=by show _=_;simp only [qb1,hd,hr,hl,hi,Bool.not_false,Bool.and_true,if_true,Bool.false_eq_true,if_false]
     have Hg:Hid (qb0 t seq=false):=by show _=_;simp only [qb0,hi,Bool.and_false]
     go_wp2_with (go_at_call 27;refine (qag _ _ _ _).mono ?_;rintro e w' ⟨rfl,hw'⟩;have hw2:=hw'.symm;subst hw2)
     have D:=R.out.putC (tc (t)).toList rfl
     have K:=Keeps.putC (b:=w.heap.size+1) (by omega) (tc (t)).toList 0 K1.out
     change bodyPost _ _ _ _ _ (putC w1 (w.heap.size+1) 0 (tc (t)).toList)
     generalize putC w1 (w.heap.size+1) 0 (tc (t)).toList=Z at D K ⊢
     exact bodyPost_ret (v := .tuple #[tk (t),.bool false]) (by simp [results,Tryz.results204,go_sem,D.cells]) rfl ⟨by rw [Hn.out,Hg.out],K⟩
    ·have Hn:Hid (qb1 t seq={ t with left:=t.round,seq:=seq }):=by show _=_;simp only [qb1,hd,hr,hl,hi,Bool.not_false,Bool.and_true,if_true,Bool.false_eq_true,if_false]
     have Hg:Hid (qb0 t seq=true):=by show _=_;simp only [qb0,hd,hr,hl,hi,Bool.not_false,Bool.and_true]
     go_wp2_with (go_at_call 27;refine (qag _ _ _ _).mono ?_;rintro e w' ⟨rfl,hw'⟩;have hw2:=hw'.symm;subst hw2)
     have D:=((R.out.far (c:=w.heap.size) (o:=7) (by omega) (.int .i64 (t.round))).far (c:=w.heap.size) (o:=11) (by omega) (.int .i64 (seq))).putC (tc ({ t with left:=t.round,seq:=seq })).toList rfl
     have K:=Keeps.putC (b:=w.heap.size+1) (by omega) (tc ({ t with left:=t.round,seq:=seq })).toList 0 ((K1.out.setCell (p:=⟨w.heap.size,7,none⟩) (Nat.le_refl _) (.int .i64 (t.round))).setCell (p:=⟨w.heap.size,11,none⟩) (Nat.le_refl _) (.int .i64 (seq)))
     change bodyPost _ _ _ _ _ (putC ((w1.setCell ⟨w.heap.size,7,none⟩ (.int .i64 (t.round))).setCell ⟨w.heap.size,11,none⟩ (.int .i64 (seq))) (w.heap.size+1) 0 (tc ({ t with left:=t.round,seq:=seq })).toList)
     generalize putC ((w1.setCell ⟨w.heap.size,7,none⟩ (.int .i64 (t.round))).setCell ⟨w.heap.size,11,none⟩ (.int .i64 (seq))) (w.heap.size+1) 0 (tc ({ t with left:=t.round,seq:=seq })).toList=Z at D K ⊢
     exact bodyPost_ret (v := .tuple #[tk ({ t with left:=t.round,seq:=seq }),.bool true]) (by simp [results,Tryz.results204,go_sem,D.cells]) rfl ⟨by rw [Hn.out,Hg.out],K⟩
set_option maxHeartbeats 2000000 in
theorem qjq (a b:Tsk) (w:World) :
  Calls Tryz.prog 208 #[tk a,tk b] w fun e w'=>e = .returned (.bool (qbG a b)) /\ Keeps w w':=by
 go_enter Tryz.func208,Tryz.ntmps208
 go_wp2_with fail
 have kW:Keeps w ((w.alloc (.cells (tc a) 43)).alloc (.cells (tc b) 43)):=((Keeps.refl w).alloc _).alloc _
 have r1:∀ w',Keeps ((w.alloc (.cells (tc a) 43)).alloc (.cells (tc b) 43)) w'->∀ k,w'.cell? ⟨w.heap.size,k,none⟩=(tc a)[k]?:=fun w' h=>(((Blk.new w (tc a) 43).alloc _).keeps h).cells
 have r2:∀ w',Keeps ((w.alloc (.cells (tc a) 43)).alloc (.cells (tc b) 43)) w'->∀ k,w'.cell? ⟨w.heap.size+1,k,none⟩=(tc b)[k]?:=fun w' h=>by
  have:=(Blk.new (w.alloc (.cells (tc a) 43)) (tc b) 43).keeps h
  simp only [World.size_alloc] at this
  exact this.cells
 generalize (w.alloc (.cells (tc a) 43)).alloc (.cells (tc b) 43)=W at *
 refine (qe2 a _).mono ?_
 rintro e w1 ⟨rfl,k1⟩
 cases ha:fixB a
 ·have Hr:Hid (qbG a b=false):=by show _=_;simp [qbG,ha]
  go_wp2
  go_ret
  exact ⟨by rw [Hr.out];rfl,kW.trans k1⟩
 ·go_wp2_with fail
  refine (qe2 b _).mono ?_
  rintro e w2 ⟨rfl,k2⟩
  have K2:=k1.trans k2
  cases hb:fixB b
  ·have Hr:Hid (qbG a b=false):=by show _=_;simp [qbG,hb]
   go_wp2
   go_ret
   exact ⟨by rw [Hr.out];rfl,kW.trans K2⟩
  ·cases h1:(a.prio != b.prio)
   ·cases h2:(a.seq != b.seq)
    ·have Hr:Hid (qbG a b=decide (a.no < b.no)):=by show _=_;simp only [qbG,ha,hb,h1,h2,Bool.true_and,Bool.false_eq_true,if_false]
     go_wp2
     go_ret
     exact ⟨by rw [Hr.out];rfl,kW.trans K2⟩
    ·have Hr:Hid (qbG a b=decide (a.seq < b.seq)):=by show _=_;simp only [qbG,ha,hb,h1,h2,Bool.true_and,Bool.false_eq_true,if_false,if_true]
     go_wp2
     go_ret
     exact ⟨by rw [Hr.out];rfl,kW.trans K2⟩
   ·have Hr:Hid (qbG a b=decide (b.prio < a.prio)):=by show _=_;simp only [qbG,ha,hb,h1,Bool.true_and,if_true]
    go_wp2
    go_ret
    exact ⟨by rw [Hr.out];rfl,kW.trans K2⟩
end Go.Proofs.YteagpjlgjfaclaaGreatDoor
namespace Go.Proofs.YteagpjlgjfaclaaGreatDoor
set_option maxRecDepth 100000
open Go.RowKit
attribute [local go_sem] Keeps.refl Keeps.alloc Keeps.drew Keeps.drewN
theorem qcD (a b:Int) (w:World) :
  Calls Tryz.prog 56 #[.int .i64 a,.int .i64 b] w fun e w'=>e = .returned (.int .i64 (max a b)) /\ w'=w:=by
 by_cases h:a > b
 ·have Hr:Hid (max a b=a):=by show _=_;omega
  go_enter Tryz.func56,Tryz.ntmps56
  go_wp2
  go_ret
  exact ⟨by rw [Hr.out];rfl,rfl⟩
 ·have Hr:Hid (max a b=b):=by show _=_;omega
  have hd:decide (a > b)=false:=by simpa using h
  go_enter Tryz.func56,Tryz.ntmps56
  go_wp2
  go_ret
  exact ⟨by rw [Hr.out];rfl,rfl⟩
theorem qcE (t:Tsk) (w:World) :
  Calls Tryz.prog 184 #[tk t] w fun e w'=>e = .returned (.bool (qbb t)) /\ Keeps w w':=by
 go_enter Tryz.func184,Tryz.ntmps184
 go_wp2_with fail
 refine (qcC t _).mono ?_
 rintro e w1 ⟨rfl,k1⟩
 have B1:=(Blk.new w (tc t) 43).keeps k1
 have K1:Keeps w w1:=((Keeps.refl w).alloc _).trans k1
 obtain ⟨_,b1,b2⟩:=B1
 clear k1
 cases hb:qah t
 ·have Hr:Hid (qbb t=false):=by show _=_;simp [qbb,hb]
  go_wp2
  go_ret
  exact ⟨by rw [Hr.out];rfl,K1⟩
 ·have Hr:Hid (qbb t=(t.cls==3)):=by show _=_;simp [qbb,hb]
  go_wp2
  go_ret
  exact ⟨by rw [Hr.out];rfl,K1⟩
set_option maxHeartbeats 2000000 in
theorem qji (a b:Tsk) (w:World) :
  Calls Tryz.prog 209 #[tk a,tk b] w fun e w'=>e = .returned (.bool (qbE a b)) /\ Keeps w w':=by
 go_enter Tryz.func209,Tryz.ntmps209
 go_wp2_with fail
 have kW:Keeps w ((w.alloc (.cells (tc a) 43)).alloc (.cells (tc b) 43)):=((Keeps.refl w).alloc _).alloc _
 have r1:∀ w',Keeps ((w.alloc (.cells (tc a) 43)).alloc (.cells (tc b) 43)) w'->∀ k,w'.cell? ⟨w.heap.size,k,none⟩=(tc a)[k]?:=fun w' h=>(((Blk.new w (tc a) 43).alloc _).keeps h).cells
 have r2:∀ w',Keeps ((w.alloc (.cells (tc a) 43)).alloc (.cells (tc b) 43)) w'->∀ k,w'.cell? ⟨w.heap.size+1,k,none⟩=(tc b)[k]?:=fun w' h=>by
  have:=(Blk.new (w.alloc (.cells (tc a) 43)) (tc b) 43).keeps h
  simp only [World.size_alloc] at this
  exact this.cells
 generalize (w.alloc (.cells (tc a) 43)).alloc (.cells (tc b) 43)=W at *
 refine (qcE a _).mono ?_
 rintro e w1 ⟨rfl,k1⟩
 cases ha:qbb a
 ·have Hr:Hid (qbE a b=false):=by show _=_;simp [qbE,ha]
  go_wp2
  go_ret
  exact ⟨by rw [Hr.out];rfl,kW.trans k1⟩
 ·go_wp2_with fail
  refine (qcE b _).mono ?_
  rintro e w2 ⟨rfl,k2⟩
  have K2:=k1.trans k2
  cases hb:qbb b
  ·have Hr:Hid (qbE a b=false):=by show _=_;simp [qbE,hb]
   go_wp2
   go_ret
   exact ⟨by rw [Hr.out];rfl,kW.trans K2⟩
  ·cases h1:decide (a.v < b.v)
   ·cases h2:(a.v==b.v)
    ·have Hr:Hid (qbE a b=false):=by show _=_;simp only [qbE,h1,h2,Bool.false_and,Bool.or_false,Bool.and_false]
     go_wp2
     go_ret
     exact ⟨by rw [Hr.out];rfl,kW.trans K2⟩
    ·have Hr:Hid (qbE a b=decide (a.no < b.no)):=by show _=_;simp only [qbE,ha,hb,h1,h2,Bool.true_and,Bool.false_or]
     go_wp2
     go_ret
     exact ⟨by rw [Hr.out];rfl,kW.trans K2⟩
   ·have Hr:Hid (qbE a b=true):=by show _=_;simp only [qbE,ha,hb,h1,Bool.true_or,Bool.and_true]
    go_wp2
    go_ret
    exact ⟨by rw [Hr.out];rfl,kW.trans K2⟩
set_option maxHeartbeats 2000000 in
theorem qes (t:Tsk) (x:Int) (w:World) :
  Calls Tryz.prog 214 #[tk t,.int .i64 x] w fun e w'=>e = .returned (tk (qci t x)) /\ Keeps w w':=by
 cases hb:inB x 0 100000000
 ·have Hn:Hid (qci t x=t):=by show _=_;simp [qci,hb]
  go_enter Tryz.func214,Tryz.ntmps214
  go_wp2_with (go_at_call 27;refine (qag _ _ _ _).mono ?_;rintro e w' ⟨rfl,rfl⟩;rw [hb])
  exact bodyPost_ret (v:=tk t) (by simp [results,Tryz.results214,go_sem]) rfl ⟨by rw [Hn.out],by repeat (first | exact Keeps.refl _ | refine Keeps.alloc ?_ _ | refine Keeps.drewN ?_ _ | refine Keeps.setCell ?_ (by simp [go_sem]) _)⟩
 ·have Hn:Hid (qci t x={ t with v:=x }):=by show _=_;simp [qci,hb]
  go_enter Tryz.func214,Tryz.ntmps214
  go_wp2_with (go_at_call 27;refine (qag _ _ _ _).mono ?_;rintro e w' ⟨rfl,rfl⟩;rw [hb])
  exact bodyPost_ret (v:=tk { t with v:=x }) (by simp [results,Tryz.results214,go_sem]) rfl ⟨by rw [Hn.out],by repeat (first | exact Keeps.refl _ | refine Keeps.alloc ?_ _ | refine Keeps.drewN ?_ _ | refine Keeps.setCell ?_ (by simp [go_sem]) _)⟩
end Go.Proofs.YteagpjlgjfaclaaGreatDoor
