/-
  The greatest common divisor: contracts of the program's and
-/
import Derived.Test.YthpdlbcdbncnhaaGreatDoorGBase1
import Derived.Test.YthpdlbcdbncnhaaGreatDoorGTask1
import Derived.Laws.ResultCell
import Derived.Deep.RegionHeld3
import Derived.Test.YthpdlbcdbncnhaaGreatDoorRows
import Derived.Deep.OwnRows
import Derived.Deep.AppendLies
namespace Go.Proofs.YthpdlbcdbncnhaaGreatDoor
set_option maxRecDepth 100000
open Go.RowKit
theorem qiy (x y:Nat):Nat.gcd y (x % y)=Nat.gcd x y:=by
 rw [Nat.gcd_comm x y,Nat.gcd_rec y x,Nat.gcd_comm]
set_option maxHeartbeats 400000 in
theorem qny (a b:Nat) (w:World) (ha:a <= 9223372036854775807) (hb:b <= 9223372036854775807) :
  Calls Tryz.prog 161 #[.int .i64 a,.int .i64 b] w fun e w'=>e = .returned (.int .i64 (Nat.gcd a b)) /\ Quiet w w':=by
 go_enter Tryz.func161,Tryz.ntmps161
 go_wp2
 go_loopw [0,1] (fun s t wr=>∃ x y:Nat,x <= 9223372036854775807 /\ y <= 9223372036854775807 /\ s = .int .i64 x /\ t = .int .i64 y /\ Hid (Nat.gcd x y=Nat.gcd a b) /\ Quiet w wr) (fun _ t _=>(intOf t).toNat)
 case atStart=>exact ⟨a,b,ha,hb,rfl,rfl,rfl,Quiet.refl _⟩
 case round =>
  obtain ⟨x,y,hx,hy,rfl,rfl,hg,hq⟩:=hrel
  by_cases h0:0 < y
  ·have h1:x % y < y:=Nat.mod_lt _ h0
   have hn:((y:Int) != 0)=true:=by rw [bne_iff_ne];omega
   go_wp2
   go_quiet (fail)
   go_wp2
   go_roundw
   case rel=>exact ⟨y,x % y,hy,by omega,rfl,rfl,(qiy x y).trans hg.out,hq.drewN _⟩
   case measure=>simp only [intOf];omega
  ·have h2:y=0:=by omega
   subst h2
   go_wp2
   go_ret
   exact ⟨by rw [<- hg.out];simp,hq⟩
set_option maxHeartbeats 400000 in
theorem qnz (a b:Nat) (w:World) (ha:a <= 9223372036854775807) (hb:b <= 9223372036854775807) :
  Calls Tryz.prog 251 #[.int .i64 a,.int .i64 b] w fun e w'=>e = .returned (.int .i64 (Nat.gcd a b)) /\ Quiet w w':=by
 go_enter Tryz.func251,Tryz.ntmps251
 go_wp2
 go_loopw [0,1] (fun s t wr=>∃ x y:Nat,x <= 9223372036854775807 /\ y <= 9223372036854775807 /\ s = .int .i64 x /\ t = .int .i64 y /\ Hid (Nat.gcd x y=Nat.gcd a b) /\ Quiet w wr) (fun _ t _=>(intOf t).toNat)
 case atStart=>exact ⟨a,b,ha,hb,rfl,rfl,rfl,Quiet.refl _⟩
 case round =>
  obtain ⟨x,y,hx,hy,rfl,rfl,hg,hq⟩:=hrel
  by_cases h0:0 < y
  ·have h1:x % y < y:=Nat.mod_lt _ h0
   have hn:((y:Int) != 0)=true:=by rw [bne_iff_ne];omega
   go_wp2
   go_quiet (fail)
   go_wp2
   go_roundw
   case rel=>exact ⟨y,x % y,hy,by omega,rfl,rfl,(qiy x y).trans hg.out,hq.drewN _⟩
   case measure=>simp only [intOf];omega
  ·have h2:y=0:=by omega
   subst h2
   go_wp2
   go_ret
   exact ⟨by rw [<- hg.out];simp,hq⟩
theorem qiz (a b:Int) (w:World) :
  Calls Tryz.prog 90 #[.int .i64 a,.int .i64 b] w fun e w'=>e = .returned (.int .i64 (max a b)) /\ w'=w:=by
 by_cases h0:b < a
 ·have Hr:Hid (max a b=a):=by show _=_;omega
  go_enter Tryz.func90,Tryz.ntmps90
  go_wp2
  go_ret
  exact ⟨by rw [Hr.out];rfl,rfl⟩
 ·have Hr:Hid (max a b=b):=by show _=_;omega
  go_enter Tryz.func90,Tryz.ntmps90
  go_wp2
  go_ret
  exact ⟨by rw [Hr.out];rfl,rfl⟩
end Go.Proofs.YthpdlbcdbncnhaaGreatDoor
namespace Go.Proofs.YthpdlbcdbncnhaaGreatDoor
set_option maxRecDepth 100000
open Go.RowKit
end Go.Proofs.YthpdlbcdbncnhaaGreatDoor
namespace Go.Proofs.YthpdlbcdbncnhaaGreatDoor.Plain
set_option maxRecDepth 100000
def qaY (s x:Int × Int):Int × Int :=
 ((s.1*x.2+x.1*s.2) / (Int.gcd (s.1*x.2+x.1*s.2) (s.2*x.2):Int),(s.2*x.2) / (Int.gcd (s.1*x.2+x.1*s.2) (s.2*x.2):Int))
def sumI (xs:List (Int × Int)):Int × Int:=xs.foldl qaY (0,1)
theorem qnA (xs:List (Int × Int)) (x:Int × Int):sumI (xs++[x])=qaY (sumI xs) x:=by simp [sumI]
theorem qiA (xs:List (Int × Int)) (k:Nat) (h:k < xs.length):sumI (xs.take (k+1))=qaY (sumI (xs.take k)) (xs.getD k (0,0)):=by
 rw [List.take_succ_eq_append_getElem h,qnA];simp [h]
def Inv (k:Nat) (s:Int × Int):Prop:=0 <= s.1 /\ 1 <= s.2 /\ s.2 <= ((40 ^ k:Nat):Int) /\ s.1 <= (k:Int)*s.2
theorem qiB:Inv 0 (0,1):=by simp [Inv]
theorem qnB (n d g:Int) (_hg:1 <= g) (hn:g ∣ n) (hd:g ∣ d):n=g*(n / g) /\ d=g*(d / g):=⟨(Int.mul_ediv_cancel' hn).symm,(Int.mul_ediv_cancel' hd).symm⟩
theorem qfj {a b c:Int} (h:a <= b) (hc:0 <= c):a*c <= b*c:=Int.mul_le_mul_of_nonneg_right h hc
theorem qnC {a b c:Int} (h:a <= b) (hc:0 <= c):c*a <= c*b:=Int.mul_le_mul_of_nonneg_left h hc
theorem qiC {k:Nat} {n d q p:Int} (h:Inv k (n,d)) (hp1:1 <= p) (hp2:p <= 40) (hq1:1 <= q) (hq2:q <= p) :
  1 <= (Int.gcd (n*p+q*d) (d*p):Int) /\ (Int.gcd (n*p+q*d) (d*p):Int) <= d*p /\ 0 <= n*p /\ 0 <= q*d /\ 1 <= d*p /\ n*p+q*d <= (k+1:Int)*(d*p) /\ n*p <= (k:Int)*(d*p) /\ q*d <= d*p /\ d*p <= ((40 ^ (k+1):Nat):Int) /\ Inv (k+1) (qaY (n,d) (q,p)):=by
 obtain ⟨h1,h2,h3,h4⟩:=h
 simp only at h1 h2 h3 h4
 have a1:0 <= n*p:=Int.mul_nonneg h1 (by omega)
 have a2:0 <= q*d:=Int.mul_nonneg (by omega) (by omega)
 have a3:1*1 <= d*p:=Int.mul_le_mul h2 hp1 (by omega) (by omega)
 have a4:n*p <= ((k:Int)*d)*p:=qfj h4 (by omega)
 have a5:q*d <= p*d:=qfj hq2 (by omega)
 have a6:((k:Int)*d)*p=(k:Int)*(d*p):=Int.mul_assoc _ _ _
 have a7:p*d=d*p:=Int.mul_comm _ _
 have a8:(k+1:Int)*(d*p)=(k:Int)*(d*p)+d*p:=by rw [Int.add_mul,Int.one_mul]
 have a9:d*p <= ((40 ^ k:Nat):Int)*p:=qfj h3 (by omega)
 have a10:((40 ^ k:Nat):Int)*p <= ((40 ^ k:Nat):Int)*40:=qnC hp2 (by omega)
 have a11:((40 ^ (k+1):Nat):Int)=((40 ^ k:Nat):Int)*40:=by rw [Nat.pow_succ];exact Int.natCast_mul _ _
 have g0:0 < Int.gcd (n*p+q*d) (d*p):=Int.gcd_pos_of_ne_zero_right _ (by omega)
 have gd:=Int.gcd_dvd_right (n*p+q*d) (d*p)
 have gn:=Int.gcd_dvd_left (n*p+q*d) (d*p)
 have gle:=Int.le_of_dvd (by omega) gd
 unfold Inv qaY
 simp only
 generalize (Int.gcd (n*p+q*d) (d*p):Nat)=g at *
 obtain ⟨e1,e2⟩:=qnB _ _ (g:Int) (by omega) gn gd
 have f1:0 <= (n*p+q*d) / (g:Int):=Int.ediv_nonneg (by omega) (by omega)
 have f2:0 < (d*p) / (g:Int):=Int.ediv_pos_of_pos_of_dvd (by omega) (by omega) gd
 have f3:(d*p) / (g:Int) <= d*p:=Int.ediv_le_self _ (by omega)
 generalize (n*p+q*d) / (g:Int)=n' at *
 generalize (d*p) / (g:Int)=d' at *
 refine ⟨by omega,by omega,a1,a2,by omega,by omega,by omega,by omega,by omega,f1,by omega,by omega,?_⟩
 have c1:n*p+q*d <= (k+1:Int)*(d*p):=by omega
 rw [e1,e2] at c1
 have c2:(k+1:Int)*((g:Int)*d')=(g:Int)*((k+1:Int)*d'):=Int.mul_left_comm _ _ _
 rw [c2] at c1
 have:=Int.le_of_mul_le_mul_left c1 (by omega)
 simpa using this
theorem qnD {k:Nat} (h:k <= 7):((40 ^ k:Nat):Int) <= 163840000000:=by
 have:40 ^ k <= 40 ^ 7:=Nat.pow_le_pow_right (by omega) h
 omega
theorem qiD {k:Nat} {n d q p:Int} (h:Inv k (n,d)) (hk:k < 7) (hp1:1 <= p) (hp2:p <= 40) (hq1:1 <= q) (hq2:q <= p) :
  0 <= n*p /\ n*p <= 1146880000000 /\ 0 <= q*d /\ q*d <= 163840000000 /\ 1 <= d*p /\ d*p <= 163840000000 /\ 1 <= (Int.gcd (n*p+q*d) (d*p):Int) /\ (Int.gcd (n*p+q*d) (d*p):Int) <= 163840000000:=by
 obtain ⟨a1,a2,a3,a4,a5,a6,a7,a8,a9,_⟩:=qiC h hp1 hp2 hq1 hq2
 have:=qnD (k:=k+1) (by omega)
 have:(k:Int)*(d*p) <= 7*(d*p):=qfj (by omega) (by omega)
 omega
theorem qiE {k:Nat} {n d q p:Int} (h:Inv k (n,d)) (hp1:1 <= p) (hp2:p <= 40) (hq1:1 <= q) (hq2:q <= p):Inv (k+1) (qaY (n,d) (q,p)):=(qiC h hp1 hp2 hq1 hq2).2.2.2.2.2.2.2.2.2
end Go.Proofs.YthpdlbcdbncnhaaGreatDoor.Plain
namespace Go.Proofs.YthpdlbcdbncnhaaGreatDoor
set_option maxRecDepth 100000
open Go.RowKit
attribute [local go_sem] Keeps.refl Keeps.alloc Keeps.drew Keeps.drewN
def Sh (w:World) (a:Option Addr) (xs:List (Int × Int)):Prop :=
 xs=[]∨∃ b off,a=some ⟨b,off,none⟩ /\ ∀ i,i < xs.length->w.cell? ⟨b,off+i*2,none⟩=some (.int .i64 (xs.getD i (0,0)).1) /\ w.cell? ⟨b,off+i*2+1,none⟩=some (.int .i64 (xs.getD i (0,0)).2)
theorem Sh.keeps {w w':World} {a:Option Addr} {xs:List (Int × Int)} (h:Sh w a xs) (k:Keeps w w'):Sh w' a xs:=by
 rcases h with h | ⟨b,off,rfl,h⟩
 ·exact .inl h
 ·exact .inr ⟨b,off,rfl,fun i hi=>⟨Keeps.has (h i hi).1 _ k,Keeps.has (h i hi).2 _ k⟩⟩
theorem Sh.at {w:World} {a:Option Addr} {xs:List (Int × Int)} (h:Sh w a xs) {i:Nat} (hi:i < xs.length) :
  ∃ b off q p,a=some ⟨b,off,none⟩ /\ xs.getD i (0,0)=(q,p) /\ w.cell? ⟨b,off+i*2,none⟩=some (.int .i64 q) /\ w.cell? ⟨b,off+i*2+1,none⟩=some (.int .i64 p):=by
 rcases h with rfl | ⟨b,off,rfl,h⟩
 ·simp at hi
 ·exact ⟨b,off,_,_,rfl,rfl,(h i hi).1,(h i hi).2⟩
def qbg (xs:List (Int × Int)):Bool:=xs.all fun x=>okB x.1 x.2
theorem qiF (xs:List (Int × Int)) (k:Nat) (h:k < xs.length):qbg (xs.take (k+1))=(qbg (xs.take k)&&okB (xs.getD k (0,0)).1 (xs.getD k (0,0)).2):=by
 rw [List.take_succ_eq_append_getElem h,qbg,List.all_append];simp [qbg,h]
theorem qiG {xs:List (Int × Int)} {k:Nat} (h:k < xs.length) (hk:okB (xs.getD k (0,0)).1 (xs.getD k (0,0)).2=false):qbg xs=false:=by
 rw [qbg,List.all_eq_false]
 refine ⟨xs[k],List.getElem_mem h,?_⟩
 have e:xs.getD k (0,0)=xs[k]:=by simp [h]
 rw [e] at hk;simp [hk]
def qbK (xs:List (Int × Int)):Bool:=decide (xs.length <= 7)&&qbg xs
set_option maxHeartbeats 1000000 in
theorem qiH (a:Option Addr) (cap:Nat) (xs:List (Int × Int)) (w:World) (hl:xs.length <= maxLen) (hs:Sh w a xs) :
  Calls Tryz.prog 211 #[.slice a xs.length cap] w fun e w'=>e = .returned (.bool (qbK xs)) /\ Keeps w w':=by
 unfold maxLen at hl
 generalize hn:xs.length=n at hl
 have Hn:Hid (xs.length=n):=hn
 by_cases h7:7 < n
 ·have Hr:Hid (qbK xs=false):=by show _=_;simp [qbK,hn];omega
  clear hn
  go_enter Tryz.func211,Tryz.ntmps211
  go_wp2
  go_ret
  exact ⟨by rw [Hr.out];rfl,Keeps.refl _⟩
 ·have Hr:Hid (qbK xs=qbg xs):=by show _=_;simp [qbK,hn];omega
  clear hn
  go_enter Tryz.func211,Tryz.ntmps211
  go_wp2
  go_loopw [10] (fun i wr=>∃ k:Nat,k <= n /\ i = .int .i64 k /\ Hid (qbg (xs.take k)=true) /\ Keeps w wr) (fun i _=>n - (intOf i).toNat)
  case atStart=>exact ⟨0,Nat.zero_le _,rfl,by simp [Hid,qbg],Keeps.refl _⟩
  case round =>
   obtain ⟨k,hk,rfl,hok,hK⟩:=hrel
   by_cases hlt:k < n
   ·obtain ⟨b,off,q,p,rfl,e,c0,c1⟩:=hs.at (by rw [Hn.out];exact hlt)
    have E:Hid (xs.getD k (0,0)=(q,p)):=e
    clear e
    have r0:=Keeps.has c0
    have r1:=Keeps.has c1
    clear c0 c1 hs
    cases ho:okB q p
    ·have Hf:Hid (qbg xs=false):=qiG (k:=k) (by rw [Hn.out];exact hlt) (by rw [E.out];exact ho)
     go_wp2_with (go_at_call 176;refine (qem _ _ _).mono ?_;rintro e w' ⟨rfl,rfl⟩)
     go_ret
     exact ⟨by rw [Hr.out,Hf.out];rfl,(hK.alloc _).alloc _⟩
    ·have Hf:Hid (qbg (xs.take (k+1))=true):=by
      show _=_
      rw [qiF xs k (by rw [Hn.out];exact hlt),hok.out,E.out];exact ho
     go_wp2_with (go_at_call 176;refine (qem _ _ _).mono ?_;rintro e w' ⟨rfl,rfl⟩)
     go_roundw
     case rel=>exact ⟨k+1,by omega,by go_num,Hf,(hK.alloc _).alloc _⟩
     case measure=>simp only [intOf];omega
   ·have Hf:Hid (qbg xs=true):=by
     show _=_
     have:=hok.out
     rwa [List.take_of_length_le (by rw [Hn.out];omega)] at this
    go_wp2
    go_ret
    exact ⟨by rw [Hr.out,Hf.out];rfl,hK⟩
theorem qnE (a b:Int) (w:World) (ha:0 <= a) (ha':a <= 9223372036854775807) (hb:0 <= b) (hb':b <= 9223372036854775807) :
  Calls Tryz.prog 161 #[.int .i64 a,.int .i64 b] w fun e w'=>e = .returned (.int .i64 (Int.gcd a b)) /\ Quiet w w':=by
 obtain ⟨x,rfl⟩:=Int.eq_ofNat_of_zero_le ha
 obtain ⟨y,rfl⟩:=Int.eq_ofNat_of_zero_le hb
 exact qny x y w (by omega) (by omega)
theorem qnF (a b:Int) (w:World) (ha:0 <= a) (ha':a <= 9223372036854775807) (hb:0 <= b) (hb':b <= 9223372036854775807) :
  Calls Tryz.prog 251 #[.int .i64 a,.int .i64 b] w fun e w'=>e = .returned (.int .i64 (Int.gcd a b)) /\ Quiet w w':=by
 obtain ⟨x,rfl⟩:=Int.eq_ofNat_of_zero_le ha
 obtain ⟨y,rfl⟩:=Int.eq_ofNat_of_zero_le hb
 exact qnz x y w (by omega) (by omega)
set_option maxHeartbeats 400000 in
theorem qnG (a b:Int) (w:World) (ha:0 <= a) (ha':a <= 10000000000000) (hb:1 <= b) (hb':b <= 10000000000000) :
  Calls Tryz.prog 245 #[sh a b] w fun e w'=>e = .returned (sh (a / (Int.gcd a b:Int)) (b / (Int.gcd a b:Int))) /\ Keeps w w':=by
 have g1:1 <= (Int.gcd a b:Int):=by
  have:0 < Int.gcd a b:=Int.gcd_pos_of_ne_zero_right _ (by omega)
  omega
 have g2:(Int.gcd a b:Int) <= 10000000000000:=by
  have:=Int.le_of_dvd (by omega) (Int.gcd_dvd_right a b)
  omega
 generalize hg:(Int.gcd a b:Int)=g at *
 have Hg:Hid ((Int.gcd a b:Int)=g):=hg
 clear hg
 have d1:0 <= a / g:=Int.ediv_nonneg ha (by omega)
 have d2:a / g <= 10000000000000:=Int.le_trans (Int.ediv_le_self _ ha) ha'
 have d3:0 <= b / g:=Int.ediv_nonneg (by omega) (by omega)
 have d4:b / g <= 10000000000000:=Int.le_trans (Int.ediv_le_self _ (by omega)) hb'
 go_enter Tryz.func245,Tryz.ntmps245
 go_wp2_with (go_at_call 251;refine (qnF a b _ ?_ ?_ ?_ ?_).mono ?_;omega;omega;omega;omega;rintro e w' ⟨rfl,n,rfl⟩;rw [Hg.out])
 go_region
 go_wp2
 exact bodyPost_ret (v:=sh (a / g) (b / g)) (by simp [results,Tryz.results245,go_sem]) rfl ⟨rfl,((((((Keeps.refl _).alloc _).alloc _).drewN _).setCell (by simp) _).setCell (by simp) _)⟩
open Plain
set_option maxHeartbeats 400000 in
theorem qnH (k:Nat) (n d q p:Int) (w:World) (hI:Inv k (n,d)) (hk:k < 7) (hp1:1 <= p) (hp2:p <= 40) (hq1:1 <= q) (hq2:q <= p) :
  Calls Tryz.prog 235 #[sh n d,sh q p] w fun e w'=>e = .returned (sh (qaY (n,d) (q,p)).1 (qaY (n,d) (q,p)).2) /\ Keeps w w':=by
 obtain ⟨b1,b2,b3,b4,b5,b6,_,_⟩:=qiD hI hk hp1 hp2 hq1 hq2
 clear hI
 have Hs:Hid (sh ((n*p+q*d) / (Int.gcd (n*p+q*d) (d*p):Int)) ((d*p) / (Int.gcd (n*p+q*d) (d*p):Int))=sh (qaY (n,d) (q,p)).1 (qaY (n,d) (q,p)).2):=rfl
 go_enter Tryz.func235,Tryz.ntmps235
 go_wp2_with (go_at_call 245;refine (qnG _ _ _ ?_ ?_ ?_ ?_).mono ?_;omega;omega;omega;omega;rintro e w' ⟨rfl,hb⟩;obtain ⟨hc,hf⟩:=hb.rules;rw [Hs.out])
 refine bodyPost_ret (v:=sh (qaY (n,d) (q,p)).1 (qaY (n,d) (q,p)).2) (by simp [results,Tryz.results235,go_sem,hc]) rfl ⟨rfl,?_⟩
 have k0:=Keeps.trans (((Keeps.refl w).alloc _).alloc _ |>.alloc _) hb
 exact ((k0.setCell (by simp;omega) _).setCell (by simp;omega) _)
theorem qnI (q p:Int) (w:World) :
  Calls Tryz.prog 236 #[sh q p] w fun e w'=>e = .returned (sh q p) /\ Keeps w w':=by
 go_enter Tryz.func236,Tryz.ntmps236
 go_wp2
 exact bodyPost_ret (v:=sh q p) (by simp [results,Tryz.results236,go_sem]) rfl ⟨rfl,((Keeps.refl _).alloc _).alloc _⟩
theorem qnJ (n d:Int) (w:World) :
  Calls Tryz.prog 213 #[sh n d] w fun e w'=>e = .returned (.bool (decide (n <= d))) /\ Keeps w w':=by
 go_enter Tryz.func213,Tryz.ntmps213
 go_wp2
 go_ret
 exact ⟨rfl,(Keeps.refl _).alloc _⟩
theorem qnK {xs:List (Int × Int)} (h:qbg xs=true) {k:Nat} (hk:k < xs.length) {q p:Int} (e:xs.getD k (0,0)=(q,p)):(1 <= p /\ p <= 40) /\ 1 <= q /\ q <= p:=by
 have e':xs.getD k (0,0)=xs[k]:=by simp [hk]
 have:=List.all_eq_true.1 h xs[k] (List.getElem_mem hk)
 rw [<- e',e] at this
 exact qcG.1 this
def SumTwo (w:World) (b:Nat) (v0 v1:Value):Prop:=w.cell? ⟨b,0,none⟩=some v0 /\ w.cell? ⟨b,1,none⟩=some v1 /\ w.frozen? ⟨b,0,none⟩=false /\ w.frozen? ⟨b,1,none⟩=false
theorem SumTwo.rules {w:World} {b:Nat} {v0 v1:Value} (h:SumTwo w b v0 v1):(∀ w',Keeps w w'->w'.cell? ⟨b,0,none⟩=some v0) /\ (∀ w',Keeps w w'->w'.cell? ⟨b,1,none⟩=some v1) /\ (∀ w',Keeps w w'->w'.frozen? ⟨b,0,none⟩=false) /\ ∀ w',Keeps w w'->w'.frozen? ⟨b,1,none⟩=false:=by
 obtain ⟨h1,h2,h3,h4⟩:=h
 have hb:b < w.heap.size:=World.block_lt_of_cell? w _ h1
 exact ⟨Keeps.has h1,Keeps.has h2,fun w' k=>(k.frozens b 0 hb).trans h3,fun w' k=>(k.frozens b 1 hb).trans h4⟩
theorem SumTwo.keeps {w w':World} {b:Nat} {v0 v1:Value} (h:SumTwo w b v0 v1) (k:Keeps w w'):SumTwo w' b v0 v1 :=
 ⟨h.rules.1 _ k,h.rules.2.1 _ k,h.rules.2.2.1 _ k,h.rules.2.2.2 _ k⟩
theorem SumTwo.set {w:World} {b:Nat} {v0 v1:Value} (h:SumTwo w b v0 v1) (x y:Value):SumTwo ((w.setCell ⟨b,0,none⟩ x).setCell ⟨b,1,none⟩ y) b x y:=by
 obtain ⟨h1,h2,h3,h4⟩:=h
 have e2:(w.setCell ⟨b,0,none⟩ x).cell? ⟨b,1,none⟩=some v1:=by rw [qaN (by omega),h2]
 exact ⟨by rw [qaN (by omega),qcX h1],qcX e2 _,by simp [h3],by simp [h4]⟩
theorem SumTwo.other {w:World} {b c:Nat} {v0 v1:Value} (h:SumTwo w b v0 v1) (hc:c≠b) (x y:Value):SumTwo ((w.setCell ⟨c,0,none⟩ x).setCell ⟨c,1,none⟩ y) b v0 v1:=by
 obtain ⟨h1,h2,h3,h4⟩:=h
 exact ⟨by rw [qaN (by omega),qaN (by omega),h1],by rw [qaN (by omega),qaN (by omega),h2],by simp [h3],by simp [h4]⟩
theorem SumTwo.lt {w:World} {b:Nat} {v0 v1:Value} (h:SumTwo w b v0 v1):b < w.heap.size:=World.block_lt_of_cell? w _ h.1
set_option maxHeartbeats 1000000 in
theorem qnL (a:Option Addr) (cap:Nat) (xs:List (Int × Int)) (w:World) (hl:xs.length <= 7) (hs:Sh w a xs) (hok:qbg xs=true) :
  Calls Tryz.prog 212 #[.slice a xs.length cap] w fun e w'=>e = .returned (sh (sumI xs).1 (sumI xs).2) /\ Keeps w w':=by
 have Hok:Hid (qbg xs=true):=hok
 clear hok
 generalize hn:xs.length=n at hl
 have Hn:Hid (xs.length=n):=hn
 clear hn
 go_enter Tryz.func212,Tryz.ntmps212
 go_wp2
 go_loopw [9] (fun i wr=>∃ k:Nat,k <= n /\ i = .int .i64 k /\ ∃ nn dd:Int,Hid (sumI (xs.take k)=(nn,dd)) /\ Inv k (nn,dd) /\ Keeps w wr /\ SumTwo wr w.heap.size (.int .i64 0) (.int .i64 0) /\ SumTwo wr (w.heap.size+1) (.int .i64 nn) (.int .i64 dd)) (fun i _=>n - (intOf i).toNat)
 case atStart=>exact ⟨0,Nat.zero_le _,rfl,0,1,rfl,qiB,((Keeps.refl _).alloc _).alloc _,by simp [SumTwo,go_sem],by simp [SumTwo,go_sem]⟩
 case round =>
  obtain ⟨k,hk,rfl,nn,dd,hsum,hI,hK,⟨t1,t2,t3,t4⟩,⟨s1,s2,s3,s4⟩⟩:=hrel
  by_cases hlt:k < n
  ·obtain ⟨b,off,q,p,rfl,e,c0,c1⟩:=hs.at (by rw [Hn.out];exact hlt)
   have E:Hid (xs.getD k (0,0)=(q,p)):=e
   clear e
   obtain ⟨⟨hp1,hp2⟩,hq1,hq2⟩:=qnK Hok.out (by rw [Hn.out];exact hlt) E.out
   have c0':=Keeps.has c0 wr hK
   have c1':=Keeps.has c1 wr hK
   go_wp2
   have kW:Keeps w (wr.alloc (.cells #[.int .i64 q,.int .i64 p] 65)):=hK.alloc _
   have r1:=Keeps.has (W:=wr.alloc (.cells #[.int .i64 q,.int .i64 p] 65)) (b:=wr.heap.size) (o:=0) (v := .int .i64 q) (by simp [go_sem])
   have r2:=Keeps.has (W:=wr.alloc (.cells #[.int .i64 q,.int .i64 p] 65)) (b:=wr.heap.size) (o:=1) (v := .int .i64 p) (by simp [go_sem])
   have T:=SumTwo.keeps ⟨t1,t2,t3,t4⟩ ((Keeps.refl wr).alloc (.cells #[.int .i64 q,.int .i64 p] 65))
   have U:=SumTwo.keeps ⟨s1,s2,s3,s4⟩ ((Keeps.refl wr).alloc (.cells #[.int .i64 q,.int .i64 p] 65))
   have hz:w.heap.size+1 < wr.heap.size:=SumTwo.lt ⟨s1,s2,s3,s4⟩
   clear t1 t2 t3 t4 s1 s2 s3 s4 c0 c1 c0' c1' hK
   generalize wr.alloc (.cells #[.int .i64 q,.int .i64 p] 65)=W at *
   obtain ⟨u1,u2,u3,u4⟩:=U.rules
   have HU:Hid (SumTwo W (w.heap.size+1) (.int .i64 nn) (.int .i64 dd)):=U
   clear U
   go_region_with (first
    | (go_at_call 236;refine (qnI _ _ _).mono ?_;rintro e w1 ⟨rfl,hb⟩;have kk:Keeps W w1:=Keeps.trans (by first | assumption | exact (Keeps.refl _).drew) hb)
    | (go_at_call 235;refine (qnH k _ _ _ _ _ hI ?_ hp1 hp2 hq1 hq2).mono ?_;omega;rintro e w1 ⟨rfl,hb⟩;have kk:Keeps W w1:=Keeps.trans (by first | assumption | exact (Keeps.refl _).drew) hb))
   all_goals go_wp2
   all_goals
    refine ⟨⟨k+1,by omega,by go_num,_,_,?_,qiE hI hp1 hp2 hq1 hq2,((kW.trans kk).setCell (by simp) _).setCell (by simp) _,(T.keeps kk).other (by omega) _ _,(HU.out.keeps kk).set _ _⟩,by simp only [intOf];omega⟩
    show _=_
    rw [qiA xs k (by rw [Hn.out];exact hlt),hsum.out,E.out];rfl
  ·have Hf:Hid (sumI xs=(nn,dd)):=by
    have:=hsum.out
    rwa [List.take_of_length_le (by rw [Hn.out];omega)] at this
   go_wp2
   refine bodyPost_ret (v:=sh nn dd) (by simp [results,Tryz.results212,go_sem,t1,t2]) rfl ⟨by rw [Hf.out],(hK.setCell (by simp) _).setCell (by simp) _⟩
def qcr (xs:List (Int × Int)):Int × Int × Bool:=if qbK xs then ((sumI xs).1,(sumI xs).2,true) else (0,0,false)
theorem qgk {xs:List (Int × Int)} (h:qbK xs=false):qcr xs=(0,0,false):=by simp [qcr,h]
theorem qiI {xs:List (Int × Int)} (h:qbK xs=true):qcr xs=((sumI xs).1,(sumI xs).2,true):=by simp [qcr,h]
theorem qiJ {xs:List (Int × Int)}:qbK xs=true↔xs.length <= 7 /\ qbg xs=true:=by simp [qbK]
set_option maxHeartbeats 1000000 in
theorem qnM (a:Option Addr) (cap:Nat) (xs:List (Int × Int)) (w:World) (hl:xs.length <= maxLen) (hs:Sh w a xs) :
  Calls Tryz.prog 177 #[.slice a xs.length cap] w fun e w'=>e = .returned (.bool (qbK xs&&decide ((sumI xs).1 <= (sumI xs).2))) /\ Keeps w w':=by
 cases hc:qbK xs
 ·go_enter Tryz.func177,Tryz.ntmps177
  go_wp2_with (go_at_call 211;refine (qiH _ _ _ _ hl hs).mono ?_;rintro e w1 ⟨rfl,hb⟩)
  go_ret
  exact ⟨rfl,hb⟩
 ·obtain ⟨h7,hok⟩:=qiJ.1 hc
  have Hok:Hid (qbg xs=true):=hok
  clear hok
  generalize hs1:(sumI xs).1=s1 at *
  generalize hs2:(sumI xs).2=s2 at *
  have H1:Hid ((sumI xs).1=s1):=hs1
  have H2:Hid ((sumI xs).2=s2):=hs2
  clear hs1 hs2
  go_enter Tryz.func177,Tryz.ntmps177
  go_wp2_with (first
   | (go_at_call 211;refine (qiH _ _ _ _ hl hs).mono ?_;rintro e w1 ⟨rfl,hb⟩)
   | (go_at_call 212;refine (qnL _ _ _ _ h7 (hs.keeps hb) Hok.out).mono ?_;rintro e w2 ⟨rfl,hb2⟩;rw [H1.out,H2.out])
   | (go_at_call 213;refine (qnJ _ _ _).mono ?_;rintro e w3 ⟨rfl,hb3⟩))
  go_ret
  exact ⟨rfl,(hb.trans hb2).trans hb3⟩
end Go.Proofs.YthpdlbcdbncnhaaGreatDoor
namespace Go.Proofs.YthpdlbcdbncnhaaGreatDoor
set_option maxRecDepth 100000
open Go.RowKit Plain
attribute [local go_sem] Keeps.refl Keeps.alloc Keeps.drew Keeps.drewN
set_option maxHeartbeats 1600000 in
theorem qiK (a:Option Addr) (cap:Nat) (xs:List (Int × Int)) (w:World) (hl:xs.length <= maxLen) (hs:Sh w a xs) :
  Calls Tryz.prog 116 #[.slice a xs.length cap] w fun e w'=>e = .returned (.tuple #[.int .i64 (qcr xs).1,.int .i64 (qcr xs).2.1,.bool (qcr xs).2.2]) /\ Keeps w w':=by
 unfold maxLen at hl
 generalize hn:xs.length=n at hl
 have Hn:Hid (xs.length=n):=hn
 by_cases h7:7 < n
 ·have Hr:Hid (qcr xs=(0,0,false)):=qgk (by simp [qbK,hn];omega)
  clear hn
  go_enter Tryz.func116,Tryz.ntmps116
  go_wp2
  go_ret3
  exact ⟨by rw [Hr.out];rfl,Keeps.refl _⟩
 ·clear hn
  have h7':n <= 7:=by omega
  go_enter Tryz.func116,Tryz.ntmps116
  go_wp2
  go_loopw [5,6,7] (fun s t i wr=>∃ k:Nat,k <= n /\ i = .int .i64 k /\ ∃ nn dd:Int,s = .int .i64 nn /\ t = .int .i64 dd /\ Hid (sumI (xs.take k)=(nn,dd)) /\ Inv k (nn,dd) /\ Hid (qbg (xs.take k)=true) /\ Keeps w wr) (fun _ _ i _=>n - (intOf i).toNat)
  case atStart=>exact ⟨0,Nat.zero_le _,rfl,0,1,rfl,rfl,rfl,qiB,by simp [Hid,qbg],Keeps.refl _⟩
  case round =>
   obtain ⟨k,hk,rfl,nn,dd,rfl,rfl,hsum,hI,hok,hK⟩:=hrel
   by_cases hlt:k < n
   ·obtain ⟨b,off,q,p,rfl,e,c0,c1⟩:=hs.at (by rw [Hn.out];exact hlt)
    have E:Hid (xs.getD k (0,0)=(q,p)):=e
    clear e
    have r0:=Keeps.has c0
    have r1:=Keeps.has c1
    have hlt':(k:Int) < (n:Int):=by omega
    clear c0 c1 hs
    cases ho:okB q p
    ·have Hf:Hid (qcr xs=(0,0,false)):=by
      refine qgk ?_
      have:=qiG (k:=k) (by rw [Hn.out];exact hlt) (by rw [E.out];exact ho)
      simp [qbK,this]
     go_wp2_with (go_at_call 115;refine (qgr _ _ _).mono ?_;rintro e w1 ⟨rfl,hb⟩;have kk:Keeps w w1:=hK.trans hb)
     go_ret3
     exact ⟨by rw [Hf.out];rfl,kk⟩
    ·have Hf:Hid (qbg (xs.take (k+1))=true):=by
      show _=_
      rw [qiF xs k (by rw [Hn.out];exact hlt),hok.out,E.out];exact ho
     obtain ⟨⟨hp1,hp2⟩,hq1,hq2⟩:=qcG.1 ho
     obtain ⟨b1,b2,b3,b4,b5,b6,b7,b8⟩:=qiD hI (by omega) hp1 hp2 hq1 hq2
     have hI':=qiE hI hp1 hp2 hq1 hq2
     have Hs:Hid (sumI (xs.take (k+1))=qaY (nn,dd) (q,p)):=by
      show _=_
      rw [qiA xs k (by rw [Hn.out];exact hlt),hsum.out,E.out]
     clear hI
     go_wp2_with (go_at_call 115;refine (qgr _ _ _).mono ?_;rintro e w1 ⟨rfl,hb⟩;have kk:Keeps w w1:=hK.trans hb)
     go_quiet (fail)
     go_wp2_with (go_at_call 161;refine (qnE _ _ _ ?_ ?_ ?_ ?_).mono ?_;omega;omega;omega;omega;rintro e w1 ⟨rfl,m,rfl⟩)
     refine ⟨⟨k+1,by omega,by go_num,_,_,rfl,rfl,Hs,hI',Hf,kk.drewN _⟩,by simp only [intOf];omega⟩
   ·have Hf:Hid (qcr xs=(nn,dd,true)):=by
     have h1:=hsum.out
     have h2:=hok.out
     rw [List.take_of_length_le (by rw [Hn.out];omega)] at h1 h2
     show _=_
     rw [qiI (qiJ.2 ⟨by rw [Hn.out];exact h7',h2⟩),h1]
    go_wp2
    go_ret3
    exact ⟨by rw [Hf.out];rfl,hK⟩
set_option maxHeartbeats 1000000 in
theorem qnN (a:Option Addr) (cap:Nat) (xs:List (Int × Int)) (w:World) (hl:xs.length <= maxLen) (hs:Sh w a xs) :
  Calls Tryz.prog 73 #[.slice a xs.length cap] w fun e w'=>e = .returned (.bool (qbK xs&&decide ((sumI xs).1 <= (sumI xs).2))) /\ Keeps w w':=by
 cases hc:qbK xs
 ·have Hr:Hid (qcr xs=(0,0,false)):=qgk hc
  go_enter Tryz.func73,Tryz.ntmps73
  go_wp2_with (go_at_call 116;refine (qiK _ _ _ _ hl hs).mono ?_;rintro e w1 ⟨rfl,hb⟩;rw [Hr.out])
  go_ret
  exact ⟨rfl,hb⟩
 ·have Hr:Hid (qcr xs=((sumI xs).1,(sumI xs).2,true)):=qiI hc
  generalize (sumI xs).1=s1 at *
  generalize (sumI xs).2=s2 at *
  go_enter Tryz.func73,Tryz.ntmps73
  go_wp2_with (go_at_call 116;refine (qiK _ _ _ _ hl hs).mono ?_;rintro e w1 ⟨rfl,hb⟩;rw [Hr.out])
  go_ret
  exact ⟨rfl,hb⟩
end Go.Proofs.YthpdlbcdbncnhaaGreatDoor
namespace Go.Proofs.YthpdlbcdbncnhaaGreatDoor
set_option maxRecDepth 100000
open Go.RowKit Plain
attribute [local go_sem] Keeps.refl Keeps.alloc Keeps.drew Keeps.drewN
end Go.Proofs.YthpdlbcdbncnhaaGreatDoor
namespace Go.Proofs.YthpdlbcdbncnhaaGreatDoor
set_option maxRecDepth 100000
open Go.RowKit
attribute [local go_sem] Keeps.refl Keeps.alloc Keeps.drew Keeps.drewN
theorem SumTwo.but {g:Nat} {w w':World} {b:Nat} {v0 v1:Value} (h:SumTwo w b v0 v1) (k:KeepsBut g w w') (hg:b≠g):SumTwo w' b v0 v1:=by
 have hb:=h.lt
 obtain ⟨h1,h2,h3,h4⟩:=h
 exact ⟨KeepsBut.has hg h1 _ k,KeepsBut.has hg h2 _ k,(World.frozen?_of_block (w:=w) (k.block b hb hg)).trans h3,(World.frozen?_of_block (w:=w) (k.block b hb hg)).trans h4⟩
theorem SumTwo.set0 {w:World} {b:Nat} {v0 v1:Value} (h:SumTwo w b v0 v1) (x:Value):SumTwo (w.setCell ⟨b,0,none⟩ x) b x v1:=by
 obtain ⟨h1,h2,h3,h4⟩:=h
 exact ⟨qcX h1 _,by rw [qaN (by omega),h2],by simp [h3],by simp [h4]⟩
theorem SumTwo.set1 {w:World} {b:Nat} {v0 v1:Value} (h:SumTwo w b v0 v1) (x:Value):SumTwo (w.setCell ⟨b,1,none⟩ x) b v0 x:=by
 obtain ⟨h1,h2,h3,h4⟩:=h
 exact ⟨by rw [qaN (by omega),h1],qcX h2 _,by simp [h3],by simp [h4]⟩
theorem SumTwo.far {w:World} {b c o:Nat} {v0 v1:Value} (h:SumTwo w b v0 v1) (hc:c≠b) (x:Value):SumTwo (w.setCell ⟨c,o,none⟩ x) b v0 v1:=by
 obtain ⟨h1,h2,h3,h4⟩:=h
 exact ⟨by rw [qaN (by omega),h1],by rw [qaN (by omega),h2],by simp [h3],by simp [h4]⟩
theorem SumTwo.new (w:World) (v0 v1:Value) (t:TypeId):SumTwo (w.alloc (.cells #[v0,v1] t)) w.heap.size v0 v1:=by simp [SumTwo,go_sem]
theorem SumTwo.alloc {w:World} {b:Nat} {v0 v1:Value} (h:SumTwo w b v0 v1) (o:Obj):SumTwo (w.alloc o) b v0 v1:=h.keeps ((Keeps.refl w).alloc o)
structure At (g:Nat) (w W:World) (r s:Nat) (q p:Int):Prop where
 cur:Cur W g
 keep:KeepsBut g w W
 res:SumTwo W r (.int .i64 0) (.int .i64 0)
 part:SumTwo W s (.int .i64 q) (.int .i64 p)
 gr:g < r
 rs:r < s
 wr:w.heap.size <= r
theorem At.but {g:Nat} {w W W':World} {r s:Nat} {q p:Int} (h:At g w W r s q p) (hc:Cur W' g) (k:KeepsBut g W W'):At g w W' r s q p :=
 ⟨hc,h.keep.trans k,h.res.but k (by have:=h.gr;omega),h.part.but k (by have:=h.gr;have:=h.rs;omega),h.gr,h.rs,h.wr⟩
theorem At.setQ {g:Nat} {w W:World} {r s:Nat} {q p:Int} (h:At g w W r s q p) (x:Int):At g w (W.setCell ⟨s,0,none⟩ (.int .i64 x)) r s x p :=
 ⟨h.cur.setNew (by have:=h.gr;have:=h.rs;omega) _ _,h.keep.setNew (by have:=h.wr;have:=h.rs;simp;omega) _,h.res.far (by have:=h.rs;omega) _,h.part.set0 _,h.gr,h.rs,h.wr⟩
theorem At.setP {g:Nat} {w W:World} {r s:Nat} {q p:Int} (h:At g w W r s q p) (x:Int):At g w (W.setCell ⟨s,1,none⟩ (.int .i64 x)) r s q x :=
 ⟨h.cur.setNew (by have:=h.gr;have:=h.rs;omega) _ _,h.keep.setNew (by have:=h.wr;have:=h.rs;simp;omega) _,h.res.far (by have:=h.rs;omega) _,h.part.set1 _,h.gr,h.rs,h.wr⟩
theorem At.done {g:Nat} {w W:World} {r s:Nat} {q p:Int} (h:At g w W r s q p) (x y:Value):Cur ((W.setCell ⟨r,0,none⟩ x).setCell ⟨r,1,none⟩ y) g /\ KeepsBut g w ((W.setCell ⟨r,0,none⟩ x).setCell ⟨r,1,none⟩ y) :=
 ⟨(h.cur.setNew h.gr _ _).setNew h.gr _ _,(h.keep.setNew h.wr _).setNew h.wr _⟩
set_option maxHeartbeats 1600000 in
theorem qgl (g:Nat) (w:World) (hc:Cur w g) :
  Calls Tryz.prog 98 #[.pointer (some ⟨g,0,none⟩)] w fun e w'=>∃ q p:Int,e = .returned (sh q p) /\ Cur w' g /\ KeepsBut g w w':=by
 have hgl:=hc.lt
 go_enter Tryz.func98,Tryz.ntmps98
 go_wp2_with fail
 refine (qcv (fun z=>1 <= z /\ z <= 40) g [1,2,3,4,5,6,8,10,12,39,40] _ _ 11 11 _ _ (by simp) (hc.keeps ((Keeps.refl _).alloc _)) rfl (by decide) (by decide) rfl (by simp)).mono ?_
 rintro e w1 ⟨p,rfl,⟨hp0,hp1⟩,hc1,k1⟩
 go_wp2_with fail
 have A:At g w (w1.alloc (.cells #[.int .i64 0,.int .i64 p] 65)) w.heap.size w1.heap.size 0 p:=by
  have hs:=k1.size
  have kw:=((KeepsBut.refl g w).alloc (.cells #[.int .i64 0,.int .i64 0] 65)).trans k1
  simp at hs
  exact ⟨hc1.keeps ((Keeps.refl _).alloc _),kw.alloc _,((SumTwo.new w (.int .i64 0) (.int .i64 0) _).but k1 (by omega)).alloc _,SumTwo.new _ _ _ _,hgl,by omega,Nat.le_refl _⟩
 generalize w1.alloc (.cells #[.int .i64 0,.int .i64 p] 65)=W at *
 generalize w1.heap.size=s at *
 generalize hr:w.heap.size=r at *
 clear hr k1 hc1 w1
 refine (qiz _ _ _).mono ?_
 rintro e w2 ⟨rfl,rfl⟩
 have hmx:1 <= max (p / 2) 1 /\ max (p / 2) 1 <= 20:=by omega
 generalize max (p / 2) 1=mx at *
 obtain ⟨mx0,mx1⟩:=hmx
 go_wp2_with fail
 refine (qal g _ _ A.cur (by omega) (by omega)).mono ?_
 rintro e w3 ⟨x,rfl,hx0,hx1,hc3,k3⟩
 have A3:=A.but hc3 k3
 clear A hc3 k3 hc hgl
 obtain ⟨c0,c1,f0,f1⟩:=A3.part
 go_wp2_with fail
 have A4:=A3.setQ (1+x)
 clear c0 c1 f0 f1 A3
 generalize w3.setCell ⟨s,0,none⟩ (.int .i64 (1+x))=w4 at *
 refine (qal g _ _ A4.cur (by omega) (by omega)).mono ?_
 rintro e w5 ⟨y,rfl,hy0,hy1,hc5,k5⟩
 have A5:=A4.but hc5 k5
 clear A4 hc5 k5
 obtain ⟨c0,c1,f0,f1⟩:=A5.part
 obtain ⟨d0,d1,e0,e1⟩:=A5.res
 have hrs:r≠s:=by have:=A5.rs;omega
 have hsr:s≠r:=Ne.symm hrs
 by_cases hy:y=0
 ·subst hy
  go_wp2_with fail
  refine (qcv (fun _=>True) g [0,-1,41] _ _ 3 3 _ _ rfl A5.cur rfl (by decide) (by decide) rfl (by simp)).mono ?_
  rintro e w6 ⟨z,rfl,_,hc6,k6⟩
  have A6:=A5.but hc6 k6
  clear c0 c1 f0 f1 d0 d1 e0 e1 A5 hc6 k6
  obtain ⟨c0,c1,f0,f1⟩:=A6.part
  obtain ⟨d0,d1,e0,e1⟩:=A6.res
  go_wp2
  exact bodyPost_ret (v:=sh (1+x) z) (by simp [results,Tryz.results98,go_sem,d0,d1]) rfl ⟨_,_,rfl,(A6.setP z).done _ _⟩
 ·by_cases hy':y=1
  ·subst hy'
   go_wp2_with fail
   refine (qcv (fun _=>True) g [0,-1,p,p+1] _ _ 4 4 _ _ rfl A5.cur rfl (by decide) (by decide) rfl (by simp)).mono ?_
   rintro e w6 ⟨z,rfl,_,hc6,k6⟩
   have A6:=A5.but hc6 k6
   clear c0 c1 f0 f1 d0 d1 e0 e1 A5 hc6 k6
   obtain ⟨c0,c1,f0,f1⟩:=A6.part
   obtain ⟨d0,d1,e0,e1⟩:=A6.res
   go_wp2
   exact bodyPost_ret (v:=sh z p) (by simp [results,Tryz.results98,go_sem,d0,d1]) rfl ⟨_,_,rfl,(A6.setQ z).done _ _⟩
  ·have b0:(y==0)=false:=by rw [beq_eq_false_iff_ne];exact hy
   have b1:(y==1)=false:=by rw [beq_eq_false_iff_ne];exact hy'
   go_wp2
   exact bodyPost_ret (v:=sh (1+x) p) (by simp [results,Tryz.results98,go_sem,d0,d1]) rfl ⟨_,_,rfl,A5.done _ _⟩
end Go.Proofs.YthpdlbcdbncnhaaGreatDoor
