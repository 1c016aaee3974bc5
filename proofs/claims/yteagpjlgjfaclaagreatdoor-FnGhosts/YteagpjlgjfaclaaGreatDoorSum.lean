/-
  Sums of parts of time: contracts of the functions that add
-/
import Derived.Test.YteagpjlgjfaclaaGreatDoorBase
import Derived.Test.YteagpjlgjfaclaaGreatDoorCur
import Derived.Test.YteagpjlgjfaclaaGreatDoorPlain1
import Derived.Deep.OwnRows
namespace Go.Proofs.YteagpjlgjfaclaaGreatDoor
set_option maxRecDepth 100000
open Go.RowKit
attribute [local go_sem] aa.refl aa.alloc aa.drew aa.drewN
def Sh (w:World) (a:Option Addr) (xs:List (Int × Int)):Prop :=
 xs=[]∨∃ b off,a=some ⟨b,off,none⟩ /\ ∀ i,i < xs.length->w.cell? ⟨b,off+i*2,none⟩=some (.int .i64 (xs.getD i (0,0)).1) /\ w.cell? ⟨b,off+i*2+1,none⟩=some (.int .i64 (xs.getD i (0,0)).2)
theorem Sh.keeps {w w':World} {a:Option Addr} {xs:List (Int × Int)} (h:Sh w a xs) (k:aa w w'):Sh w' a xs:=by
 rcases h with h | ⟨b,off,rfl,h⟩
 ·exact .inl h
 ·exact .inr ⟨b,off,rfl,fun i hi=>⟨aa.has (h i hi).1 _ k,aa.has (h i hi).2 _ k⟩⟩
theorem Sh.at {w:World} {a:Option Addr} {xs:List (Int × Int)} (h:Sh w a xs) {i:Nat} (hi:i < xs.length) :
  ∃ b off q p,a=some ⟨b,off,none⟩ /\ xs.getD i (0,0)=(q,p) /\ w.cell? ⟨b,off+i*2,none⟩=some (.int .i64 q) /\ w.cell? ⟨b,off+i*2+1,none⟩=some (.int .i64 p):=by
 rcases h with rfl | ⟨b,off,rfl,h⟩
 ·simp at hi
 ·exact ⟨b,off,_,_,rfl,rfl,(h i hi).1,(h i hi).2⟩
def gq (xs:List (Int × Int)):Bool:=xs.all fun x=>okB x.1 x.2
theorem zZ (xs:List (Int × Int)) (k:Nat) (h:k < xs.length):gq (xs.take (k+1))=(gq (xs.take k)&&okB (xs.getD k (0,0)).1 (xs.getD k (0,0)).2):=by
 rw [List.take_succ_eq_append_getElem h,gq,List.all_append];simp [gq,h]
theorem z4 {xs:List (Int × Int)} {k:Nat} (h:k < xs.length) (hk:okB (xs.getD k (0,0)).1 (xs.getD k (0,0)).2=false):gq xs=false:=by
 rw [gq,List.all_eq_false]
 refine ⟨xs[k],List.getElem_mem h,?_⟩
 have e:xs.getD k (0,0)=xs[k]:=by simp [h]
 rw [e] at hk;simp [hk]
def g8 (xs:List (Int × Int)):Bool:=decide (xs.length <= 7)&&gq xs
set_option maxHeartbeats 1000000 in
theorem z7 (a:Option Addr) (cap:Nat) (xs:List (Int × Int)) (w:World) (hl:xs.length <= maxLen) (hs:Sh w a xs) :
  Calls Tryz.prog 44 #[.slice a xs.length cap] w fun e w'=>e = .returned (.bool (g8 xs)) /\ aa w w':=by
 unfold maxLen at hl
 generalize hn:xs.length=n at hl
 have Hn:Hid (xs.length=n):=hn
 by_cases h7:7 < n
 ·have Hr:Hid (g8 xs=false):=by show _=_;simp [g8,hn];omega
  clear hn
  go_enter Tryz.func44,Tryz.ntmps44
  go_wp2
  go_ret
  exact ⟨by rw [Hr.out];rfl,aa.refl _⟩
 ·have Hr:Hid (g8 xs=gq xs):=by show _=_;simp [g8,hn];omega
  clear hn
  go_enter Tryz.func44,Tryz.ntmps44
  go_wp2
  go_loopw [10] (fun i wr=>∃ k:Nat,k <= n /\ i = .int .i64 k /\ Hid (gq (xs.take k)=true) /\ aa w wr) (fun i _=>n - (intOf i).toNat)
  case atStart=>exact ⟨0,Nat.zero_le _,rfl,by simp [Hid,gq],aa.refl _⟩
  case round =>
   obtain ⟨k,hk,rfl,hok,hK⟩:=hrel
   by_cases hlt:k < n
   ·obtain ⟨b,off,q,p,rfl,e,c0,c1⟩:=hs.at (by rw [Hn.out];exact hlt)
    have E:Hid (xs.getD k (0,0)=(q,p)):=e
    clear e
    have r0:=aa.has c0
    have r1:=aa.has c1
    clear c0 c1 hs
    cases ho:okB q p
    ·have Hf:Hid (gq xs=false):=z4 (k:=k) (by rw [Hn.out];exact hlt) (by rw [E.out];exact ho)
     go_wp2_with (go_at_call 94;refine (oA _ _ _).mono ?_;rintro e w' ⟨rfl,rfl⟩)
     go_ret
     exact ⟨by rw [Hr.out,Hf.out];rfl,(hK.alloc _).alloc _⟩
    ·have Hf:Hid (gq (xs.take (k+1))=true):=by
      show _=_
      rw [zZ xs k (by rw [Hn.out];exact hlt),hok.out,E.out];exact ho
     go_wp2_with (go_at_call 94;refine (oA _ _ _).mono ?_;rintro e w' ⟨rfl,rfl⟩)
     go_roundw
     case rel=>exact ⟨k+1,by omega,by go_num,Hf,(hK.alloc _).alloc _⟩
     case measure=>simp only [intOf];omega
   ·have Hf:Hid (gq xs=true):=by
     show _=_
     have:=hok.out
     rwa [List.take_of_length_le (by rw [Hn.out];omega)] at this
    go_wp2
    go_ret
    exact ⟨by rw [Hr.out,Hf.out];rfl,hK⟩
theorem IQ (a b:Int) (w:World) (ha:0 <= a) (ha':a <= 9223372036854775807) (hb:0 <= b) (hb':b <= 9223372036854775807) :
  Calls Tryz.prog 112 #[.int .i64 a,.int .i64 b] w fun e w'=>e = .returned (.int .i64 (Int.gcd a b)) /\ Quiet w w':=by
 obtain ⟨x,rfl⟩:=Int.eq_ofNat_of_zero_le ha
 obtain ⟨y,rfl⟩:=Int.eq_ofNat_of_zero_le hb
 exact Dc x y w (by omega) (by omega)
theorem IS (a b:Int) (w:World) (ha:0 <= a) (ha':a <= 9223372036854775807) (hb:0 <= b) (hb':b <= 9223372036854775807) :
  Calls Tryz.prog 185 #[.int .i64 a,.int .i64 b] w fun e w'=>e = .returned (.int .i64 (Int.gcd a b)) /\ Quiet w w':=by
 obtain ⟨x,rfl⟩:=Int.eq_ofNat_of_zero_le ha
 obtain ⟨y,rfl⟩:=Int.eq_ofNat_of_zero_le hb
 exact Dd x y w (by omega) (by omega)
set_option maxHeartbeats 400000 in
theorem IT (a b:Int) (w:World) (ha:0 <= a) (ha':a <= 10000000000000) (hb:1 <= b) (hb':b <= 10000000000000) :
  Calls Tryz.prog 155 #[sh a b] w fun e w'=>e = .returned (sh (a / (Int.gcd a b:Int)) (b / (Int.gcd a b:Int))) /\ aa w w':=by
 have g1:1 <= (Int.gcd a b:Int):=by
  have:0 < Int.gcd a b:=Int.gcd_pos_of_ne_zero_right _ (by omega)
  omega
 have g2:(Int.gcd a b:Int) <= 10000000000000:=by
  have:=Int.le_of_dvd (by omega) (Int.gcd_dvd_right a b)
  omega
 generalize hg:(Int.gcd a b:Int)=g at *
 have Hg:Hid ((Int.gcd a b:Int)=g):=hg
 clear hg
 have d1:0 <= a / g:=Int.ediv_nonneg ha (by omega)
 have d2:a / g <= 10000000000000:=Int.le_trans (Int.ediv_le_self _ ha) ha'
 have d3:0 <= b / g:=Int.ediv_nonneg (by omega) (by omega)
 have d4:b / g <= 10000000000000:=Int.le_trans (Int.ediv_le_self _ (by omega)) hb'
 go_enter Tryz.func155,Tryz.ntmps155
 go_wp2_with (go_at_call 185;refine (IS a b _ ?_ ?_ ?_ ?_).mono ?_;omega;omega;omega;omega;rintro e w' ⟨rfl,n,rfl⟩;rw [Hg.out])
 go_region
 go_wp2
 exact bodyPost_ret (v:=sh (a / g) (b / g)) (by simp [results,Tryz.results155,go_sem]) rfl ⟨rfl,((((((aa.refl _).alloc _).alloc _).drewN _).setCell (by simp) _).setCell (by simp) _)⟩
open Plain
set_option maxHeartbeats 400000 in
theorem IU (k:Nat) (n d q p:Int) (w:World) (hI:Inv k (n,d)) (hk:k < 7) (hp1:1 <= p) (hp2:p <= 40) (hq1:1 <= q) (hq2:q <= p) :
  Calls Tryz.prog 95 #[sh n d,sh q p] w fun e w'=>e = .returned (sh (jt (n,d) (q,p)).1 (jt (n,d) (q,p)).2) /\ aa w w':=by
 obtain ⟨b1,b2,b3,b4,b5,b6,_,_⟩:=zQ hI hk hp1 hp2 hq1 hq2
 clear hI
 have Hs:Hid (sh ((n*p+q*d) / (Int.gcd (n*p+q*d) (d*p):Int)) ((d*p) / (Int.gcd (n*p+q*d) (d*p):Int))=sh (jt (n,d) (q,p)).1 (jt (n,d) (q,p)).2):=rfl
 go_enter Tryz.func95,Tryz.ntmps95
 go_wp2_with (go_at_call 155;refine (IT _ _ _ ?_ ?_ ?_ ?_).mono ?_;omega;omega;omega;omega;rintro e w' ⟨rfl,hb⟩;obtain ⟨hc,hf⟩:=hb.rules;rw [Hs.out])
 refine bodyPost_ret (v:=sh (jt (n,d) (q,p)).1 (jt (n,d) (q,p)).2) (by simp [results,Tryz.results95,go_sem,hc]) rfl ⟨rfl,?_⟩
 have k0:=aa.trans (((aa.refl w).alloc _).alloc _ |>.alloc _) hb
 exact ((k0.setCell (by simp;omega) _).setCell (by simp;omega) _)
theorem IV (q p:Int) (w:World) :
  Calls Tryz.prog 96 #[sh q p] w fun e w'=>e = .returned (sh q p) /\ aa w w':=by
 go_enter Tryz.func96,Tryz.ntmps96
 go_wp2
 exact bodyPost_ret (v:=sh q p) (by simp [results,Tryz.results96,go_sem]) rfl ⟨rfl,((aa.refl _).alloc _).alloc _⟩
theorem IW (n d:Int) (w:World) :
  Calls Tryz.prog 46 #[sh n d] w fun e w'=>e = .returned (.bool (decide (n <= d))) /\ aa w w':=by
 go_enter Tryz.func46,Tryz.ntmps46
 go_wp2
 go_ret
 exact ⟨rfl,(aa.refl _).alloc _⟩
theorem IX {xs:List (Int × Int)} (h:gq xs=true) {k:Nat} (hk:k < xs.length) {q p:Int} (e:xs.getD k (0,0)=(q,p)):(1 <= p /\ p <= 40) /\ 1 <= q /\ q <= p:=by
 have e':xs.getD k (0,0)=xs[k]:=by simp [hk]
 have:=List.all_eq_true.1 h xs[k] (List.getElem_mem hk)
 rw [<- e',e] at this
 exact j9.1 this
def aL (w:World) (b:Nat) (v0 v1:Value):Prop:=w.cell? ⟨b,0,none⟩=some v0 /\ w.cell? ⟨b,1,none⟩=some v1 /\ w.frozen? ⟨b,0,none⟩=false /\ w.frozen? ⟨b,1,none⟩=false
theorem aL.rules {w:World} {b:Nat} {v0 v1:Value} (h:aL w b v0 v1):(∀ w',aa w w'->w'.cell? ⟨b,0,none⟩=some v0) /\ (∀ w',aa w w'->w'.cell? ⟨b,1,none⟩=some v1) /\ (∀ w',aa w w'->w'.frozen? ⟨b,0,none⟩=false) /\ ∀ w',aa w w'->w'.frozen? ⟨b,1,none⟩=false:=by
 obtain ⟨h1,h2,h3,h4⟩:=h
 have hb:b < w.heap.size:=World.block_lt_of_cell? w _ h1
 exact ⟨aa.has h1,aa.has h2,fun w' k=>(k.aO b 0 hb).trans h3,fun w' k=>(k.aO b 1 hb).trans h4⟩
theorem aL.keeps {w w':World} {b:Nat} {v0 v1:Value} (h:aL w b v0 v1) (k:aa w w'):aL w' b v0 v1 :=
 ⟨h.rules.1 _ k,h.rules.2.1 _ k,h.rules.2.2.1 _ k,h.rules.2.2.2 _ k⟩
theorem aL.set {w:World} {b:Nat} {v0 v1:Value} (h:aL w b v0 v1) (x y:Value):aL ((w.setCell ⟨b,0,none⟩ x).setCell ⟨b,1,none⟩ y) b x y:=by
 obtain ⟨h1,h2,h3,h4⟩:=h
 have e2:(w.setCell ⟨b,0,none⟩ x).cell? ⟨b,1,none⟩=some v1:=by rw [fU (by omega),h2]
 exact ⟨by rw [fU (by omega),mi h1],mi e2 _,by simp [h3],by simp [h4]⟩
theorem aL.other {w:World} {b c:Nat} {v0 v1:Value} (h:aL w b v0 v1) (hc:c≠b) (x y:Value):aL ((w.setCell ⟨c,0,none⟩ x).setCell ⟨c,1,none⟩ y) b v0 v1:=by
 obtain ⟨h1,h2,h3,h4⟩:=h
 exact ⟨by rw [fU (by omega),fU (by omega),h1],by rw [fU (by omega),fU (by omega),h2],by simp [h3],by simp [h4]⟩
theorem aL.lt {w:World} {b:Nat} {v0 v1:Value} (h:aL w b v0 v1):b < w.heap.size:=World.block_lt_of_cell? w _ h.1
set_option maxHeartbeats 1000000 in
theorem IY (a:Option Addr) (cap:Nat) (xs:List (Int × Int)) (w:World) (hl:xs.length <= 7) (hs:Sh w a xs) (hok:gq xs=true) :
  Calls Tryz.prog 45 #[.slice a xs.length cap] w fun e w'=>e = .returned (sh (cD xs).1 (cD xs).2) /\ aa w w':=by
 have uD:Hid (gq xs=true):=hok
 clear hok
 generalize hn:xs.length=n at hl
 have Hn:Hid (xs.length=n):=hn
 clear hn
 go_enter Tryz.func45,Tryz.ntmps45
 go_wp2
 go_loopw [9] (fun i wr=>∃ k:Nat,k <= n /\ i = .int .i64 k /\ ∃ nn dd:Int,Hid (cD (xs.take k)=(nn,dd)) /\ Inv k (nn,dd) /\ aa w wr /\ aL wr w.heap.size (.int .i64 0) (.int .i64 0) /\ aL wr (w.heap.size+1) (.int .i64 nn) (.int .i64 dd)) (fun i _=>n - (intOf i).toNat)
 case atStart=>exact ⟨0,Nat.zero_le _,rfl,0,1,rfl,zy,((aa.refl _).alloc _).alloc _,by simp [aL,go_sem],by simp [aL,go_sem]⟩
 case round =>
  obtain ⟨k,hk,rfl,nn,dd,hsum,hI,hK,⟨t1,t2,t3,t4⟩,⟨s1,s2,s3,s4⟩⟩:=hrel
  by_cases hlt:k < n
  ·obtain ⟨b,off,q,p,rfl,e,c0,c1⟩:=hs.at (by rw [Hn.out];exact hlt)
   have E:Hid (xs.getD k (0,0)=(q,p)):=e
   clear e
   obtain ⟨⟨hp1,hp2⟩,hq1,hq2⟩:=IX uD.out (by rw [Hn.out];exact hlt) E.out
   have c0':=aa.has c0 wr hK
   have c1':=aa.has c1 wr hK
   go_wp2
   have kW:aa w (wr.alloc (.cells #[.int .i64 q,.int .i64 p] 51)):=hK.alloc _
   have r1:=aa.has (W:=wr.alloc (.cells #[.int .i64 q,.int .i64 p] 51)) (b:=wr.heap.size) (o:=0) (v := .int .i64 q) (by simp [go_sem])
   have r2:=aa.has (W:=wr.alloc (.cells #[.int .i64 q,.int .i64 p] 51)) (b:=wr.heap.size) (o:=1) (v := .int .i64 p) (by simp [go_sem])
   have T:=aL.keeps ⟨t1,t2,t3,t4⟩ ((aa.refl wr).alloc (.cells #[.int .i64 q,.int .i64 p] 51))
   have U:=aL.keeps ⟨s1,s2,s3,s4⟩ ((aa.refl wr).alloc (.cells #[.int .i64 q,.int .i64 p] 51))
   have hz:w.heap.size+1 < wr.heap.size:=aL.lt ⟨s1,s2,s3,s4⟩
   clear t1 t2 t3 t4 s1 s2 s3 s4 c0 c1 c0' c1' hK
   generalize wr.alloc (.cells #[.int .i64 q,.int .i64 p] 51)=W at *
   obtain ⟨u1,u2,u3,u4⟩:=U.rules
   have HU:Hid (aL W (w.heap.size+1) (.int .i64 nn) (.int .i64 dd)):=U
   clear U
   go_region_with (first
    | (go_at_call 96;refine (IV _ _ _).mono ?_;rintro e w1 ⟨rfl,hb⟩;have kk:aa W w1:=aa.trans (by first | assumption | exact (aa.refl _).drew) hb)
    | (go_at_call 95;refine (IU k _ _ _ _ _ hI ?_ hp1 hp2 hq1 hq2).mono ?_;omega;rintro e w1 ⟨rfl,hb⟩;have kk:aa W w1:=aa.trans (by first | assumption | exact (aa.refl _).drew) hb))
   all_goals go_wp2
   all_goals
    refine ⟨⟨k+1,by omega,by go_num,_,_,?_,zR hI hp1 hp2 hq1 hq2,((kW.trans kk).setCell (by simp) _).setCell (by simp) _,(T.keeps kk).other (by omega) _ _,(HU.out.keeps kk).set _ _⟩,by simp only [intOf];omega⟩
    show _=_
    rw [zx xs k (by rw [Hn.out];exact hlt),hsum.out,E.out];rfl
  ·have Hf:Hid (cD xs=(nn,dd)):=by
    have:=hsum.out
    rwa [List.take_of_length_le (by rw [Hn.out];omega)] at this
   go_wp2
   refine bodyPost_ret (v:=sh nn dd) (by simp [results,Tryz.results45,go_sem,t1,t2]) rfl ⟨by rw [Hf.out],(hK.setCell (by simp) _).setCell (by simp) _⟩
def jI (xs:List (Int × Int)):Int × Int × Bool:=if g8 xs then ((cD xs).1,(cD xs).2,true) else (0,0,false)
theorem uF {xs:List (Int × Int)} (h:g8 xs=false):jI xs=(0,0,false):=by simp [jI,h]
theorem z8 {xs:List (Int × Int)} (h:g8 xs=true):jI xs=((cD xs).1,(cD xs).2,true):=by simp [jI,h]
theorem z9 {xs:List (Int × Int)}:g8 xs=true↔xs.length <= 7 /\ gq xs=true:=by simp [g8]
set_option maxHeartbeats 1000000 in
theorem F7 (a:Option Addr) (cap:Nat) (xs:List (Int × Int)) (w:World) (hl:xs.length <= maxLen) (hs:Sh w a xs) :
  Calls Tryz.prog 19 #[.slice a xs.length cap] w fun e w'=>e = .returned (.bool (g8 xs&&decide ((cD xs).1 <= (cD xs).2))) /\ aa w w':=by
 cases hc:g8 xs
 ·go_enter Tryz.func19,Tryz.ntmps19
  go_wp2_with (go_at_call 44;refine (z7 _ _ _ _ hl hs).mono ?_;rintro e w1 ⟨rfl,hb⟩)
  go_ret
  exact ⟨rfl,hb⟩
 ·obtain ⟨h7,hok⟩:=z9.1 hc
  have uD:Hid (gq xs=true):=hok
  clear hok
  generalize hs1:(cD xs).1=s1 at *
  generalize hs2:(cD xs).2=s2 at *
  have H1:Hid ((cD xs).1=s1):=hs1
  have H2:Hid ((cD xs).2=s2):=hs2
  clear hs1 hs2
  go_enter Tryz.func19,Tryz.ntmps19
  go_wp2_with (first
   | (go_at_call 44;refine (z7 _ _ _ _ hl hs).mono ?_;rintro e w1 ⟨rfl,hb⟩)
   | (go_at_call 45;refine (IY _ _ _ _ h7 (hs.keeps hb) uD.out).mono ?_;rintro e w2 ⟨rfl,hb2⟩;rw [H1.out,H2.out])
   | (go_at_call 46;refine (IW _ _ _).mono ?_;rintro e w3 ⟨rfl,hb3⟩))
  go_ret
  exact ⟨rfl,(hb.trans hb2).trans hb3⟩
end Go.Proofs.YteagpjlgjfaclaaGreatDoor
