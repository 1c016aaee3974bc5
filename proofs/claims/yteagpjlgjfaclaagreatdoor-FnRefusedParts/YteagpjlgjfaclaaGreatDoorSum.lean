/-
  Sums of parts of time: contracts of the functions that add
  errors.Is of one of the program's six errors, or of none, b
  Sums of parts of time: contracts of the model's SumOf and F
-/
import Derived.Test.YteagpjlgjfaclaaGreatDoorBase
import Derived.Test.YteagpjlgjfaclaaGreatDoorPlain1
import Derived.Deep.OwnRows
import Derived.LaidEql
import Derived.Stop.Asserts
import Derived.RowKitTokens
namespace Go.Proofs.YteagpjlgjfaclaaGreatDoor
set_option maxRecDepth 100000
open Go.RowKit
attribute [local go_sem] Keeps.refl Keeps.alloc Keeps.drew Keeps.drewN
def Sh (w:World) (a:Option Addr) (xs:List (Int × Int)):Prop :=
 xs=[]∨∃ b off,a=some ⟨b,off,none⟩ /\ ∀ i,i < xs.length->w.cell? ⟨b,off+i*2,none⟩=some (.int .i64 (xs.getD i (0,0)).1) /\ w.cell? ⟨b,off+i*2+1,none⟩=some (.int .i64 (xs.getD i (0,0)).2)
theorem Sh.keeps {w w':World} {a:Option Addr} {xs:List (Int × Int)} (h:Sh w a xs) (k:Keeps w w'):Sh w' a xs:=by
 rcases h with h | ⟨b,off,rfl,h⟩
 ·exact .inl h
 ·exact .inr ⟨b,off,rfl,fun i hi=>⟨Keeps.has (h i hi).1 _ k,Keeps.has (h i hi).2 _ k⟩⟩
theorem Sh.at {w:World} {a:Option Addr} {xs:List (Int × Int)} (h:Sh w a xs) {i:Nat} (hi:i < xs.length) :
  ∃ b off q p,a=some ⟨b,off,none⟩ /\ xs.getD i (0,0)=(q,p) /\ w.cell? ⟨b,off+i*2,none⟩=some (.int .i64 q) /\ w.cell? ⟨b,off+i*2+1,none⟩=some (.int .i64 p):=by
 rcases h with rfl | ⟨b,off,rfl,h⟩
 ·simp at hi
 ·exact ⟨b,off,_,_,rfl,rfl,(h i hi).1,(h i hi).2⟩
def qa9 (xs:List (Int × Int)):Bool:=xs.all fun x=>okB x.1 x.2
theorem qht (xs:List (Int × Int)) (k:Nat) (h:k < xs.length):qa9 (xs.take (k+1))=(qa9 (xs.take k)&&okB (xs.getD k (0,0)).1 (xs.getD k (0,0)).2):=by
 rw [List.take_succ_eq_append_getElem h,qa9,List.all_append];simp [qa9,h]
theorem qhu {xs:List (Int × Int)} {k:Nat} (h:k < xs.length) (hk:okB (xs.getD k (0,0)).1 (xs.getD k (0,0)).2=false):qa9 xs=false:=by
 rw [qa9,List.all_eq_false]
 refine ⟨xs[k],List.getElem_mem h,?_⟩
 have e:xs.getD k (0,0)=xs[k]:=by simp [h]
 rw [e] at hk;simp [hk]
def qbq (xs:List (Int × Int)):Bool:=decide (xs.length <= 7)&&qa9 xs
set_option maxHeartbeats 1000000 in
theorem qhv (a:Option Addr) (cap:Nat) (xs:List (Int × Int)) (w:World) (hl:xs.length <= maxLen) (hs:Sh w a xs) :
  Calls Tryz.prog 44 #[.slice a xs.length cap] w fun e w'=>e = .returned (.bool (qbq xs)) /\ Keeps w w':=by
 unfold maxLen at hl
 generalize hn:xs.length=n at hl
 have Hn:Hid (xs.length=n):=hn
 by_cases h7:7 < n
 ·have Hr:Hid (qbq xs=false):=by show _=_;simp [qbq,hn];omega
  clear hn
  go_enter Tryz.func44,Tryz.ntmps44
  go_wp2
  go_ret
  exact ⟨by rw [Hr.out];rfl,Keeps.refl _⟩
 ·have Hr:Hid (qbq xs=qa9 xs):=by show _=_;simp [qbq,hn];omega
  clear hn
  go_enter Tryz.func44,Tryz.ntmps44
  go_wp2
  go_loopw [10] (fun i wr=>∃ k:Nat,k <= n /\ i = .int .i64 k /\ Hid (qa9 (xs.take k)=true) /\ Keeps w wr) (fun i _=>n - (intOf i).toNat)
  case atStart=>exact ⟨0,Nat.zero_le _,rfl,by simp [Hid,qa9],Keeps.refl _⟩
  case round =>
   obtain ⟨k,hk,rfl,hok,hK⟩:=hrel
   by_cases hlt:k < n
   ·obtain ⟨b,off,q,p,rfl,e,c0,c1⟩:=hs.at (by rw [Hn.out];exact hlt)
    have E:Hid (xs.getD k (0,0)=(q,p)):=e
    clear e
    have r0:=Keeps.has c0
    have r1:=Keeps.has c1
    clear c0 c1 hs
    cases ho:okB q p
    ·have Hf:Hid (qa9 xs=false):=qhu (k:=k) (by rw [Hn.out];exact hlt) (by rw [E.out];exact ho)
     go_wp2_with (go_at_call 94;refine (qdR _ _ _).mono ?_;rintro e w' ⟨rfl,rfl⟩)
     go_ret
     exact ⟨by rw [Hr.out,Hf.out];rfl,(hK.alloc _).alloc _⟩
    ·have Hf:Hid (qa9 (xs.take (k+1))=true):=by
      show _=_
      rw [qht xs k (by rw [Hn.out];exact hlt),hok.out,E.out];exact ho
     go_wp2_with (go_at_call 94;refine (qdR _ _ _).mono ?_;rintro e w' ⟨rfl,rfl⟩)
     go_roundw
     case rel=>exact ⟨k+1,by omega,by go_num,Hf,(hK.alloc _).alloc _⟩
     case measure=>simp only [intOf];omega
   ·have Hf:Hid (qa9 xs=true):=by
     show _=_
     have:=hok.out
     rwa [List.take_of_length_le (by rw [Hn.out];omega)] at this
    go_wp2
    go_ret
    exact ⟨by rw [Hr.out,Hf.out];rfl,hK⟩
theorem qlX (a b:Int) (w:World) (ha:0 <= a) (ha':a <= 9223372036854775807) (hb:0 <= b) (hb':b <= 9223372036854775807) :
  Calls Tryz.prog 112 #[.int .i64 a,.int .i64 b] w fun e w'=>e = .returned (.int .i64 (Int.gcd a b)) /\ Quiet w w':=by
 obtain ⟨x,rfl⟩:=Int.eq_ofNat_of_zero_le ha
 obtain ⟨y,rfl⟩:=Int.eq_ofNat_of_zero_le hb
 exact qjr x y w (by omega) (by omega)
theorem qlY (a b:Int) (w:World) (ha:0 <= a) (ha':a <= 9223372036854775807) (hb:0 <= b) (hb':b <= 9223372036854775807) :
  Calls Tryz.prog 185 #[.int .i64 a,.int .i64 b] w fun e w'=>e = .returned (.int .i64 (Int.gcd a b)) /\ Quiet w w':=by
 obtain ⟨x,rfl⟩:=Int.eq_ofNat_of_zero_le ha
 obtain ⟨y,rfl⟩:=Int.eq_ofNat_of_zero_le hb
 exact qjs x y w (by omega) (by omega)
set_option maxHeartbeats 400000 in
theorem qlZ (a b:Int) (w:World) (ha:0 <= a) (ha':a <= 10000000000000) (hb:1 <= b) (hb':b <= 10000000000000) :
  Calls Tryz.prog 155 #[sh a b] w fun e w'=>e = .returned (sh (a / (Int.gcd a b:Int)) (b / (Int.gcd a b:Int))) /\ Keeps w w':=by
 have g1:1 <= (Int.gcd a b:Int):=by
  have:0 < Int.gcd a b:=Int.gcd_pos_of_ne_zero_right _ (by omega)
  omega
 have g2:(Int.gcd a b:Int) <= 10000000000000:=by
  have:=Int.le_of_dvd (by omega) (Int.gcd_dvd_right a b)
  omega
 generalize hg:(Int.gcd a b:Int)=g at *
 have Hg:Hid ((Int.gcd a b:Int)=g):=hg
 clear hg
 have d1:0 <= a / g:=Int.ediv_nonneg ha (by omega)
 have d2:a / g <= 10000000000000:=Int.le_trans (Int.ediv_le_self _ ha) ha'
 have d3:0 <= b / g:=Int.ediv_nonneg (by omega) (by omega)
 have d4:b / g <= 10000000000000:=Int.le_trans (Int.ediv_le_self _ (by omega)) hb'
 go_enter Tryz.func155,Tryz.ntmps155
 go_wp2_with (go_at_call 185;refine (qlY a b _ ?_ ?_ ?_ ?_).mono ?_;omega;omega;omega;omega;rintro e w' ⟨rfl,n,rfl⟩;rw [Hg.out])
 go_region
 go_wp2
 exact bodyPost_ret (v:=sh (a / g) (b / g)) (by simp [results,Tryz.results155,go_sem]) rfl ⟨rfl,((((((Keeps.refl _).alloc _).alloc _).drewN _).setCell (by simp) _).setCell (by simp) _)⟩
open Plain
set_option maxHeartbeats 400000 in
theorem ql0 (k:Nat) (n d q p:Int) (w:World) (hI:Inv k (n,d)) (hk:k < 7) (hp1:1 <= p) (hp2:p <= 40) (hq1:1 <= q) (hq2:q <= p) :
  Calls Tryz.prog 95 #[sh n d,sh q p] w fun e w'=>e = .returned (sh (qa8 (n,d) (q,p)).1 (qa8 (n,d) (q,p)).2) /\ Keeps w w':=by
 obtain ⟨b1,b2,b3,b4,b5,b6,_,_⟩:=qho hI hk hp1 hp2 hq1 hq2
 clear hI
 have Hs:Hid (sh ((n*p+q*d) / (Int.gcd (n*p+q*d) (d*p):Int)) ((d*p) / (Int.gcd (n*p+q*d) (d*p):Int))=sh (qa8 (n,d) (q,p)).1 (qa8 (n,d) (q,p)).2):=rfl
 go_enter Tryz.func95,Tryz.ntmps95
 go_wp2_with (go_at_call 155;refine (qlZ _ _ _ ?_ ?_ ?_ ?_).mono ?_;omega;omega;omega;omega;rintro e w' ⟨rfl,hb⟩;obtain ⟨hc,hf⟩:=hb.rules;rw [Hs.out])
 refine bodyPost_ret (v:=sh (qa8 (n,d) (q,p)).1 (qa8 (n,d) (q,p)).2) (by simp [results,Tryz.results95,go_sem,hc]) rfl ⟨rfl,?_⟩
 have k0:=Keeps.trans (((Keeps.refl w).alloc _).alloc _ |>.alloc _) hb
 exact ((k0.setCell (by simp;omega) _).setCell (by simp;omega) _)
theorem ql1 (q p:Int) (w:World) :
  Calls Tryz.prog 96 #[sh q p] w fun e w'=>e = .returned (sh q p) /\ Keeps w w':=by
 go_enter Tryz.func96,Tryz.ntmps96
 go_wp2
 exact bodyPost_ret (v:=sh q p) (by simp [results,Tryz.results96,go_sem]) rfl ⟨rfl,((Keeps.refl _).alloc _).alloc _⟩
theorem ql2 (n d:Int) (w:World) :
  Calls Tryz.prog 46 #[sh n d] w fun e w'=>e = .returned (.bool (decide (n <= d))) /\ Keeps w w':=by
 go_enter Tryz.func46,Tryz.ntmps46
 go_wp2
 go_ret
 exact ⟨rfl,(Keeps.refl _).alloc _⟩
theorem ql3 {xs:List (Int × Int)} (h:qa9 xs=true) {k:Nat} (hk:k < xs.length) {q p:Int} (e:xs.getD k (0,0)=(q,p)):(1 <= p /\ p <= 40) /\ 1 <= q /\ q <= p:=by
 have e':xs.getD k (0,0)=xs[k]:=by simp [hk]
 have:=List.all_eq_true.1 h xs[k] (List.getElem_mem hk)
 rw [<- e',e] at this
 exact qbL.1 this
def SumTwo (w:World) (b:Nat) (v0 v1:Value):Prop:=w.cell? ⟨b,0,none⟩=some v0 /\ w.cell? ⟨b,1,none⟩=some v1 /\ w.frozen? ⟨b,0,none⟩=false /\ w.frozen? ⟨b,1,none⟩=false
theorem SumTwo.rules {w:World} {b:Nat} {v0 v1:Value} (h:SumTwo w b v0 v1):(∀ w',Keeps w w'->w'.cell? ⟨b,0,none⟩=some v0) /\ (∀ w',Keeps w w'->w'.cell? ⟨b,1,none⟩=some v1) /\ (∀ w',Keeps w w'->w'.frozen? ⟨b,0,none⟩=false) /\ ∀ w',Keeps w w'->w'.frozen? ⟨b,1,none⟩=false:=by
 obtain ⟨h1,h2,h3,h4⟩:=h
 have hb:b < w.heap.size:=World.block_lt_of_cell? w _ h1
 exact ⟨Keeps.has h1,Keeps.has h2,fun w' k=>(k.frozens b 0 hb).trans h3,fun w' k=>(k.frozens b 1 hb).trans h4⟩
theorem SumTwo.keeps {w w':World} {b:Nat} {v0 v1:Value} (h:SumTwo w b v0 v1) (k:Keeps w w'):SumTwo w' b v0 v1 :=
 ⟨h.rules.1 _ k,h.rules.2.1 _ k,h.rules.2.2.1 _ k,h.rules.2.2.2 _ k⟩
theorem SumTwo.set {w:World} {b:Nat} {v0 v1:Value} (h:SumTwo w b v0 v1) (x y:Value):SumTwo ((w.setCell ⟨b,0,none⟩ x).setCell ⟨b,1,none⟩ y) b x y:=by
 obtain ⟨h1,h2,h3,h4⟩:=h
 have e2:(w.setCell ⟨b,0,none⟩ x).cell? ⟨b,1,none⟩=some v1:=by rw [qa4 (by omega),h2]
 exact ⟨by rw [qa4 (by omega),qdk h1],qdk e2 _,by simp [h3],by simp [h4]⟩
theorem SumTwo.other {w:World} {b c:Nat} {v0 v1:Value} (h:SumTwo w b v0 v1) (hc:c≠b) (x y:Value):SumTwo ((w.setCell ⟨c,0,none⟩ x).setCell ⟨c,1,none⟩ y) b v0 v1:=by
 obtain ⟨h1,h2,h3,h4⟩:=h
 exact ⟨by rw [qa4 (by omega),qa4 (by omega),h1],by rw [qa4 (by omega),qa4 (by omega),h2],by simp [h3],by simp [h4]⟩
theorem SumTwo.lt {w:World} {b:Nat} {v0 v1:Value} (h:SumTwo w b v0 v1):b < w.heap.size:=World.block_lt_of_cell? w _ h.1
set_option maxHeartbeats 1000000 in
theorem ql4 (a:Option Addr) (cap:Nat) (xs:List (Int × Int)) (w:World) (hl:xs.length <= 7) (hs:Sh w a xs) (hok:qa9 xs=true) :
  Calls Tryz.prog 45 #[.slice a xs.length cap] w fun e w'=>e = .returned (sh (sumI xs).1 (sumI xs).2) /\ Keeps w w':=by
 have Hok:Hid (qa9 xs=true):=hok
 clear hok
 generalize hn:xs.length=n at hl
 have Hn:Hid (xs.length=n):=hn
 clear hn
 go_enter Tryz.func45,Tryz.ntmps45
 go_wp2
 go_loopw [9] (fun i wr=>∃ k:Nat,k <= n /\ i = .int .i64 k /\ ∃ nn dd:Int,Hid (sumI (xs.take k)=(nn,dd)) /\ Inv k (nn,dd) /\ Keeps w wr /\ SumTwo wr w.heap.size (.int .i64 0) (.int .i64 0) /\ SumTwo wr (w.heap.size+1) (.int .i64 nn) (.int .i64 dd)) (fun i _=>n - (intOf i).toNat)
 case atStart=>exact ⟨0,Nat.zero_le _,rfl,0,1,rfl,qhm,((Keeps.refl _).alloc _).alloc _,by simp [SumTwo,go_sem],by simp [SumTwo,go_sem]⟩
 case round =>
  obtain ⟨k,hk,rfl,nn,dd,hsum,hI,hK,⟨t1,t2,t3,t4⟩,⟨s1,s2,s3,s4⟩⟩:=hrel
  by_cases hlt:k < n
  ·obtain ⟨b,off,q,p,rfl,e,c0,c1⟩:=hs.at (by rw [Hn.out];exact hlt)
   have E:Hid (xs.getD k (0,0)=(q,p)):=e
   clear e
   obtain ⟨⟨hp1,hp2⟩,hq1,hq2⟩:=ql3 Hok.out (by rw [Hn.out];exact hlt) E.out
   have c0':=Keeps.has c0 wr hK
   have c1':=Keeps.has c1 wr hK
   go_wp2
   have kW:Keeps w (wr.alloc (.cells #[.int .i64 q,.int .i64 p] 51)):=hK.alloc _
   have r1:=Keeps.has (W:=wr.alloc (.cells #[.int .i64 q,.int .i64 p] 51)) (b:=wr.heap.size) (o:=0) (v := .int .i64 q) (by simp [go_sem])
   have r2:=Keeps.has (W:=wr.alloc (.cells #[.int .i64 q,.int .i64 p] 51)) (b:=wr.heap.size) (o:=1) (v := .int .i64 p) (by simp [go_sem])
   have T:=SumTwo.keeps ⟨t1,t2,t3,t4⟩ ((Keeps.refl wr).alloc (.cells #[.int .i64 q,.int .i64 p] 51))
   have U:=SumTwo.keeps ⟨s1,s2,s3,s4⟩ ((Keeps.refl wr).alloc (.cells #[.int .i64 q,.int .i64 p] 51))
   have hz:w.heap.size+1 < wr.heap.size:=SumTwo.lt ⟨s1,s2,s3,s4⟩
   clear t1 t2 t3 t4 s1 s2 s3 s4 c0 c1 c0' c1' hK
   generalize wr.alloc (.cells #[.int .i64 q,.int .i64 p] 51)=W at *
   obtain ⟨u1,u2,u3,u4⟩:=U.rules
   have HU:Hid (SumTwo W (w.heap.size+1) (.int .i64 nn) (.int .i64 dd)):=U
   clear U
   go_region_with (first
    | (go_at_call 96;refine (ql1 _ _ _).mono ?_;rintro e w1 ⟨rfl,hb⟩;have kk:Keeps W w1:=Keeps.trans (by first | assumption | exact (Keeps.refl _).drew) hb)
    | (go_at_call 95;refine (ql0 k _ _ _ _ _ hI ?_ hp1 hp2 hq1 hq2).mono ?_;omega;rintro e w1 ⟨rfl,hb⟩;have kk:Keeps W w1:=Keeps.trans (by first | assumption | exact (Keeps.refl _).drew) hb))
   all_goals go_wp2
   all_goals
    refine ⟨⟨k+1,by omega,by go_num,_,_,?_,qhp hI hp1 hp2 hq1 hq2,((kW.trans kk).setCell (by simp) _).setCell (by simp) _,(T.keeps kk).other (by omega) _ _,(HU.out.keeps kk).set _ _⟩,by simp only [intOf];omega⟩
    show _=_
    rw [qhl xs k (by rw [Hn.out];exact hlt),hsum.out,E.out];rfl
  ·have Hf:Hid (sumI xs=(nn,dd)):=by
    have:=hsum.out
    rwa [List.take_of_length_le (by rw [Hn.out];omega)] at this
   go_wp2
   refine bodyPost_ret (v:=sh nn dd) (by simp [results,Tryz.results45,go_sem,t1,t2]) rfl ⟨by rw [Hf.out],(hK.setCell (by simp) _).setCell (by simp) _⟩
def qcd (xs:List (Int × Int)):Int × Int × Bool:=if qbq xs then ((sumI xs).1,(sumI xs).2,true) else (0,0,false)
theorem qfz {xs:List (Int × Int)} (h:qbq xs=false):qcd xs=(0,0,false):=by simp [qcd,h]
theorem qhw {xs:List (Int × Int)} (h:qbq xs=true):qcd xs=((sumI xs).1,(sumI xs).2,true):=by simp [qcd,h]
theorem qhx {xs:List (Int × Int)}:qbq xs=true↔xs.length <= 7 /\ qa9 xs=true:=by simp [qbq]
set_option maxHeartbeats 1000000 in
theorem ql5 (a:Option Addr) (cap:Nat) (xs:List (Int × Int)) (w:World) (hl:xs.length <= maxLen) (hs:Sh w a xs) :
  Calls Tryz.prog 19 #[.slice a xs.length cap] w fun e w'=>e = .returned (.bool (qbq xs&&decide ((sumI xs).1 <= (sumI xs).2))) /\ Keeps w w':=by
 cases hc:qbq xs
 ·go_enter Tryz.func19,Tryz.ntmps19
  go_wp2_with (go_at_call 44;refine (qhv _ _ _ _ hl hs).mono ?_;rintro e w1 ⟨rfl,hb⟩)
  go_ret
  exact ⟨rfl,hb⟩
 ·obtain ⟨h7,hok⟩:=qhx.1 hc
  have Hok:Hid (qa9 xs=true):=hok
  clear hok
  generalize hs1:(sumI xs).1=s1 at *
  generalize hs2:(sumI xs).2=s2 at *
  have H1:Hid ((sumI xs).1=s1):=hs1
  have H2:Hid ((sumI xs).2=s2):=hs2
  clear hs1 hs2
  go_enter Tryz.func19,Tryz.ntmps19
  go_wp2_with (first
   | (go_at_call 44;refine (qhv _ _ _ _ hl hs).mono ?_;rintro e w1 ⟨rfl,hb⟩)
   | (go_at_call 45;refine (ql4 _ _ _ _ h7 (hs.keeps hb) Hok.out).mono ?_;rintro e w2 ⟨rfl,hb2⟩;rw [H1.out,H2.out])
   | (go_at_call 46;refine (ql2 _ _ _).mono ?_;rintro e w3 ⟨rfl,hb3⟩))
  go_ret
  exact ⟨rfl,(hb.trans hb2).trans hb3⟩
end Go.Proofs.YteagpjlgjfaclaaGreatDoor
namespace Go.Proofs.YteagpjlgjfaclaaGreatDoor
set_option maxRecDepth 100000
open Go.RowKit Go.Extern.Stop Go.Stop Go.Extern
attribute [local go_sem] Keeps.refl Keeps.alloc Keeps.drew Keeps.drewN
theorem qf2 (v:Value) (w:World):(Extern.ReflectliteType.typeOf #[.iface 284 v]).run Tryz.prog w = .ok (.iface 152 (.agg #[.pointer (some ⟨7,284,none⟩)])) w:=by kernel_rfl
theorem qf3 (w:World):(callFunc 312 #[.agg #[.pointer (some ⟨7,284,none⟩)]]).run Tryz.prog w = .ok (.value (.bool true)) w:=by kernel_rfl
theorem qf4 (v:Value) (w:World):(Go.method 436 152 v "Comparable").run Tryz.prog w = .ok (312,v) w:=by kernel_rfl
theorem qf5:(Tryz.prog.info? 284).map (·.comparable)=some true:=by kernel_rfl
theorem qf6:(Tryz.prog.info? 324).map (·.size)=some 1:=by kernel_rfl
theorem qi7 (v:Value) (xT:TypeId) (w:World):(Instr.typeAssert (.iface 284 v) xT 206 true).run Tryz.prog w = .ok (.tuple #[.nilIface,.bool false]) w:=run_typeAssert_lacksB Tryz.underlying206 (by kernel_rfl) (by kernel_rfl) v xT w
theorem qi8 (v:Value) (xT:TypeId) (w:World):(Instr.typeAssert (.iface 284 v) xT 160 true).run Tryz.prog w = .ok (.tuple #[.nilIface,.bool false]) w:=run_typeAssert_lacksB Tryz.underlying160 (by kernel_rfl) (by kernel_rfl) v xT w
theorem qi9 (v:Value) (xT:TypeId) (w:World):(Instr.typeAssert (.iface 284 v) xT 162 true).run Tryz.prog w = .ok (.tuple #[.nilIface,.bool false]) w:=run_typeAssert_lacksB Tryz.underlying162 (by kernel_rfl) (by kernel_rfl) v xT w
set_option maxHeartbeats 1000000 in
theorem qja (a:Addr) (w:World) :
  Calls Tryz.prog 80 #[.iface 284 (.pointer (some a)),.iface 284 (.pointer (some a))] w fun e w'=>e = .returned (.bool true) /\ w'=w:=by
 obtain ⟨i,hi,hcmp⟩:=Option.map_eq_some_iff.1 qf5
 obtain ⟨j,hj,hjs⟩:=Option.map_eq_some_iff.1 qf6
 have h8 := @run_callFunc_extern Tryz.prog 102 _ Extern.ReflectliteType.typeOf Tryz.func102 (by kernel_rfl) (by kernel_rfl) (by kernel_rfl) (by kernel_rfl)
 have tT:=qf2
 have cT:=qf3
 have mR:=qf4
 have heq:=run_eql_iface_ptr_same (P:=Tryz.prog) w a Tryz.underlying63 Tryz.underlying284 hi hcmp hj
 go_enter Tryz.func80,Tryz.ntmps80
 go_wp2
 refine wp_loop_rounds 1 ?_
 rw [rounds_succ]
 go_wp2
 go_ret
 exact ⟨rfl,rfl⟩
theorem qjb (b:Addr) (w:World) :
  Calls Tryz.prog 80 #[.nilIface,.iface 284 (.pointer (some b))] w fun e w'=>e = .returned (.bool false) /\ w'=w:=by
 have hn:=run_eql_iface_nil_left (P:=Tryz.prog) w 284 (.pointer (some b)) Tryz.underlying63
 go_enter Tryz.func80,Tryz.ntmps80
 go_wp2
 go_ret
 exact ⟨rfl,rfl⟩
set_option maxHeartbeats 1000000 in
theorem qjc (a b:Addr) (ca cb:Array Value) (ta tb:TypeId) (w:World) (hne:a≠b) (ha:w.heap[a.block]?=some (.cells ca ta (0,0))) (hb:w.heap[b.block]?=some (.cells cb tb (0,0))) :
  Calls Tryz.prog 80 #[.iface 284 (.pointer (some a)),.iface 284 (.pointer (some b))] w fun e w'=>e = .returned (.bool false) /\ w'=w:=by
 obtain ⟨i,hi,hcmp⟩:=Option.map_eq_some_iff.1 qf5
 obtain ⟨j,hj,hjs⟩:=Option.map_eq_some_iff.1 qf6
 have h8 := @run_callFunc_extern Tryz.prog 102 _ Extern.ReflectliteType.typeOf Tryz.func102 (by kernel_rfl) (by kernel_rfl) (by kernel_rfl) (by kernel_rfl)
 have tT:=qf2
 have cT:=qf3
 have mR:=qf4
 have nE:=qi7
 have uE:=qi8
 have vE:=qi9
 have heq:=run_eql_iface_ptr_other (P:=Tryz.prog) w Tryz.underlying63 Tryz.underlying284 hi hcmp hj (by rw [hjs];decide) hne ha hb
 go_enter Tryz.func80,Tryz.ntmps80
 go_wp2
 refine wp_loop_rounds 1 ?_
 rw [rounds_succ]
 go_wp2
 go_ret
 exact ⟨rfl,rfl⟩
structure Errs (w:World) (er:Nat->Addr):Prop where
 var:∀ k,1 <= k->k <= 6->w.cell? ⟨k,0,none⟩=some (.iface 284 (.pointer (some (er k))))
 low:6 < w.heap.size
 apart:∀ j k,1 <= j->j <= 6->1 <= k->k <= 6->j≠k->er j≠er k
 lies:∀ k,1 <= k->k <= 6->∃ c t,w.heap[(er k).block]?=some (.cells c t (0,0))
theorem Errs.keeps {w w':World} {er:Nat->Addr} (h:Errs w er) (k:Keeps w w'):Errs w' er:=by
 refine ⟨fun j h1 h2=>(k.cells j 0 (by have:=h.low;omega)).trans (h.var j h1 h2),Nat.lt_of_lt_of_le h.low k.size,h.apart,fun j h1 h2 => ?_⟩
 obtain ⟨c,t,e⟩:=h.lies j h1 h2
 exact ⟨c,t,(Below.block k _ (Array.getElem?_eq_some_iff.1 e).1).trans e⟩
def errV (er:Nat->Addr) (n:Nat):Value:=if n=0 then .nilIface else .iface 284 (.pointer (some (er n)))
theorem qdz {w:World} {er:Nat->Addr} (h:Errs w er) (n k:Nat) (hn:n <= 6) (h1:1 <= k) (h6:k <= 6) :
  Calls Tryz.prog 80 #[errV er n,.iface 284 (.pointer (some (er k)))] w fun e w'=>e = .returned (.bool (n==k)) /\ w'=w:=by
 unfold errV
 by_cases h0:n=0
 ·subst h0
  rw [if_pos rfl,show ((0:Nat)==k)=false from by simp;omega]
  exact qjb _ _
 ·rw [if_neg h0]
  by_cases hk:n=k
  ·subst hk
   rw [show (n==n)=true from by simp]
   exact qja _ _
  ·obtain ⟨c1,t1,e1⟩:=h.lies n (by omega) hn
   obtain ⟨c2,t2,e2⟩:=h.lies k h1 h6
   rw [show (n==k)=false from by simpa using hk]
   exact qjc _ _ c1 c2 t1 t2 w (h.apart n k (by omega) hn h1 h6 hk) e1 e2
set_option maxHeartbeats 1000000 in
theorem qjd {w:World} {er:Nat->Addr} (h:Errs w er) (n:Nat) (hn:n <= 6) :
  Calls Tryz.prog 37 #[errV er n] w fun e w'=>e = .returned (.int .i64 (n:Int)) /\ w'=w:=by
 have c1:=qdz h n 1 hn (by omega) (by omega)
 have c2:=qdz h n 2 hn (by omega) (by omega)
 have c3:=qdz h n 3 hn (by omega) (by omega)
 have c4:=qdz h n 4 hn (by omega) (by omega)
 have c5:=qdz h n 5 hn (by omega) (by omega)
 have c6:=qdz h n 6 hn (by omega) (by omega)
 have v1:=h.var 1 (by omega) (by omega)
 have v2:=h.var 2 (by omega) (by omega)
 have v3:=h.var 3 (by omega) (by omega)
 have v4:=h.var 4 (by omega) (by omega)
 have v5:=h.var 5 (by omega) (by omega)
 have v6:=h.var 6 (by omega) (by omega)
 generalize errV er n=ev at *
 generalize er 1=a1 at *
 generalize er 2=a2 at *
 generalize er 3=a3 at *
 generalize er 4=a4 at *
 generalize er 5=a5 at *
 generalize er 6=a6 at *
 clear h
 have go:n=0∨n=1∨n=2∨n=3∨n=4∨n=5∨n=6:=by omega
 clear hn
 rcases go with rfl | rfl | rfl | rfl | rfl | rfl | rfl
 all_goals
  go_enter Tryz.func37,Tryz.ntmps37
  go_wp2_with first
   | (go_at_call 80;refine c1.mono ?_;rintro e w' ⟨rfl,rfl⟩;clear c1)
   | (go_at_call 80;refine c2.mono ?_;rintro e w' ⟨rfl,rfl⟩;clear c2)
   | (go_at_call 80;refine c3.mono ?_;rintro e w' ⟨rfl,rfl⟩;clear c3)
   | (go_at_call 80;refine c4.mono ?_;rintro e w' ⟨rfl,rfl⟩;clear c4)
   | (go_at_call 80;refine c5.mono ?_;rintro e w' ⟨rfl,rfl⟩;clear c5)
   | (go_at_call 80;refine c6.mono ?_;rintro e w' ⟨rfl,rfl⟩;clear c6)
  go_ret
  exact ⟨rfl,rfl⟩
end Go.Proofs.YteagpjlgjfaclaaGreatDoor
namespace Go.Proofs.YteagpjlgjfaclaaGreatDoor
set_option maxRecDepth 100000
open Go.RowKit Plain
attribute [local go_sem] Keeps.refl Keeps.alloc Keeps.drew Keeps.drewN
set_option maxHeartbeats 1600000 in
theorem qhy (a:Option Addr) (cap:Nat) (xs:List (Int × Int)) (w:World) (hl:xs.length <= maxLen) (hs:Sh w a xs) :
  Calls Tryz.prog 73 #[.slice a xs.length cap] w fun e w'=>e = .returned (.tuple #[.int .i64 (qcd xs).1,.int .i64 (qcd xs).2.1,.bool (qcd xs).2.2]) /\ Keeps w w':=by
 unfold maxLen at hl
 generalize hn:xs.length=n at hl
 have Hn:Hid (xs.length=n):=hn
 by_cases h7:7 < n
 ·have Hr:Hid (qcd xs=(0,0,false)):=qfz (by simp [qbq,hn];omega)
  clear hn
  go_enter Tryz.func73,Tryz.ntmps73
  go_wp2
  go_ret3
  exact ⟨by rw [Hr.out];rfl,Keeps.refl _⟩
 ·clear hn
  have h7':n <= 7:=by omega
  go_enter Tryz.func73,Tryz.ntmps73
  go_wp2
  go_loopw [5,6,7] (fun s t i wr=>∃ k:Nat,k <= n /\ i = .int .i64 k /\ ∃ nn dd:Int,s = .int .i64 nn /\ t = .int .i64 dd /\ Hid (sumI (xs.take k)=(nn,dd)) /\ Inv k (nn,dd) /\ Hid (qa9 (xs.take k)=true) /\ Keeps w wr) (fun _ _ i _=>n - (intOf i).toNat)
  case atStart=>exact ⟨0,Nat.zero_le _,rfl,0,1,rfl,rfl,rfl,qhm,by simp [Hid,qa9],Keeps.refl _⟩
  case round =>
   obtain ⟨k,hk,rfl,nn,dd,rfl,rfl,hsum,hI,hok,hK⟩:=hrel
   by_cases hlt:k < n
   ·obtain ⟨b,off,q,p,rfl,e,c0,c1⟩:=hs.at (by rw [Hn.out];exact hlt)
    have E:Hid (xs.getD k (0,0)=(q,p)):=e
    clear e
    have r0:=Keeps.has c0
    have r1:=Keeps.has c1
    have hlt':(k:Int) < (n:Int):=by omega
    clear c0 c1 hs
    cases ho:okB q p
    ·have Hf:Hid (qcd xs=(0,0,false)):=by
      refine qfz ?_
      have:=qhu (k:=k) (by rw [Hn.out];exact hlt) (by rw [E.out];exact ho)
      simp [qbq,this]
     go_wp2_with (go_at_call 72;refine (qfy _ _ _).mono ?_;rintro e w1 ⟨rfl,hb⟩;have kk:Keeps w w1:=hK.trans hb)
     go_ret3
     exact ⟨by rw [Hf.out];rfl,kk⟩
    ·have Hf:Hid (qa9 (xs.take (k+1))=true):=by
      show _=_
      rw [qht xs k (by rw [Hn.out];exact hlt),hok.out,E.out];exact ho
     obtain ⟨⟨hp1,hp2⟩,hq1,hq2⟩:=qbL.1 ho
     obtain ⟨b1,b2,b3,b4,b5,b6,b7,b8⟩:=qho hI (by omega) hp1 hp2 hq1 hq2
     have hI':=qhp hI hp1 hp2 hq1 hq2
     have Hs:Hid (sumI (xs.take (k+1))=qa8 (nn,dd) (q,p)):=by
      show _=_
      rw [qhl xs k (by rw [Hn.out];exact hlt),hsum.out,E.out]
     clear hI
     go_wp2_with (go_at_call 72;refine (qfy _ _ _).mono ?_;rintro e w1 ⟨rfl,hb⟩;have kk:Keeps w w1:=hK.trans hb)
     go_quiet (fail)
     go_wp2_with (go_at_call 112;refine (qlX _ _ _ ?_ ?_ ?_ ?_).mono ?_;omega;omega;omega;omega;rintro e w1 ⟨rfl,m,rfl⟩)
     refine ⟨⟨k+1,by omega,by go_num,_,_,rfl,rfl,Hs,hI',Hf,kk.drewN _⟩,by simp only [intOf];omega⟩
   ·have Hf:Hid (qcd xs=(nn,dd,true)):=by
     have h1:=hsum.out
     have h2:=hok.out
     rw [List.take_of_length_le (by rw [Hn.out];omega)] at h1 h2
     show _=_
     rw [qhw (qhx.2 ⟨by rw [Hn.out];exact h7',h2⟩),h1]
    go_wp2
    go_ret3
    exact ⟨by rw [Hf.out];rfl,hK⟩
set_option maxHeartbeats 1000000 in
theorem ql6 (a:Option Addr) (cap:Nat) (xs:List (Int × Int)) (w:World) (hl:xs.length <= maxLen) (hs:Sh w a xs) :
  Calls Tryz.prog 31 #[.slice a xs.length cap] w fun e w'=>e = .returned (.bool (qbq xs&&decide ((sumI xs).1 <= (sumI xs).2))) /\ Keeps w w':=by
 cases hc:qbq xs
 ·have Hr:Hid (qcd xs=(0,0,false)):=qfz hc
  go_enter Tryz.func31,Tryz.ntmps31
  go_wp2_with (go_at_call 73;refine (qhy _ _ _ _ hl hs).mono ?_;rintro e w1 ⟨rfl,hb⟩;rw [Hr.out])
  go_ret
  exact ⟨rfl,hb⟩
 ·have Hr:Hid (qcd xs=((sumI xs).1,(sumI xs).2,true)):=qhw hc
  generalize (sumI xs).1=s1 at *
  generalize (sumI xs).2=s2 at *
  go_enter Tryz.func31,Tryz.ntmps31
  go_wp2_with (go_at_call 73;refine (qhy _ _ _ _ hl hs).mono ?_;rintro e w1 ⟨rfl,hb⟩;rw [Hr.out])
  go_ret
  exact ⟨rfl,hb⟩
end Go.Proofs.YteagpjlgjfaclaaGreatDoor
