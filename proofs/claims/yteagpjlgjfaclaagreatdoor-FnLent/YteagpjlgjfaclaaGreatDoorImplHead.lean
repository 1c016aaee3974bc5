/-
  The program's task by its parts: the head that all classes
  Lists of tasks: the laws' own helpers, and what the model's
  A list of tasks: the contract of the model's TasksOk.
  The program's task of each class: taken out of a task, and
-/
import Derived.Test.YteagpjlgjfaclaaGreatDoorTaskSpec
import Derived.Test.YteagpjlgjfaclaaGreatDoorLate
import Derived.Test.YteagpjlgjfaclaaGreatDoorCur
import Derived.BigRegion
namespace Go.Proofs.YteagpjlgjfaclaaGreatDoor
set_option maxRecDepth 100000
open Go.RowKit
abbrev hc (t:ag):Array Value:=#[.int .i64 t.no,.int .i64 t.cls,.int .i64 t.cpu,.int .i64 t.st,.bool t.idle]
abbrev JJ (t:ag):Array Value:=#[.int .i64 t.q,.int .i64 t.p,.int .i64 t.left,.int .i64 t.due]
abbrev ry (t:ag):Array Value:=#[.int .i64 t.prio,.int .i64 t.round,.int .i64 t.left,.int .i64 t.seq]
abbrev JK (t:ag):Array Value:=#[.int .i64 t.nice,.int .i64 t.v]
def ag.bare (t:ag):ag:=⟨t.no,t.cls,t.cpu,t.st,t.idle,0,0,0,0,0,0,0,0,0⟩
def fy (t:ag):Bool:=aF t.no 1 1000&&aF t.cpu 0 3&&(t.st==1||t.st==2)
def jy (t:ag):Bool:=okB t.q t.p&&aF t.left 0 t.q&&aF t.due 0 100040
def mH (t:ag):Bool:=if t.round==0 then t.left==0 else aF t.left 1 t.round
def iN (t:ag):Bool:=aF t.prio 1 20&&aF t.round 0 10&&mH t&&aF t.seq 0 1000000
def kq (t:ag):Bool:=aF t.nice (-4) 4&&aF t.v 0 100000000
theorem vN (t:ag) (w:World) :
  Calls Tryz.prog 93 #[tk t] w fun e w'=>e = .returned (.agg (hc t)) /\ aa w w':=by
 go_enter Tryz.func93,Tryz.ntmps93
 go_wp2
 exact bodyPost_ret (v := .agg (hc t)) (by simp [results,Tryz.results93,go_sem]) rfl ⟨rfl,by repeat (first | exact aa.refl _ | refine aa.alloc ?_ _ | refine aa.drewN ?_ _ | refine aa.setCell ?_ (by simp [go_sem]) _)⟩
theorem vO (t:ag) (w:World) :
  Calls Tryz.prog 157 #[.agg (hc t)] w fun e w'=>e = .returned (tk t.bare) /\ aa w w':=by
 go_enter Tryz.func157,Tryz.ntmps157
 go_wp2
 exact bodyPost_ret (v:=tk t.bare) (by simp [results,Tryz.results157,go_sem,ag.bare]) rfl ⟨rfl,by repeat (first | exact aa.refl _ | refine aa.alloc ?_ _ | refine aa.drewN ?_ _ | refine aa.setCell ?_ (by simp [go_sem]) _)⟩
theorem iD (t:ag) (w:World) :
  Calls Tryz.prog 113 #[.agg (hc t)] w fun e w'=>e = .returned (.bool (fy t)) /\ aa w w':=by
 cases b1:aF t.no 1 1000
 ·have Hr:Hid (fy t=false):=by show _=_;simp [fy,b1]
  go_enter Tryz.func113,Tryz.ntmps113
  go_wp2_with (go_at_call 105;refine (fR _ _ _ _).mono ?_;rintro e w' ⟨rfl,rfl⟩)
  go_ret
  exact ⟨by rw [Hr.out];rfl,by repeat (first | exact aa.refl _ | refine aa.alloc ?_ _ | refine aa.drewN ?_ _)⟩
 ·cases b2:aF t.cpu 0 3
  ·have Hr:Hid (fy t=false):=by show _=_;simp [fy,b2]
   go_enter Tryz.func113,Tryz.ntmps113
   go_wp2_with (go_at_call 105;refine (fR _ _ _ _).mono ?_;rintro e w' ⟨rfl,rfl⟩)
   go_ret
   exact ⟨by rw [Hr.out];rfl,by repeat (first | exact aa.refl _ | refine aa.alloc ?_ _ | refine aa.drewN ?_ _)⟩
  ·cases b3:(t.st==1)
   ·have Hr:Hid (fy t=(t.st==2)):=by show _=_;simp only [fy,b1,b2,b3,Bool.true_and,Bool.false_or]
    go_enter Tryz.func113,Tryz.ntmps113
    go_wp2_with (go_at_call 105;refine (fR _ _ _ _).mono ?_;rintro e w' ⟨rfl,rfl⟩)
    go_ret
    exact ⟨by rw [Hr.out];rfl,by repeat (first | exact aa.refl _ | refine aa.alloc ?_ _ | refine aa.drewN ?_ _)⟩
   ·have Hr:Hid (fy t=true):=by show _=_;simp only [fy,b1,b2,b3,Bool.true_and,Bool.true_or]
    go_enter Tryz.func113,Tryz.ntmps113
    go_wp2_with (go_at_call 105;refine (fR _ _ _ _).mono ?_;rintro e w' ⟨rfl,rfl⟩)
    go_ret
    exact ⟨by rw [Hr.out];rfl,by repeat (first | exact aa.refl _ | refine aa.alloc ?_ _ | refine aa.drewN ?_ _)⟩
theorem AR (t:ag) (w:World) :
  Calls Tryz.prog 158 #[.agg (ry t)] w fun e w'=>e = .returned (.bool (mH t)) /\ aa w w':=by
 cases b1:(t.round==0)
 ·have Hr:Hid (mH t=aF t.left 1 t.round):=by show _=_;simp [mH,b1]
  go_enter Tryz.func158,Tryz.ntmps158
  go_wp2_with (go_at_call 105;refine (fR _ _ _ _).mono ?_;rintro e w' ⟨rfl,rfl⟩)
  go_ret
  exact ⟨by rw [Hr.out];rfl,by repeat (first | exact aa.refl _ | refine aa.alloc ?_ _ | refine aa.drewN ?_ _)⟩
 ·have Hr:Hid (mH t=(t.left==0)):=by show _=_;simp only [mH,b1,if_true]
  go_enter Tryz.func158,Tryz.ntmps158
  go_wp2
  go_ret
  exact ⟨by rw [Hr.out];rfl,by repeat (first | exact aa.refl _ | refine aa.alloc ?_ _ | refine aa.drewN ?_ _)⟩
set_option maxHeartbeats 1000000 in
theorem pS (t:ag) (w:World) :
  Calls Tryz.prog 114 #[.agg (JJ t)] w fun e w'=>e = .returned (.bool (jy t)) /\ aa w w':=by
 cases b1:okB t.q t.p
 ·have Hr:Hid (jy t=false):=by show _=_;simp [jy,b1]
  go_enter Tryz.func114,Tryz.ntmps114
  go_wp2_with (first
   | (go_at_call 105;refine (fR _ _ _ _).mono ?_;rintro e w' ⟨rfl,rfl⟩)
   | (go_at_call 94;refine (pT _ _ _).mono ?_;rintro e w' ⟨rfl,rfl⟩))
  go_ret
  exact ⟨by rw [Hr.out];rfl,by repeat (first | exact aa.refl _ | refine aa.alloc ?_ _ | refine aa.drewN ?_ _)⟩
 ·cases b2:aF t.left 0 t.q
  ·have Hr:Hid (jy t=false):=by show _=_;simp [jy,b2]
   go_enter Tryz.func114,Tryz.ntmps114
   go_wp2_with (first
    | (go_at_call 105;refine (fR _ _ _ _).mono ?_;rintro e w' ⟨rfl,rfl⟩)
    | (go_at_call 94;refine (pT _ _ _).mono ?_;rintro e w' ⟨rfl,rfl⟩))
   go_ret
   exact ⟨by rw [Hr.out];rfl,by repeat (first | exact aa.refl _ | refine aa.alloc ?_ _ | refine aa.drewN ?_ _)⟩
  ·have Hr:Hid (jy t=aF t.due 0 100040):=by show _=_;simp [jy,b1,b2]
   go_enter Tryz.func114,Tryz.ntmps114
   go_wp2_with (first
    | (go_at_call 105;refine (fR _ _ _ _).mono ?_;rintro e w' ⟨rfl,rfl⟩)
    | (go_at_call 94;refine (pT _ _ _).mono ?_;rintro e w' ⟨rfl,rfl⟩))
   go_ret
   exact ⟨by rw [Hr.out];rfl,by repeat (first | exact aa.refl _ | refine aa.alloc ?_ _ | refine aa.drewN ?_ _)⟩
set_option maxHeartbeats 1000000 in
theorem pU (t:ag) (w:World) :
  Calls Tryz.prog 117 #[.agg (ry t)] w fun e w'=>e = .returned (.bool (iN t)) /\ aa w w':=by
 have kW:aa w (w.alloc (.cells (ry t) 169)):=(aa.refl _).alloc _
 have r1:=dE w (ry t) 169
 have K0:=aa.refl (w.alloc (.cells (ry t) 169))
 cases b1:aF t.prio 1 20
 ·have Hr:Hid (iN t=false):=by show _=_;simp [iN,b1]
  go_enter Tryz.func117,Tryz.ntmps117
  go_wp2_with (go_at_call 105;refine (fR _ _ _ _).mono ?_;rintro e w' ⟨rfl,rfl⟩)
  go_ret
  exact ⟨by rw [Hr.out];rfl,by repeat (first | exact aa.refl _ | refine aa.alloc ?_ _ | refine aa.drewN ?_ _)⟩
 ·cases b2:aF t.round 0 10
  ·have Hr:Hid (iN t=false):=by show _=_;simp [iN,b2]
   go_enter Tryz.func117,Tryz.ntmps117
   go_wp2_with (go_at_call 105;refine (fR _ _ _ _).mono ?_;rintro e w' ⟨rfl,rfl⟩)
   go_ret
   exact ⟨by rw [Hr.out];rfl,by repeat (first | exact aa.refl _ | refine aa.alloc ?_ _ | refine aa.drewN ?_ _)⟩
  ·cases b3:mH t
   ·have Hr:Hid (iN t=false):=by show _=_;simp [iN,b3]
    go_enter Tryz.func117,Tryz.ntmps117
    go_wp2_with (first
     | (go_at_call 105;refine (fR _ _ _ _).mono ?_;rintro e w' ⟨rfl,rfl⟩)
     | (go_at_call 158;refine (AR t _).mono ?_;rintro e w1 ⟨rfl,k1⟩;rw [b3]))
    go_ret
    exact ⟨by rw [Hr.out];rfl,kW.trans k1⟩
   ·have Hr:Hid (iN t=aF t.seq 0 1000000):=by show _=_;simp [iN,b1,b2,b3]
    go_enter Tryz.func117,Tryz.ntmps117
    go_wp2_with (first
     | (go_at_call 105;refine (fR _ _ _ _).mono ?_;rintro e w' ⟨rfl,rfl⟩)
     | (go_at_call 158;refine (AR t _).mono ?_;rintro e w1 ⟨rfl,k1⟩;rw [b3]))
    go_ret
    exact ⟨by rw [Hr.out];rfl,kW.trans k1⟩
theorem pV (t:ag) (w:World) :
  Calls Tryz.prog 120 #[.agg (JK t)] w fun e w'=>e = .returned (.bool (kq t)) /\ aa w w':=by
 cases b1:aF t.nice (-4) 4
 ·have Hr:Hid (kq t=false):=by show _=_;simp [kq,b1]
  go_enter Tryz.func120,Tryz.ntmps120
  go_wp2_with (go_at_call 159;refine (AT _ _).mono ?_;rintro e w' ⟨rfl,rfl⟩)
  go_ret
  exact ⟨by rw [Hr.out];rfl,by repeat (first | exact aa.refl _ | refine aa.alloc ?_ _ | refine aa.drewN ?_ _)⟩
 ·have Hr:Hid (kq t=aF t.v 0 100000000):=by show _=_;simp [kq,b1]
  go_enter Tryz.func120,Tryz.ntmps120
  go_wp2_with (first
   | (go_at_call 159;refine (AT _ _).mono ?_;rintro e w' ⟨rfl,rfl⟩)
   | (go_at_call 105;refine (fR _ _ _ _).mono ?_;rintro e w' ⟨rfl,rfl⟩))
  go_ret
  exact ⟨by rw [Hr.out];rfl,by repeat (first | exact aa.refl _ | refine aa.alloc ?_ _ | refine aa.drewN ?_ _)⟩
section
attribute [local go_sem] aa.refl aa.alloc aa.drew aa.drewN
abbrev Ts (w:World) (a:Option Addr) (ts:List ag):Prop:=cH 14 tc w a ts
theorem iW {α:Type} {xs:List α} {k:Nat} (h:k < xs.length):∃ x,xs[k]?=some x:=⟨xs[k],List.getElem?_eq_getElem h⟩
def dA (ts:List ag) (no:Int):Int:=match ts.findIdx? (fun t=>t.no==no) with
 | some i=>i
 | none => -1
set_option maxHeartbeats 1000000 in
theorem JL (a:Option Addr) (cap:Nat) (ts:List ag) (no:Int) (w:World) (hl:ts.length <= maxLen) (hs:Ts w a ts) :
  Calls Tryz.prog 71 #[.slice a ts.length cap,.int .i64 no] w fun e w'=>e = .returned (.int .i64 (dA ts no)) /\ aa w w':=by
 unfold maxLen at hl
 generalize hn:ts.length=n at hl
 have Hn:Hid (ts.length=n):=hn
 clear hn
 go_enter Tryz.func71,Tryz.ntmps71
 go_wp2
 go_loopw [5] (fun i wr=>∃ k:Nat,k <= n /\ i = .int .i64 k /\ aa w wr /\ Hid (∀ j t,j < k->ts[j]?=some t->(t.no==no)=false)) (fun i _=>n - (intOf i).toNat)
 case atStart=>exact ⟨0,Nat.zero_le _,rfl,aa.refl _,fun j t hj=>by omega⟩
 case round =>
  obtain ⟨k,hk,rfl,hK,H⟩:=hrel
  by_cases hlt:k < n
  ·obtain ⟨t,ht⟩:=iW (xs:=ts) (k:=k) (by rw [Hn.out];exact hlt)
   obtain ⟨b,off,rfl,r0,r1⟩:=hs.at ht (by omega)
   have hlt':(k:Int) < (n:Int):=by omega
   have Ht:Hid (ts[k]?=some t):=ht
   clear hs ht
   cases hq:(t.no==no)
   ·go_wp2
    exact ⟨⟨k+1,by omega,by go_num,hK,fun j s hj hs=>by
     by_cases e:j=k
     ·subst e;rw [Ht.out] at hs;cases hs;exact hq
     ·exact H.out j s (by omega) hs⟩,by simp only [intOf];omega⟩
   ·have Hr:Hid (dA ts no=k):=by
     show _=_
     have:ts.findIdx? (fun t=>t.no==no)=some k:=by
      rw [List.findIdx?_eq_some_iff_getElem]
      have hk':k < ts.length:=by rw [Hn.out];exact hlt
      have e1:ts[k]=t:=by have:=Ht.out;rw [List.getElem?_eq_getElem hk'] at this;simpa using this
      refine ⟨hk',by rw [e1];exact hq,fun j hj => ?_⟩
      have:=H.out j ts[j] (by omega) (List.getElem?_eq_getElem _)
      simp [this]
     simp [dA,this]
    go_wp2
    go_ret
    exact ⟨by rw [Hr.out];rfl,hK⟩
  ·have Hr:Hid (dA ts no = -1):=by
    show _=_
    have:ts.findIdx? (fun t=>t.no==no)=none:=by
     rw [List.findIdx?_eq_none_iff]
     intro t ht
     obtain ⟨j,hj,rfl⟩:=List.mem_iff_getElem.1 ht
     exact H.out j _ (by have:=Hn.out;omega) (List.getElem?_eq_getElem hj)
    simp [dA,this]
   go_wp2
   go_ret
   exact ⟨by rw [Hr.out];rfl,hK⟩
def iy:List ag->Bool
 | a::b::r=>decide (a.no < b.no)&&iy (b::r)
 | _=>true
theorem vP (ts:List ag):iy ts=true↔∀ j a b,ts[j]?=some a->ts[j+1]?=some b->a.no < b.no:=by
 induction ts with
 | nil=>simp [iy]
 | cons x r ih =>
  cases r with
  | nil=>simp [iy]
  | cons y r =>
   simp only [iy,Bool.and_eq_true,decide_eq_true_eq,ih]
   constructor
   ·rintro ⟨h1,h2⟩ j a b ha hb
    cases j with
    | zero=>simp at ha hb;subst ha hb;exact h1
    | succ j=>exact h2 j a b (by simpa using ha) (by simpa using hb)
   ·intro h
    exact ⟨h 0 x y rfl rfl,fun j a b ha hb=>h (j+1) a b (by simpa using ha) (by simpa using hb)⟩
def di (ts:List ag):Bool:=ts.all aY&&iy ts&&decide (ts.length <= 12)
theorem AU {ts:List ag} {k:Nat} {t:ag} (h:ts[k]?=some t) (ht:aY t=false):di ts=false:=by
 have:ts.all aY=false:=by
  rw [List.all_eq_false]
  exact ⟨t,List.mem_of_getElem? h,by simp [ht]⟩
 simp [di,this]
theorem AV {ts:List ag} {k:Nat} {s t:ag} (hs:ts[k]?=some s) (ht:ts[k+1]?=some t) (h:t.no <= s.no):di ts=false:=by
 have:iy ts=false:=by
  rw [Bool.eq_false_iff]
  intro e
  have:=(vP ts).1 e k s t hs ht
  omega
 simp [di,this]
theorem AW {ts:List ag} (h1:∀ (j:Nat) (t:ag),ts[j]?=some t->aY t=true) (h2:∀ (j:Nat) (a b:ag),ts[j]?=some a->ts[j+1]?=some b->a.no < b.no):di ts=decide (ts.length <= 12):=by
 have e1:ts.all aY=true:=by
  rw [List.all_eq_true]
  intro t ht
  obtain ⟨j,hj,rfl⟩:=List.mem_iff_getElem.1 ht
  exact h1 j _ (List.getElem?_eq_getElem hj)
 simp [di,e1,(vP ts).2 h2]
set_option maxHeartbeats 4000000 in
theorem pr (a:Option Addr) (cap:Nat) (ts:List ag) (w:World) (hl:ts.length <= maxLen) (hs:Ts w a ts) :
  Calls Tryz.prog 28 #[.slice a ts.length cap] w fun e w'=>e = .returned (.bool (di ts)) /\ aa w w':=by
 unfold maxLen at hl
 generalize hn:ts.length=n at hl
 have Hn:Hid (ts.length=n):=hn
 clear hn
 go_enter Tryz.func28,Tryz.ntmps28
 go_wp2
 go_loopw [3] (fun i wr=>∃ k:Nat,k <= n /\ i = .int .i64 k /\ aa w wr /\ Hid (∀ j t,j < k->ts[j]?=some t->aY t=true) /\ Hid (∀ j s t,j+1 < k->ts[j]?=some s->ts[j+1]?=some t->s.no < t.no)) (fun i _=>n - (intOf i).toNat)
 case atStart=>exact ⟨0,Nat.zero_le _,rfl,aa.refl _,fun j t hj=>by omega,fun j s t hj=>by omega⟩
 case round =>
  obtain ⟨k,hk,rfl,hK,H1,H2⟩:=hrel
  by_cases hlt:k < n
  ·obtain ⟨t,ht⟩:=iW (xs:=ts) (k:=k) (by rw [Hn.out];exact hlt)
   have hlt':(k:Int) < (n:Int):=by omega
   have Ht:Hid (ts[k]?=some t):=ht
   cases hb:aY t
   ·obtain ⟨b,off,rfl,r0,r1⟩:=hs.at ht (by omega)
    have Hr:Hid (di ts=false):=AU ht hb
    clear hs ht
    go_wp2
    refine wp_region_held_drew (S:=(fun w'=>aa w w')) (by kernel_rfl) ?_ (fun hHeld => ?_)
    ·exact aa.drew (by assumption)
    refine ad.go [0,1,2,3] ?_
    iterate 4 (refine aJ (h := ?_);try simp only [ar])
    refine ad.nil ?_
    refine aO 4 (h:=fun K hK => ?_)
    go_simp
    first
     | (go_at_call 69;refine (lW t _).mono ?_;rintro e w' ⟨rfl,hkk⟩;rw [hb])
    try go_wp2_with fail
    refine hK.out _ _ ?_ fun hHeld => ?_
    ·exact aa.trans (by assumption) (by assumption)
    clear hK K
    try simp only [ar]
    refine ad.go [5,6] ?_
    iterate 2 (refine aJ (h := ?_);try simp only [ar])
    refine ad.nil ?_
    refine ad.go [7,8,9,10,11,12,13,14,15,16,17,18,19,20,21,22] ?_
    iterate 16 (refine dB (h := ?_);try simp only [ar])
    refine ad.nil ?_
    refine cU 23 (h := ?_)
    try simp only [ar]
    refine wpAnyH_done (by kernel_rfl) ?_ _
    go_wp2
    go_ret
    exact ⟨by rw [Hr.out];rfl,by assumption⟩
   ·rcases Nat.eq_zero_or_pos k with h0 | h0
    ·obtain ⟨b,off,rfl,r0,r1⟩:=hs.at ht (by omega)
     have hz:decide (0 < k)=false:=by simp;omega
     have H0:Hid (k=0):=h0
     clear hs ht h0
     go_wp2
     refine wp_region_held_drew (S:=(fun w'=>aa w w')) (by kernel_rfl) ?_ (fun hHeld => ?_)
     ·exact aa.drew (by assumption)
     refine ad.go [0,1,2,3] ?_
     iterate 4 (refine aJ (h := ?_);try simp only [ar])
     refine ad.nil ?_
     refine aO 4 (h:=fun K hK => ?_)
     go_simp
     first
      | (go_at_call 69;refine (lW t _).mono ?_;rintro e w' ⟨rfl,hkk⟩;rw [hb])
     try go_wp2_with fail
     refine hK.out _ _ ?_ fun hHeld => ?_
     ·exact aa.trans (by assumption) (by assumption)
     clear hK K
     try simp only [ar]
     refine ad.go [5,6,7,8,9] ?_
     iterate 5 (refine aJ (h := ?_);try simp only [ar])
     refine ad.nil ?_
     refine ad.go [10,11,12,13,14,15,16,17,18,19,20,21] ?_
     iterate 12 (refine dB (h := ?_);try simp only [ar])
     refine ad.nil ?_
     refine ad.go [22,23] ?_
     iterate 2 (refine aJ (h := ?_);try simp only [ar])
     refine ad.nil ?_
     refine wpAnyH_done (by kernel_rfl) ?_ _
     go_wp2
     exact ⟨⟨k+1,by omega,by go_num,by assumption,fun j s hj hjs=>by
      obtain rfl:j=k:=by have:=H0.out;omega
      rw [Ht.out] at hjs;cases hjs;exact hb,fun j s u hj=>by have:=H0.out;omega⟩,by simp only [intOf];omega⟩
    ·obtain ⟨m,hm⟩:∃ m,k=m+1:=⟨k - 1,by omega⟩
     obtain ⟨s,hs1⟩:=iW (xs:=ts) (k:=m) (by rw [Hn.out];omega)
     obtain ⟨b,off,rfl,r0,r1⟩:=hs.at ht (by omega)
     obtain ⟨b',off',e',q0,q1⟩:=hs.at hs1 (by omega)
     simp only [Option.some.injEq,Addr.mk.injEq] at e'
     obtain ⟨rfl,rfl,-⟩:=e'
     have Hs:Hid (ts[m]?=some s):=hs1
     have hk1:(m:Int) < (n:Int):=by omega
     have hp:0 < k:=h0
     have hm1:(k:Int) - 1=(m:Int):=by omega
     have hw:IntKind.i64.wrap (m:Int)=(m:Int):=Go.IntWalk.i64_in _ (by omega)
     have Hm:Hid (k=m+1):=hm
     clear hs ht hs1 q1 hm h0
     cases hd:decide (t.no <= s.no)
     ·go_wp2
      refine wp_region_held_drew (S:=(fun w'=>aa w w')) (by kernel_rfl) ?_ (fun hHeld => ?_)
      ·exact aa.drew (by assumption)
      refine ad.go [0,1,2,3] ?_
      iterate 4 (refine aJ (h := ?_);try simp only [ar])
      refine ad.nil ?_
      refine aO 4 (h:=fun K hK => ?_)
      go_simp
      first
       | (go_at_call 69;refine (lW t _).mono ?_;rintro e w' ⟨rfl,hkk⟩;rw [hb])
      try go_wp2_with fail
      refine hK.out _ _ ?_ fun hHeld => ?_
      ·exact aa.trans (by assumption) (by assumption)
      clear hK K
      try simp only [ar]
      refine ad.go [5,6,7,8,9,10,11,12,13,14,15,16,17,18,19,20,21,22,23] ?_
      iterate 19 (refine aJ (h := ?_);try simp only [ar])
      refine ad.nil ?_
      refine wpAnyH_done (by kernel_rfl) ?_ _
      go_wp2
      exact ⟨⟨k+1,by omega,by go_num,by assumption,fun j x hj oL=>by
       by_cases e:j=k
       ·subst e;rw [Ht.out] at oL;cases oL;exact hb
       ·exact H1.out j x (by omega) oL,fun j x y hj hx hy=>by
       have hk:=Hm.out
       by_cases e:j=m
       ·subst e;rw [<- hk] at hy;rw [Hs.out] at hx;rw [Ht.out] at hy;cases hx;cases hy
        have:=of_decide_eq_false hd;omega
       ·exact H2.out j x y (by omega) hx hy⟩,by simp only [intOf];omega⟩
     ·have Hr:Hid (di ts=false):=AV Hs.out (by rw [<- Hm.out];exact Ht.out) (of_decide_eq_true hd)
      go_wp2
      refine wp_region_held_drew (S:=(fun w'=>aa w w')) (by kernel_rfl) ?_ (fun hHeld => ?_)
      ·exact aa.drew (by assumption)
      refine ad.go [0,1,2,3] ?_
      iterate 4 (refine aJ (h := ?_);try simp only [ar])
      refine ad.nil ?_
      refine aO 4 (h:=fun K hK => ?_)
      go_simp
      first
       | (go_at_call 69;refine (lW t _).mono ?_;rintro e w' ⟨rfl,hkk⟩;rw [hb])
      try go_wp2_with fail
      refine hK.out _ _ ?_ fun hHeld => ?_
      ·exact aa.trans (by assumption) (by assumption)
      clear hK K
      try simp only [ar]
      refine ad.go [5,6,7,8,9,10,11,12,13,14,15,16,17,18,19,20,21,22,23] ?_
      iterate 19 (refine aJ (h := ?_);try simp only [ar])
      refine ad.nil ?_
      refine wpAnyH_done (by kernel_rfl) ?_ _
      go_wp2
      go_ret
      exact ⟨by rw [Hr.out];rfl,by assumption⟩
  ·have Hr:Hid (di ts=decide (n <= 12)):=by
    show _=_
    rw [<- Hn.out]
    have hh:∀ (j:Nat) (t:ag),ts[j]?=some t->j < k:=fun j t h=>by
     rcases Nat.lt_or_ge j ts.length with h' | h'
     ·have:=Hn.out;omega
     ·simp [List.getElem?_eq_none h'] at h
    exact AW (fun j t h=>H1.out j t (hh j t h) h) (fun j s t h1 h2=>H2.out j s t (hh _ t h2) h1 h2)
   by_cases h12:n <= 12
   ·have hd:decide ((n:Int) <= 12)=true:=by simp;omega
    go_wp2
    go_ret
    exact ⟨by rw [Hr.out];simp [h12],hK⟩
   ·have hd:decide ((n:Int) <= 12)=false:=by simp;omega
    go_wp2
    go_ret
    exact ⟨by rw [Hr.out];simp [h12],hK⟩
end
abbrev bg (t:ag):Array Value:=#[.int .i64 t.no,.int .i64 t.cls,.int .i64 t.cpu,.int .i64 t.st,.bool t.idle,.int .i64 t.q,.int .i64 t.p,.int .i64 t.left,.int .i64 t.due]
abbrev aT (t:ag):Array Value:=#[.int .i64 t.no,.int .i64 t.cls,.int .i64 t.cpu,.int .i64 t.st,.bool t.idle,.int .i64 t.prio,.int .i64 t.round,.int .i64 t.left,.int .i64 t.seq]
abbrev aV (t:ag):Array Value:=#[.int .i64 t.no,.int .i64 t.cls,.int .i64 t.cpu,.int .i64 t.st,.bool t.idle,.int .i64 t.nice,.int .i64 t.v]
def ag.cm (t:ag):ag:=⟨t.no,t.cls,t.cpu,t.st,t.idle,t.q,t.p,t.left,t.due,0,0,0,0,0⟩
def ag.cj (t:ag):ag:=⟨t.no,t.cls,t.cpu,t.st,t.idle,0,0,t.left,0,t.prio,t.round,t.seq,0,0⟩
def ag.bk (t:ag):ag:=⟨t.no,t.cls,t.cpu,t.st,t.idle,0,0,0,0,0,0,0,t.nice,t.v⟩
theorem pO (t:ag) (w:World) :
  Calls Tryz.prog 43 #[tk t] w fun e w'=>e = .returned (.agg (bg t)) /\ aa w w':=by
 go_enter Tryz.func43,Tryz.ntmps43
 go_wp2_with fail
 have H0:Has w w.heap.size (tc t) ((w.alloc (.cells (tc t) 43)).alloc (.cells (bg ag.zero) 84)):=⟨((aa.refl _).alloc _).alloc _,(ai.new w _ _).alloc _⟩
 have r1:∀ w',Has w w.heap.size (tc t) w'->∀ k,w'.cell? ⟨w.heap.size,k,none⟩=(tc t)[k]?:=fun w' h=>h.box.cells
 refine wp_region_held_drew (S:=(fun w'=>Has w w.heap.size (tc t) w')) (by kernel_rfl) ?_ (fun hHeld => ?_)
 ·exact H0.go (aa.refl _).drew
 refine ad.go [0,2,3,4,5,6,7,8,9,10,11] ?_
 iterate 11 (refine aJ (h := ?_);try simp only [ar])
 refine ad.nil ?_
 refine aO 1 (h:=fun K hK => ?_)
 go_simp
 first
    | (go_at_call 93;refine (vN t _).mono ?_;rintro e w1 ⟨rfl,k1⟩)
 try go_wp2_with fail
 refine hK.out _ _ ?_ fun hHeld => ?_
 ·exact hHeld.go k1
 clear hK K
 try simp only [ar]
 refine cU 12 (h := ?_)
 try simp only [ar]
 refine aO 13 (h:=fun K hK => ?_)
 have HB:=(ai.new (w.alloc (.cells (tc t) 43)) (bg ag.zero) 84).keeps ((aa.refl _).drew.trans k1);simp only [World.size_alloc] at HB;have HD:Hid (ai w1 (w.heap.size+1) (bg ag.zero)):=HB;obtain ⟨_,q1,q2⟩:=HB
 go_simp
 try go_wp2_with fail
 refine hK.out _ _ ?_ fun hHeld => ?_
 ·exact hHeld.put (r:=w.heap.size+1) (by omega) (by omega) 0 (bg t).toList
 clear hK K
 try simp only [ar]
 refine wpAnyH_done (by kernel_rfl) ?_ _
 go_wp2
 have D:=HD.out.putC (bg t).toList rfl
 have K:=hHeld.keeps
 change bodyPost _ _ _ _ _ (putC w1 (w.heap.size+1) 0 (bg t).toList)
 change aa w (putC w1 (w.heap.size+1) 0 (bg t).toList) at K
 generalize putC w1 (w.heap.size+1) 0 (bg t).toList=X at D K ⊢
 exact bodyPost_ret (v := .agg (bg t)) (by simp [results,Tryz.results43,go_sem,D.cells]) rfl ⟨rfl,K⟩
theorem qS (t:ag) (w:World) :
  Calls Tryz.prog 116 #[tk t] w fun e w'=>e = .returned (.agg (aT t)) /\ aa w w':=by
 go_enter Tryz.func116,Tryz.ntmps116
 go_wp2_with fail
 have H0:Has w w.heap.size (tc t) ((w.alloc (.cells (tc t) 43)).alloc (.cells (aT ag.zero) 171)):=⟨((aa.refl _).alloc _).alloc _,(ai.new w _ _).alloc _⟩
 have r1:∀ w',Has w w.heap.size (tc t) w'->∀ k,w'.cell? ⟨w.heap.size,k,none⟩=(tc t)[k]?:=fun w' h=>h.box.cells
 refine wp_region_held_drew (S:=(fun w'=>Has w w.heap.size (tc t) w')) (by kernel_rfl) ?_ (fun hHeld => ?_)
 ·exact H0.go (aa.refl _).drew
 refine ad.go [0,2,3,4,5,6,7,8,9,10] ?_
 iterate 10 (refine aJ (h := ?_);try simp only [ar])
 refine ad.nil ?_
 refine aO 1 (h:=fun K hK => ?_)
 go_simp
 first
    | (go_at_call 93;refine (vN t _).mono ?_;rintro e w1 ⟨rfl,k1⟩)
 try go_wp2_with fail
 refine hK.out _ _ ?_ fun hHeld => ?_
 ·exact hHeld.go k1
 clear hK K
 try simp only [ar]
 refine cU 11 (h := ?_)
 try simp only [ar]
 refine aO 12 (h:=fun K hK => ?_)
 have HB:=(ai.new (w.alloc (.cells (tc t) 43)) (aT ag.zero) 171).keeps ((aa.refl _).drew.trans k1);simp only [World.size_alloc] at HB;have HD:Hid (ai w1 (w.heap.size+1) (aT ag.zero)):=HB;obtain ⟨_,q1,q2⟩:=HB
 go_simp
 try go_wp2_with fail
 refine hK.out _ _ ?_ fun hHeld => ?_
 ·exact hHeld.put (r:=w.heap.size+1) (by omega) (by omega) 0 (aT t).toList
 clear hK K
 try simp only [ar]
 refine wpAnyH_done (by kernel_rfl) ?_ _
 go_wp2
 have D:=HD.out.putC (aT t).toList rfl
 have K:=hHeld.keeps
 change bodyPost _ _ _ _ _ (putC w1 (w.heap.size+1) 0 (aT t).toList)
 change aa w (putC w1 (w.heap.size+1) 0 (aT t).toList) at K
 generalize putC w1 (w.heap.size+1) 0 (aT t).toList=X at D K ⊢
 exact bodyPost_ret (v := .agg (aT t)) (by simp [results,Tryz.results116,go_sem,D.cells]) rfl ⟨rfl,K⟩
theorem tw (t:ag) (w:World) :
  Calls Tryz.prog 119 #[tk t] w fun e w'=>e = .returned (.agg (aV t)) /\ aa w w':=by
 go_enter Tryz.func119,Tryz.ntmps119
 go_wp2_with fail
 have H0:Has w w.heap.size (tc t) ((w.alloc (.cells (tc t) 43)).alloc (.cells (aV ag.zero) 176)):=⟨((aa.refl _).alloc _).alloc _,(ai.new w _ _).alloc _⟩
 have r1:∀ w',Has w w.heap.size (tc t) w'->∀ k,w'.cell? ⟨w.heap.size,k,none⟩=(tc t)[k]?:=fun w' h=>h.box.cells
 refine wp_region_held_drew (S:=(fun w'=>Has w w.heap.size (tc t) w')) (by kernel_rfl) ?_ (fun hHeld => ?_)
 ·exact H0.go (aa.refl _).drew
 refine ad.go [0,2,3,4,5,6] ?_
 iterate 6 (refine aJ (h := ?_);try simp only [ar])
 refine ad.nil ?_
 refine aO 1 (h:=fun K hK => ?_)
 go_simp
 first
    | (go_at_call 93;refine (vN t _).mono ?_;rintro e w1 ⟨rfl,k1⟩)
 try go_wp2_with fail
 refine hK.out _ _ ?_ fun hHeld => ?_
 ·exact hHeld.go k1
 clear hK K
 try simp only [ar]
 refine cU 7 (h := ?_)
 try simp only [ar]
 refine aO 8 (h:=fun K hK => ?_)
 have HB:=(ai.new (w.alloc (.cells (tc t) 43)) (aV ag.zero) 176).keeps ((aa.refl _).drew.trans k1);simp only [World.size_alloc] at HB;have HD:Hid (ai w1 (w.heap.size+1) (aV ag.zero)):=HB;obtain ⟨_,q1,q2⟩:=HB
 go_simp
 try go_wp2_with fail
 refine hK.out _ _ ?_ fun hHeld => ?_
 ·exact hHeld.put (r:=w.heap.size+1) (by omega) (by omega) 0 (aV t).toList
 clear hK K
 try simp only [ar]
 refine wpAnyH_done (by kernel_rfl) ?_ _
 go_wp2
 have D:=HD.out.putC (aV t).toList rfl
 have K:=hHeld.keeps
 change bodyPost _ _ _ _ _ (putC w1 (w.heap.size+1) 0 (aV t).toList)
 change aa w (putC w1 (w.heap.size+1) 0 (aV t).toList) at K
 generalize putC w1 (w.heap.size+1) 0 (aV t).toList=X at D K ⊢
 exact bodyPost_ret (v := .agg (aV t)) (by simp [results,Tryz.results119,go_sem,D.cells]) rfl ⟨rfl,K⟩
end Go.Proofs.YteagpjlgjfaclaaGreatDoor
