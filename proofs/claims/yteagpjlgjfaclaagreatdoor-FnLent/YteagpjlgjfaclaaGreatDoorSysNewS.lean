/-
  Ticks: who is awake on a processor.
  Fair shares, the program's side: spending, waking, moving.
  Drawn tasks: the contracts of the model's l3DrawList and Dr
  What a right system is, limb by limb; it is small.
  What is right about a system, as the program's seven invari
  The judges as plain functions; of a right system two of the
  The system is marked, and looked at again: as a whole.
  Ticks, as plain functions: what they leave as it was.
  Calls: a system of one's own in a variable, and a cell for
  The system: a new one.
-/
import Derived.Test.YteagpjlgjfaclaaGreatDoorSysShares
import Derived.Test.YteagpjlgjfaclaaGreatDoorImplTaskOk
import Derived.Test.YteagpjlgjfaclaaGreatDoorTaskSpec
import Derived.Test.YteagpjlgjfaclaaGreatDoorLoneLeaves
import Derived.Test.YteagpjlgjfaclaaGreatDoorDrawTask2
import Derived.Test.YteagpjlgjfaclaaGreatDoorCur
import Derived.Test.YteagpjlgjfaclaaGreatDoorTaskPut
import Derived.Test.YteagpjlgjfaclaaGreatDoorSysCopy
import Derived.Test.YteagpjlgjfaclaaGreatDoorPickPure
import Derived.Test.YteagpjlgjfaclaaGreatDoorLockSpec2
import Derived.RegionTactic
import Derived.BigRegion
namespace Go.Proofs.YteagpjlgjfaclaaGreatDoor
set_option maxRecDepth 100000
open Go.RowKit
section
attribute [local go_sem] aa.refl aa.alloc aa.drew aa.drewN
theorem xu {α:Type} (p:α->Bool) {xs:List α} {k:Nat} {x:α} (h:xs[k]?=some x):(xs.take (k+1)).filter p=(xs.take k).filter p++(if p x then [x] else []):=by
 rw [jT h,List.filter_append]
 congr 1
 cases e:p x <;> simp [e]
set_option maxHeartbeats 4000000 in
theorem N6 {w:World} {v:Sv} {s:Sy} (h:aA w v s) (cpu:Int) :
  Calls Tryz.prog 179 #[.agg (ae s v),.int .i64 cpu] w fun e w'=>∃ u,e = .returned u /\ Own 43 14 tc w' w.heap.size u (nD s cpu) /\ aa w w':=by
 have hm1:v.t.n <= 2000000:=by have:=h.size;have:=h.lay.tl;unfold bV at *;omega
 have Hn:Hid (s.tasks.length=v.t.n):=h.lay.tl
 have kW:=cZ w (.cells (ae s v) 30)
 have hb:=dE w (ae s v) 30
 have hs1:Hid (Ts (w.alloc (.cells (ae s v) 30)) v.t.a s.tasks):=h.lay.t.keeps kW
 clear h
 have HE:Hid (nD s cpu=s.tasks.filter (kr cpu)):=rfl
 go_enter Tryz.func179,Tryz.ntmps179
 go_wp2
 have O0:Hid (Own 43 14 tc ((w.alloc (.cells (ae s v) 30)).alloc (.cells #[] 43)) (w.alloc (.cells (ae s v) 30)).heap.size (.slice (some ⟨(w.alloc (.cells (ae s v) 30)).heap.size,0,none⟩) 0 0) []):=Own.new 43 14 tc _ (Nat.le_refl _)
 have hz:(w.alloc (.cells (ae s v) 30)).heap.size=w.heap.size+1:=by simp
 rw [hz] at O0
 have HW:Hid (w.heap.size <= (w.alloc (.cells (ae s v) 30)).heap.size):=by show _ <= _;omega
 have Hz:Hid ((w.alloc (.cells (ae s v) 30)).heap.size=w.heap.size+1):=hz
 clear hz
 generalize w.alloc (.cells (ae s v) 30)=W at *
 go_loopw [5,6] (fun o i wr=>∃ (k:Nat) (xs:List ag),k <= v.t.n /\ i = .int .i64 k /\ xs.length <= k /\ Hid (xs=(s.tasks.take k).filter (kr cpu)) /\ Hid (Own 43 14 tc wr W.heap.size o xs) /\ aa W wr) (fun _ i _=>v.t.n - (intOf i).toNat)
 case atStart=>exact ⟨0,[],Nat.zero_le _,rfl,by simp,by show _=_;simp,by show Own _ _ _ _ _ _ _;rw [Hz.out];exact O0.out,(aa.refl _).alloc _⟩
 case round =>
  obtain ⟨k,xs,hk,rfl,hxl,HX,O,hK⟩:=hrel
  clear O0
  by_cases hlt:k < v.t.n
  ·obtain ⟨t,ht⟩:=bW (xs:=s.tasks) (k:=k) (by rw [Hn.out];exact hlt)
   obtain ⟨b,off,ha,r0,r1⟩:=hs1.out.at ht (by omega)
   have hlt':(k:Int) < (v.t.n:Int):=by omega
   have cW:=xu (kr cpu) ht
   rw [<- HX.out] at cW
   have HS:Hid ((s.tasks.take (k+1)).filter (kr cpu)=xs++(if kr cpu t then [t] else [])):=cW
   clear ht cW
   cases c1:(t.cpu==cpu)
   ·have Hx:Hid (xs=(s.tasks.take (k+1)).filter (kr cpu)):=by show _=_;rw [HS.out];simp [kr,c1]
    go_wp2
    exact ⟨⟨k+1,xs,by omega,by go_num,by omega,Hx,O,hK⟩,by simp only [intOf];omega⟩
   cases c2:t.idle
   rotate_left
   ·have Hx:Hid (xs=(s.tasks.take (k+1)).filter (kr cpu)):=by show _=_;rw [HS.out];simp [kr,c1,c2]
    go_wp2
    exact ⟨⟨k+1,xs,by omega,by go_num,by omega,Hx,O,hK⟩,by simp only [intOf];omega⟩
   have Hx:Hid (xs++[t]=(s.tasks.take (k+1)).filter (kr cpu)):=by show _=_;rw [HS.out];simp [kr,c1,c2]
   obtain ⟨u,rfl⟩:∃ u:ag,t={ u with idle:=false }:=⟨t,by rw [<- c2]⟩
   clear HS c2
   go_wp2_with (at_builtin;(refine iE rfl _ _ 24 rfl W 43 (.agg (tc ag.zero)) 14 112 tc Tryz.underlying24 (by kernel_rfl) rfl (by decide) dC ja _ xs rfl wr O.out hK ((aa.refl _).alloc _) { u with idle:=false } _ 1 (ai.new _ _ _) rfl ?c1 ?c2 ?_))
   case c1=>unfold maxLen;omega
   case c2=>omega
   intro v' w5 cP k5 _
   have HO:Hid (Own 43 14 tc w5 W.heap.size v' (xs++[{ u with idle:=false }])):=cP
   clear cP O
   go_wp2
   exact ⟨⟨k+1,xs++[{ u with idle:=false }],by omega,by go_num,by simp;omega,Hx,HO,k5⟩,by simp only [intOf];omega⟩
  ·have hlt':decide ((k:Int) < (v.t.n:Int))=false:=by simp;omega
   have HP:Hid (nD s cpu=xs):=by
    have h1:=HX.out
    rw [List.take_of_length_le (by have:=Hn.out;omega)] at h1
    show _=_
    rw [HE.out,h1]
   clear HX
   go_wp2
   go_ret
   exact ⟨_,rfl,by rw [HP.out];exact O.out.base HW.out,kW.trans hK⟩
theorem vA (t:ag) (w:World) :
  Calls Tryz.prog 194 #[tk t] w fun e w'=>e = .returned (.bool (dY t)) /\ aa w w':=by
 cases c1:(t.cls==3)
 ·have Hr:Hid (dY t=false):=by show _=_;simp [dY,c1]
  go_enter Tryz.func194,Tryz.ntmps194
  go_wp2
  go_ret
  exact ⟨by rw [Hr.out];rfl,(aa.refl _).alloc _⟩
 ·have Hr:Hid (dY t=aY t):=by show _=_;simp [dY,c1]
  go_enter Tryz.func194,Tryz.ntmps194
  go_wp2_with (go_at_call 74;refine (ml t _).mono ?_;rintro e w1 ⟨rfl,k1⟩)
  go_ret
  exact ⟨by rw [Hr.out];rfl,((aa.refl w).alloc _).trans k1⟩
structure ke (w:World) (b:Nat) (C:Array Value) (b':Nat) (C':Array Value) (w':World):Prop where
 keeps:aa w w'
 box:ai w' b C
 sk:ai w' b' C'
theorem ke.go {w:World} {b b':Nat} {C C':Array Value} {w1 w2:World} (h:ke w b C b' C' w1) (k:aa w1 w2):ke w b C b' C' w2:=⟨h.keeps.trans k,h.box.keeps k,h.sk.keeps k⟩
theorem ke.put {w:World} {b b':Nat} {C C':Array Value} {w1:World} (h:ke w b C b' C' w1) {r:Nat} (hr:w.heap.size <= r) (hb:r≠b) (hb':r≠b') (k:Nat) (L:List Value):ke w b C b' C' (putC w1 r k L):=⟨aa.putC hr L k h.keeps,ai.aU hb L k h.box,ai.aU hb' L k h.sk⟩
end
theorem Own.oY {α:Type} {e:TypeId} {sz:Nat} {c:α->Array Value} {w:World} {base:Nat} {v:Value} {xs:List α} (h:Own e sz c w base v xs) {b:Nat} (hb:b < base) (o:Nat) (u:Value):Own e sz c (w.setCell ⟨b,o,none⟩ u) base v xs :=
 h.cE ((ab.refl b w).setCell o u) hb
theorem Own.im {α:Type} {e:TypeId} {sz:Nat} {c:α->Array Value} {base:Nat} {v:Value} {xs:List α} {b:Nat} (hb:b < base):∀ (L:List Value) {w:World} (k:Nat),Own e sz c w base v xs->Own e sz c (putC w b k L) base v xs
 | [],_,_,h=>h
 | u::r,_,k,h=>Own.im hb r (k+1) (h.oY hb k u)
theorem N7 (t:ag) (ts:List ag):0 < (ins t ts).length:=by rw [qY];omega
structure DL (w wr:World) (g:Nat) (v:Value) (xs:List ag):Prop where
 own:dH wr w.heap.size v xs
 uL:∃ b cp,v = .slice (some ⟨b,0,none⟩) xs.length cp
 cur:bj wr g
 kb:ab g w wr
theorem DL.but {w wr wr':World} {g:Nat} {v:Value} {xs:List ag} (h:DL w wr g v xs) (hg:g < w.heap.size) (k:ab g wr wr') (hc:bj wr' g):DL w wr' g v xs :=
 ⟨h.own.cE k hg,h.uL,hc,h.kb.trans k⟩
theorem DL.keeps {w wr wr':World} {g:Nat} {v:Value} {xs:List ag} (h:DL w wr g v xs) (hg:g < w.heap.size) (k:aa wr wr'):DL w wr' g v xs:=h.but hg (.of k) (h.cur.keeps k)
set_option maxHeartbeats 8000000 in
theorem Ft (g:Nat) (w:World) (hc:bj w g) :
  Calls Tryz.prog 51 #[.pointer (some ⟨g,0,none⟩)] w fun e w'=>∃ (v:Value) (xs:List ag),e = .returned v /\ DL w w' g v xs /\ xs.length <= 13:=by
 have hgl:=hc.lt
 go_enter Tryz.func51,Tryz.ntmps51
 go_wp2_with fail
 have D0:DL w (w.alloc (.cells #[] 43)) g (.slice (some ⟨w.heap.size,0,none⟩) 0 0) [] :=
  ⟨Own.new 43 14 tc w (Nat.le_refl _),⟨_,_,rfl⟩,hc.keeps ((aa.refl w).alloc _),(ab.refl g w).alloc _⟩
 clear hc
 generalize w.alloc (.cells #[] 43)=W at *
 generalize hv0:Value.slice (some ⟨w.heap.size,0,none⟩) 0 0=v0 at *
 clear hv0
 refine (cF g _ _ D0.cur (by omega) (by omega)).mono ?_
 rintro e w1 ⟨m,rfl,hm0,hm1,hc1,k1⟩
 have D:=D0.but hgl k1 hc1
 clear D0 k1 hc1
 go_wp2_with fail
 refine (mZ g _ _ D.cur (by omega) (by omega)).mono ?_
 rintro e w2 ⟨b,rfl,hc2,k2⟩
 have D:=D.but hgl k2 hc2
 clear k2 hc2
 go_upto_if 12 with fail
 go_cut [4] (fun c wx=>∃ n:Nat,n <= 30 /\ c = .int .i64 n /\ wx=w2)
 case first =>
  cases b
  ·go_wp2_with fail
   go_meet
   exact ⟨m.toNat,by omega,by rw [Int.toNat_of_nonneg hm0],rfl⟩
  ·go_wp2_with fail
   go_meet
   exact ⟨30,by omega,rfl,rfl⟩
 case rest =>
 obtain ⟨n,hn,rfl,rfl⟩:=hcut
 go_wp2
 go_loopw [3,5] (fun v i wr=>∃ (k:Nat) (xs:List ag),k <= n /\ i = .int .i64 k /\ DL w wr g v xs /\ xs.length <= 12) (fun _ i _=>n - (intOf i).toNat)
 case atStart=>exact ⟨0,[],Nat.zero_le _,rfl,D,by simp⟩
 case round =>
  obtain ⟨k,xs,hk,rfl,D,xv⟩:=hrel
  by_cases hlt:k < n
  ·have hlt':(k:Int) < (n:Int):=by omega
   obtain ⟨bv,cp,rfl⟩:=D.uL
   go_wp2_with fail
   refine (zX g _ D.cur).mono ?_
   rintro e w3 ⟨t,rfl,hc3,k3⟩
   have D:=D.but hgl k3 hc3
   clear k3 hc3
   have hl:cH 14 tc w3 (some ⟨bv,0,none⟩) xs:=by
    obtain ⟨a,c,e,l,-,-⟩:=D.own.slice dC
    simp only [Value.slice.injEq] at e
    obtain ⟨rfl,-,-⟩:=e
    exact l
   go_wp2_with fail
   refine (zh bv 0 cp xs t w3 (by unfold maxLen;omega) hl).mono ?_
   rintro e w4 ⟨v4,rfl,lE,k4⟩
   have D4:=D.keeps hgl k4
   have hsz:=D.kb.size
   cases hb:dP xs t
   ·have HD:Hid (DL w w4 g (.slice (some ⟨bv,0,none⟩) xs.length cp) xs):=D4
    clear D D4 lE k4 hl
    go_wp2
    exact ⟨⟨k+1,xs,by omega,by go_num,HD.out,xv⟩,by simp only [intOf];omega⟩
   ·have e:cg xs t=ins t xs:=by
     simp only [dP,Bool.and_eq_true] at hb
     simp [cg,hb.1,hb.2]
    rw [e] at lE
    have hl12:(ins t xs).length <= 12:=by
     simp only [dP,Bool.and_eq_true] at hb
     exact xw hb.2
    obtain ⟨b5,c5,rfl,-,-,-⟩:=lE.some dC (N7 t xs)
    have HD:Hid (DL w w4 g (.slice (some ⟨b5,0,none⟩) (ins t xs).length c5) (ins t xs)):=⟨lE.base hsz,⟨_,_,rfl⟩,D4.cur,D4.kb⟩
    clear D D4 lE k4 hl e
    go_wp2
    exact ⟨⟨k+1,_,by omega,by go_num,HD.out,hl12⟩,by simp only [intOf];omega⟩
  ·go_wp2_with fail
   refine (mZ g _ _ D.cur (by omega) (by omega)).mono ?_
   rintro e w5 ⟨b,rfl,fD,k5⟩
   have D:=D.but hgl k5 fD
   clear k5 fD
   cases b
   ·have HD:Hid (DL w w5 g _ xs):=D
    clear D
    go_wp2
    go_ret
    exact ⟨_,xs,rfl,HD.out,by omega⟩
   ·go_wp2_with fail
    refine (uN g _ D.cur).mono ?_
    rintro e w6 ⟨t,rfl,hc6,k6⟩
    have D:=D.but hgl k6 hc6
    clear k6 hc6
    have hsz:=D.kb.size
    have D7:=D.keeps hgl ((aa.refl w6).alloc (.cells (tc t) 43))
    have sl:=D7.own
    have HD:Hid (DL w (w6.alloc (.cells (tc t) 43)) g _ xs):=D7
    clear D D7
    go_wp2_with (at_builtin;(refine GM rfl _ _ 24 rfl w.heap.size 43 (tk ag.zero) 14 112 tc Tryz.underlying24 (by kernel_rfl) rfl (by decide) dC ja _ xs rfl sl ?c0 t _ 1 (ai.new _ _ _) rfl ?c1 ?c2 ?_))
    case c0=>simp;omega
    case c1=>unfold maxLen;omega
    case c2=>omega
    intro v8 w8 oZ xx xy
    obtain ⟨b8,c8,e8,-,-,-⟩:=oZ.some dC (by simp)
    have N9:Hid (DL w w8 g v8 (xs++[t])):=⟨oZ,⟨_,_,e8⟩,HD.out.cur.grown xx (fun k hk=>by have:=xy k hk;omega),HD.out.kb.grown xx xy⟩
    clear sl oZ xx xy HD e8
    go_wp2
    go_ret
    exact ⟨_,_,rfl,N9.out,by simp;omega⟩
structure cV (s:Sy):Prop where
 now:0 <= s.now /\ s.now <= 100000
 az:1 <= s.az /\ s.az <= 4
 tasks:di s.tasks=true
 af:gy s=true
 ah:jI s=true
 ax:(s.ax.length:Int)=s.az
 seq:0 <= s.seq /\ s.seq <= 1000000
 missed:0 <= s.missed /\ s.missed <= 100000
 trace:s.trace.length <= 400
 on:∀ t∈s.tasks,t.cpu < s.az
 cpu:∀ c:Nat,(c:Int) < s.az->gu s c=true
theorem kp {s:Sy}:bf s=true↔cV s:=by
 unfold bf kv
 simp only [Bool.and_eq_true,dq,List.all_eq_true,decide_eq_true_eq,beq_iff_eq,List.mem_range]
 constructor
 ·rintro ⟨⟨h1,h2,h3,h4,h5,h6,h7,h8,h9⟩,h10,h11⟩
  exact ⟨h1,h2,h3,h4,h5,h6,h7,h8,h9,h10,fun c hc=>h11 c (by omega)⟩
 ·intro h
  exact ⟨⟨h.now,h.az,h.tasks,h.af,h.ah,h.ax,h.seq,h.missed,h.trace⟩,h.on,fun c hc=>h.cpu c (by omega)⟩
theorem DF {t:ag} (h:aY t=true):0 <= t.cpu /\ t.cpu <= 3:=by
 unfold aY at h
 simp only [Bool.and_eq_true,dq] at h
 exact h.1.1.1.2
theorem cV.ld {s:Sy} (h:cV s):qg s:=by
 intro t ht
 obtain ⟨i,hi⟩:=List.mem_iff_getElem?.1 ht
 have:=DF (p4 h.tasks hi)
 have:=h.on t ht
 have:=h.ax
 omega
theorem cV.few {s:Sy} (h:cV s):s.tasks.length <= 12 /\ bT s.af <= 1005 /\ s.ah.length <= 12 /\ s.ax.length <= 4:=by
 have h1:=xw h.tasks
 have h2:=h.af
 unfold gy at h2
 simp only [Bool.and_eq_true,beq_iff_eq] at h2
 have h3:=(lK.1 h2.2.1).few
 have h4:=h.ah
 unfold jI at h4
 simp only [Bool.and_eq_true,decide_eq_true_eq] at h4
 have h5:=h.ax
 have h6:=h.az
 refine ⟨h1,?_,h4.2,by omega⟩
 unfold bT
 omega
theorem cV.small {s:Sy} (h:cV s):bV s <= 1500:=by
 obtain ⟨h1,h2,h3,h4⟩:=h.few
 have:=h.trace
 unfold bV
 omega
def iO (s:Sy) (cpu:Int):Bool:=decide (0 <= cpu)&&decide (cpu < s.az)
def jB (s:Sy) (i:Nat) (l:Lk):Bool:=l.waits.all (fun x=>eS s i x)&&(l.owner==0||eS s i l.owner)
def inv0 (s:Sy):Bool:=aF s.now 0 100000&&aF s.az 1 4
def inv1 (s:Sy):Bool:=s.tasks.all (fun t=>iO s t.cpu)&&di s.tasks
def inv2 (s:Sy):Bool:=s.af.length==5&&(dm s.af&&(List.range s.af.length).all (fun i=>jB s i (s.af.getD i ⟨0,[]⟩)))
def nC (s:Sy) (g:Gh):Bool:=iO s g.cpu&&(okB g.q g.p&&aF g.fU 0 100040)
def fT (s:Sy):Bool:=s.ah.all (nC s)&&decide (s.ah.length <= 12)
def gU (s:Sy):Bool:=(List.range s.az.toNat).all (fun c=>jY (fe s (c:Int)))
def gV (s:Sy):Bool:=s.ax.all (fun f=>aF f 0 100000000)&&((s.ax.length:Int)==s.az)
def gF (s:Sy):Bool:=aF s.seq 0 1000000&&(aF s.missed 0 100000&&decide (s.trace.length <= 400))
def rF (s:Sy):Bool:=inv0 s&&(inv1 s&&(inv2 s&&(fT s&&(gU s&&(gV s&&gF s)))))
theorem DG (s:Sy) (c:Int):iO s c=aF c 0 (s.az - 1):=by
 rw [Bool.eq_iff_iff]
 unfold iO
 simp only [Bool.and_eq_true,decide_eq_true_eq,dq]
 omega
theorem Oa (s:Sy):fT s=jI s:=by
 have:nC s=ku s.az:=by
  funext g
  unfold nC ku
  rw [DG]
 unfold fT jI
 rw [this]
theorem ub {s:Sy} {i:Nat} {l:Lk} {x:Int} (hl:s.af[i]?=some l):eS s i x=true↔bF s.tasks x=true /\ (l.owner=0∨(bF s.tasks l.owner=true /\ (de s.tasks l.owner).cpu=(de s.tasks x).cpu)):=by
 have hlt:=da hl
 have h1:aF (i:Int) 0 ((s.af.length:Int) - 1)=true:=dq.2 (by omega)
 unfold eS
 rw [h1,Int.toNat_natCast,gO hl]
 simp only [Bool.true_and,Bool.and_eq_true,Bool.or_eq_true,beq_iff_eq]
theorem Ob {s:Sy}:inv2 s=true↔gy s=true:=by
 unfold inv2 gy
 simp only [Bool.and_eq_true]
 constructor
 ·rintro ⟨h1,h2,h3⟩
  refine ⟨h1,h2,?_⟩
  rw [List.all_eq_true] at h3 ⊢
  intro l hm
  obtain ⟨i,hi⟩:=List.mem_iff_getElem?.1 hm
  have hlt:=da hi
  have h:=h3 i (List.mem_range.2 hlt)
  rw [mN hi] at h
  unfold jB at h
  simp only [Bool.and_eq_true,List.all_eq_true,Bool.or_eq_true,beq_iff_eq] at h
  unfold iC
  simp only [Bool.or_eq_true,beq_iff_eq,Bool.and_eq_true,List.all_eq_true]
  by_cases h0:l.owner=0
  ·exact .inl h0
  ·refine .inr ⟨?_,fun x hx => ?_⟩
   ·rcases h.2 with h4 | h4
    ·exact absurd h4 h0
    ·exact ((ub hi).1 h4).1
   ·obtain ⟨h5,h6⟩:=(ub hi).1 (h.1 x hx)
    rcases h6 with h6 | h6
    ·exact absurd h6 h0
    ·unfold jo
     simp only [Bool.and_eq_true,beq_iff_eq]
     exact ⟨h5,h6.2.symm⟩
 ·rintro ⟨h1,h2,h3⟩
  refine ⟨h1,h2,?_⟩
  rw [List.all_eq_true] at h3 ⊢
  intro i hm
  have hlt:=List.mem_range.1 hm
  obtain ⟨l,hi⟩:=bW hlt
  rw [mN hi]
  have h:=h3 l (List.mem_iff_getElem?.2 ⟨i,hi⟩)
  unfold iC at h
  simp only [Bool.or_eq_true,beq_iff_eq,Bool.and_eq_true,List.all_eq_true] at h
  unfold jB
  simp only [Bool.and_eq_true,List.all_eq_true,Bool.or_eq_true,beq_iff_eq]
  rcases h with h | ⟨h4,h5⟩
  ·have hw:=(lK.1 h2).free i l hi h
   exact ⟨fun x hx=>by rw [hw] at hx;simp at hx,.inl h⟩
  ·refine ⟨fun x hx => ?_,.inr ((ub hi).2 ⟨h4,.inr ⟨h4,rfl⟩⟩)⟩
   have h6:=h5 x hx
   unfold jo at h6
   simp only [Bool.and_eq_true,beq_iff_eq] at h6
   exact (ub hi).2 ⟨h6.1,.inr ⟨h4,h6.2.symm⟩⟩
theorem Lg (s:Sy):rF s=bf s:=by
 rw [Bool.eq_iff_iff,kp]
 unfold rF
 rw [Oa]
 simp only [Bool.and_eq_true,Ob]
 unfold inv0 inv1 gU gV gF
 simp only [Bool.and_eq_true,dq,List.all_eq_true,decide_eq_true_eq,beq_iff_eq,List.mem_range,DG]
 constructor
 ·rintro ⟨⟨h1,h2⟩,⟨h3,h4⟩,h5,h6,h7,⟨h8,h9⟩,h10,h11,h12⟩
  refine ⟨h1,h2,h4,h5,h6,h9,h10,h11,h12,fun t ht=>by have:=h3 t ht;omega,fun c hc => ?_⟩
  unfold gu
  obtain ⟨x,hx⟩:=bW (xs:=s.ax) (k:=c) (by omega)
  rw [mN hx]
  simp only [Bool.and_eq_true,dq]
  exact ⟨h8 x (List.mem_iff_getElem?.2 ⟨c,hx⟩),h7 c (by omega)⟩
 ·intro h
  refine ⟨⟨h.now,h.az⟩,⟨fun t ht => ?_,h.tasks⟩,h.af,h.ah,fun c hc => ?_,⟨fun x hx => ?_,h.ax⟩,h.seq,h.missed,h.trace⟩
  ·obtain ⟨i,hi⟩:=List.mem_iff_getElem?.1 ht
   have:=DF (p4 h.tasks hi)
   have:=h.on t ht
   omega
  ·have:=h.cpu c (by omega)
   unfold gu at this
   simp only [Bool.and_eq_true] at this
   exact this.2
  ·obtain ⟨c,hc⟩:=List.mem_iff_getElem?.1 hx
   have hlt:=da hc
   have:=h.cpu c (by have:=h.ax;omega)
   unfold gu at this
   rw [mN hc] at this
   simp only [Bool.and_eq_true,dq] at this
   exact this.1
theorem Oc (s:Sy) (cpu:Int):(gw s cpu).az=s.az /\ (gw s cpu).now=s.now /\ bV (gw s cpu)=bV s+1 /\ s.seq <= (gw s cpu).seq /\ (gw s cpu).seq <= s.seq+1:=by
 unfold gw
 split
 ·refine ⟨rfl,rfl,?_,Int.le_refl _,by show s.seq <= s.seq+1;omega⟩
  simp only [bV,List.length_append,List.length_singleton]
  omega
 ·unfold tu
  refine ⟨rfl,rfl,?_,?_,?_⟩
  ·simp only [bV,List.length_append,List.length_singleton,List.length_set]
   omega
  ·dsimp only;split <;> omega
  ·dsimp only;split <;> omega
theorem qX (s:Sy):∀ k:Nat,(eL s k).az=s.az /\ (eL s k).now=s.now /\ bV (eL s k)=bV s+k /\ s.seq <= (eL s k).seq /\ (eL s k).seq <= s.seq+k
 | 0=>⟨rfl,rfl,rfl,Int.le_refl _,by simp [eL]⟩
 | k+1=>by
  obtain ⟨h1,h2,h3,h4,h5⟩:=qX s k
  obtain ⟨g1,g2,g3,g4,g5⟩:=Oc (eL s k) k
  have e:eL s (k+1)=gw (eL s k) k:=rfl
  rw [e]
  exact ⟨g1.trans h1,g2.trans h2,by omega,by omega,by omega⟩
theorem DI (s:Sy):bV (fZ s) <= bV s:=by
 have:=List.length_filter_le (fun g=>decide (s.now < g.fU)) s.ah
 simp only [fZ,bV,List.length_map]
 omega
theorem Od (now:Int) (t:ag):(js now t).cpu=t.cpu:=by
 unfold js j5
 split
 ·split <;> rfl
 ·rfl
theorem Oe {s:Sy} (h:qg s):qg (fZ s):=by
 intro t ht
 simp only [fZ,List.mem_map] at ht
 obtain ⟨u,hu,rfl⟩:=ht
 rw [Od]
 exact h u hu
theorem DJ (s:Sy):bV (fP s)=bV s:=by simp [fP,bV]
theorem DM (s:Sy):bV (gS s)=bV s:=by simp [gS,bV]
theorem aP.af {w0 w:World} {lo ob:Nat} {v0 v:Sv} {cf vs:List Lv} {s:Sy} {w1:World} (h:aP w0 lo v0 cf w ob v vs s) (k:aa w w1) {x:Rw} {vs':List Lv} {ls:List Lk} (L:Mine w1 w.heap.size w1.heap.size x.val vs' ls) :
  aP w0 lo v0 cf (w1.setCell ⟨ob,3,none⟩ x.val) ob { v with l:=x } vs' { s with af:=ls }:=by
 have h1:=h.keeps k
 have fj:=h.var.box.lt
 have hlo:lo <= w.heap.size:=Nat.le_trans h.var.gI (Nat.le_of_lt fj)
 have f:∀ b,nS x.val vs' b->w.heap.size <= b:=fun b hb=>(L.aG hb).1
 have S2:ay w1 lo { v with l:=x } vs' { s with af:=ls }:=h.var.own.cJ (fun b hb _=>Below.block k b hb) x ls (L.widen hlo (Nat.le_refl _)) fun b hb => .inr (f b hb)
 have fC:∀ i,¬ bp { v with l:=x } vs' i ob:=by
  intro i hi
  match i,hi with
  | 0,hi=>exact h.var.far 0 hi
  | 1,hi=>have:=f ob hi;omega
  | 2,hi=>exact h.var.far 2 hi
  | 3,hi=>exact h.var.far 3 hi
  | 4,hi=>exact h.var.far 4 hi
 have O3:ay (w1.setCell ⟨ob,3,none⟩ x.val) lo { v with l:=x } vs' { s with af:=ls }:=S2.far fC _
 refine ⟨⟨h1.var.box.set 3 (by simp) x.val,O3,h.var.gI,fC⟩,h1.goes.step O3 (aK.putC (.inr h.new) [x.val] 3 (aK.refl _ _)) fun i b hb => ?_,h.new⟩
 match i,hb with
 | 0,hb=>exact .inl ⟨0,hb⟩
 | 1,hb=>exact .inr (Nat.le_trans h.goes.turn.size (f b hb))
 | 2,hb=>exact .inl ⟨2,hb⟩
 | 3,hb=>exact .inl ⟨3,hb⟩
 | 4,hb=>exact .inl ⟨4,hb⟩
structure aR (w0:World) (lo:Nat) (v0:Sv) (cf:List Lv) (w:World) (ob rb:Nat) (v:Sv) (vs:List Lv) (s:Sy):Prop where
 g:aP w0 lo v0 cf w ob v vs s
 r:ai w rb zc
 far:∀ i,¬ bp v vs i rb
 ne:rb≠ob
 new:w0.heap.size <= rb
section
variable {w0 w:World} {lo ob rb:Nat} {v0 v:Sv} {cf vs:List Lv} {s:Sy}
theorem aR.keeps {w':World} (h:aR w0 lo v0 cf w ob rb v vs s) (k:aa w w'):aR w0 lo v0 cf w' ob rb v vs s:=⟨h.g.keeps k,h.r.keeps k,h.far,h.ne,h.new⟩
theorem aR.af {w1:World} (h:aR w0 lo v0 cf w ob rb v vs s) (k:aa w w1) {x:Rw} {vs':List Lv} {ls:List Lk} (L:Mine w1 w.heap.size w1.heap.size x.val vs' ls) :
  aR w0 lo v0 cf (w1.setCell ⟨ob,3,none⟩ x.val) ob rb { v with l:=x } vs' { s with af:=ls }:=by
 have hl:=h.r.lt
 refine ⟨h.g.af k L,(h.r.keeps k).far h.ne.symm _,?_,h.ne,h.new⟩
 intro i hi
 match i,hi with
 | 0,hi=>exact h.far 0 hi
 | 1,hi=>have:=(L.aG hi).1;omega
 | 2,hi=>exact h.far 2 hi
 | 3,hi=>exact h.far 3 hi
 | 4,hi=>exact h.far 4 hi
theorem aR.tasks {w1:World} (h:aR w0 lo v0 cf w ob rb v vs s) (k:aa w w1) {x:Rw} {xs:List ag} (O:Own 43 14 tc w1 w.heap.size x.val xs) :
  aR w0 lo v0 cf (w1.setCell ⟨ob,2,none⟩ x.val) ob rb { v with t:=x } vs { s with tasks:=xs }:=by
 have hl:=h.r.lt
 have fj:=h.g.var.box.lt
 have hlo:lo <= w.heap.size:=Nat.le_trans h.g.var.gI (Nat.le_of_lt fj)
 have f:∀ q,x.val.ownBlock=some q->w.heap.size <= q:=fun q hq=>(O.cD q hq).1
 have S2:ay w1 lo { v with t:=x } vs { s with tasks:=xs }:=h.g.var.own.mj k.size (fun b hb _=>Below.block k b hb) x xs (O.base hlo) fun b hb => .inr (f b hb)
 have fC:∀ c,c < w.heap.size->(∀ i,¬ bp v vs i c)->∀ i,¬ bp { v with t:=x } vs i c:=by
  intro c hc hf i hi
  match i,hi with
  | 0,hi=>have:=f c hi;omega
  | 1,hi=>exact hf 1 hi
  | 2,hi=>exact hf 2 hi
  | 3,hi=>exact hf 3 hi
  | 4,hi=>exact hf 4 hi
 have fo:=fC ob fj h.g.var.far
 have O3:ay (w1.setCell ⟨ob,2,none⟩ x.val) lo { v with t:=x } vs { s with tasks:=xs }:=S2.far fo _
 refine ⟨⟨⟨(h.g.var.box.keeps k).set 2 (by simp) x.val,O3,h.g.var.gI,fo⟩,(h.g.keeps k).goes.step O3 (aK.putC (.inr h.g.new) [x.val] 2 (aK.refl _ _)) fun i b hb => ?_,h.g.new⟩,(h.r.keeps k).far h.ne.symm _,fC rb hl h.far,h.ne,h.new⟩
 match i,hb with
 | 0,hb=>exact .inr (Nat.le_trans h.g.goes.turn.size (f b hb))
 | 1,hb=>exact .inl ⟨1,hb⟩
 | 2,hb=>exact .inl ⟨2,hb⟩
 | 3,hb=>exact .inl ⟨3,hb⟩
 | 4,hb=>exact .inl ⟨4,hb⟩
theorem aR.ah {w1 w2:World} (h:aR w0 lo v0 cf w ob rb v vs s) (k:aa w w1) {x:Rw} {xs:List Gh} (O:Own 87 4 dM w2 lo x.val xs) (g:w1.grownBy w2 v.g.val.ownBlock) (f:∀ q,x.val.ownBlock=some q->v.g.val.ownBlock=some q∨w1.heap.size <= q) :
  aR w0 lo v0 cf (w2.setCell ⟨ob,4,none⟩ x.val) ob rb { v with g:=x } vs { s with ah:=xs }:=by
 have hl:=(h.r.keeps k).lt
 refine ⟨h.g.ah k O g f,((h.r.keeps k).grown g (fun q e e2=>h.far 2 (by rw [<- e2];exact e))).far h.ne.symm _,?_,h.ne,h.new⟩
 intro i hi
 match i,hi with
 | 0,hi=>exact h.far 0 hi
 | 1,hi=>exact h.far 1 hi
 | 2,hi =>
  rcases f rb hi with h2 | h2
  ·exact h.far 2 h2
  ·omega
 | 3,hi=>exact h.far 3 hi
 | 4,hi=>exact h.far 4 hi
theorem aR.task (h:aR w0 lo v0 cf w ob rb v vs s) {tb:Nat} (ha:v.t.a=some ⟨tb,0,none⟩) {k:Nat} (hk:k < s.tasks.length) (x:ag):aR w0 lo v0 cf (putC w tb (k*14) (tc x).toList) ob rb v vs { s with tasks:=s.tasks.set k x }:=by
 have ho:bp v vs 0 tb:=by show v.t.val.ownBlock=some tb;rw [Rw.val,ha];rfl
 have hne:tb≠rb:=fun e=>h.far 0 (by rw [<- e];exact ho)
 exact ⟨h.g.task ha hk x,ai.aU hne _ _ h.r,h.far,h.ne,h.new⟩
theorem aR.num (h:aR w0 lo v0 cf w ob rb v vs s) (now az seq missed:Int) {k:Nat} {x:Value} (e:(ae s v).setIfInBounds k x=ae { s with now:=now,az:=az,seq:=seq,missed:=missed } v) (hk:k < 9):aR w0 lo v0 cf (w.setCell ⟨ob,k,none⟩ x) ob rb v vs { s with now:=now,az:=az,seq:=seq,missed:=missed } :=
 ⟨h.g.num now az seq missed e hk,h.r.far h.ne.symm _,h.far,h.ne,h.new⟩
theorem aR.fin (h:aR w0 lo v0 cf w ob rb v vs s):ai (putC w rb 0 (ae s v).toList) rb (ae s v) /\ Goes w0 lo v0 cf (putC w rb 0 (ae s v).toList) v vs s :=
 ⟨h.r.putC (ae s v).toList rfl,(h.g.elsewhere h.far h.ne h.new (ae s v).toList 0).goes⟩
end
abbrev du (w:World) (v:Sv) (s:Sy) (c:Cl):World:=((w.alloc (.cells (ae s v) 30)).alloc (.cells (cc c) 32)).alloc (.cells zc 30)
abbrev nh (w:World) (v:Sv) (s:Sy):World:=(w.alloc (.cells (ae s v) 30)).alloc (.cells zc 30)
theorem eU {w:World} {lo:Nat} {v:Sv} {vs:List Lv} {s:Sy} (h:ay w lo v vs s) (hl:lo <= w.heap.size) (c:Cl) :
  aR w lo v vs (du w v s c) w.heap.size (w.heap.size+2) v vs s /\ ai (du w v s c) (w.heap.size+1) (cc c) /\ aa w (du w v s c):=by
 refine ⟨⟨(aP.start h hl).keeps (((aa.refl _).alloc _).alloc _),?_,fun i hi=>by have:=(h.aG hi).2;omega,by omega,by omega⟩,?_,(((aa.refl w).alloc _).alloc _).alloc _⟩
 ·have:=ai.new ((w.alloc (.cells (ae s v) 30)).alloc (.cells (cc c) 32)) zc 30
  simpa using this
 ·have:=(ai.new (w.alloc (.cells (ae s v) 30)) (cc c) 32).alloc (.cells zc 30)
  simpa using this
theorem uO {w:World} {lo:Nat} {v:Sv} {vs:List Lv} {s:Sy} (h:ay w lo v vs s) (hl:lo <= w.heap.size) :
  aR w lo v vs (nh w v s) w.heap.size (w.heap.size+1) v vs s /\ aa w (nh w v s):=by
 refine ⟨⟨(aP.start h hl).keeps ((aa.refl _).alloc _),?_,fun i hi=>by have:=(h.aG hi).2;omega,by omega,by omega⟩,((aa.refl w).alloc _).alloc _⟩
 have:=ai.new (w.alloc (.cells (ae s v) 30)) zc 30
 simpa using this
def fL (w:World) (lo:Nat) (v:Sv) (vs:List Lv) (n:Int) (s0:Sy) (e:Ending) (w':World):Prop:=∃ s' v' vs',e = .returned (.tuple #[.agg (ae s' v'),.int .i64 n]) /\ (n=0->s'=s0) /\ Goes w lo v vs w' v' vs' s'
theorem fL.of {w:World} {lo:Nat} {v:Sv} {vs:List Lv} {n m:Int} {s0 s':Sy} {w':World} {v':Sv} {vs':List Lv} (hm:n=m) (hs:m=0->s'=s0) (g:Goes w lo v vs w' v' vs' s'):fL w lo v vs n s0 (.returned (.tuple #[.agg (ae s' v'),.int .i64 m])) w' :=
 ⟨s',v',vs',by rw [hm],fun h=>hs (by rw [<- hm];exact h),g⟩
theorem aR.ret {P:Program} {fn:Func} {a:Act} {w0 w:World} {lo ob rb:Nat} {v0 v:Sv} {cf vs:List Lv} {s s0:Sy} {n m:Int} (h:aR w0 lo v0 cf w ob rb v vs s) (hn:n=m) (hs:m=0->s=s0) (hd:a.defers=[])
  (hr:∀ Q:World,(∀ k,Q.cell? ⟨rb,k,none⟩=(ae s v)[k]?)->(results fn a.tmps).run P Q = .ok (.tuple #[.agg (ae s v),.int .i64 m]) Q):bodyPost P fn (fL w0 lo v0 cf n s0) .ret a (putC w rb 0 (ae s v).toList):=by
 obtain ⟨D,GZ⟩:=h.fin
 exact bodyPost_ret (hr _ D.cells) hd (fL.of hn hs GZ)
theorem On.fv {w w':World} {a:Option Addr} {m cap:Nat} {ls:List Lk} (h:On w a m cap ls) (x:Int) {z:Int} (hz:d8 ls x=z) (k:aa w w'):Calls Tryz.prog 84 #[.slice a m cap,.int .i64 x] w' fun e w''=>e = .returned (.int .i64 z) /\ aa w' w'':=by
 have h':=h.keeps k
 have:=tW a cap ls x w' h'.small h'.gP
 rw [h'.len,hz] at this
 exact this
theorem On.iG {w w':World} {a:Option Addr} {m cap:Nat} {ls:List Lk} (h:On w a m cap ls) (x:Int) {z:Bool} (hz:kR ls x=z) (k:aa w w'):Calls Tryz.prog 148 #[.slice a m cap,.int .i64 x] w' fun e w''=>e = .returned (.bool z) /\ aa w' w'':=by
 have h':=h.keeps k
 have:=MO a cap ls x w' h'.small h'.gP
 rw [h'.len,hz] at this
 exact this
theorem qL {ls:List Lk} {i:Nat} {l:Lk} (h:ls[i]?=some l):jm ls i=l.waits:=by simp [jm,h]
theorem cV.five {s:Sy} (h:cV s):s.af.length=5:=by
 have h2:=h.af
 unfold gy at h2
 simp only [Bool.and_eq_true,beq_iff_eq] at h2
 exact h2.1
section
attribute [local go_sem] aa.refl aa.alloc aa.drew aa.drewN
theorem ay.nothing (w:World) (lo:Nat):ay w lo Sv.zero [] Sy.zero:=by
 refine ⟨World.ownsRow_nil _ _ _ _,Mine.none _ _ _ _ (World.ownsRow_nil _ _ _ _) (fun b e=>by simp [Value.ownBlock] at e),World.ownsRow_nil _ _ _ _,World.ownsRow_nil _ _ _ _,World.ownsRow_nil _ _ _ _,?_⟩
 intro i j b hi hj
 match i,hi with
 | 0,hi=>simp [bp,Value.ownBlock] at hi
 | 1,hi=>simp [bp,Value.ownBlock] at hi
 | 2,hi=>simp [bp,Value.ownBlock] at hi
 | 3,hi=>simp [bp,Value.ownBlock] at hi
 | 4,hi=>simp [bp,Value.ownBlock] at hi
abbrev mT (c b1 b3:Nat):Sv:=⟨⟨none,0,0⟩,⟨some ⟨b1,0,none⟩,5,5⟩,⟨none,0,0⟩,⟨some ⟨b3,0,none⟩,c,c⟩,⟨none,0,0⟩⟩
theorem xz {c:Nat} (h:aF (c:Int) 1 4=true):aQ c={ Sy.zero with az:=(c:Int),af:=List.replicate 5 ⟨0,[]⟩,ax:=List.replicate c 0 }:=by
 unfold aQ
 rw [h,if_pos rfl,Int.toNat_natCast]
theorem DN {W:World} {lo c b1 b3:Nat} (h:aF (c:Int) 1 4=true) (L:Mine W lo W.heap.size (.slice (some ⟨b1,0,none⟩) 5 5) (List.replicate 5 Lv.zero) (List.replicate 5 ⟨0,[]⟩)) (F:aS W lo (.slice (some ⟨b3,0,none⟩) c c) (List.replicate c 0)) (hne:b1≠b3) :
  ay W lo (mT c b1 b3) (List.replicate 5 Lv.zero) (aQ c):=by
 rw [xz h]
 refine ⟨World.ownsRow_nil _ _ _ _,L,World.ownsRow_nil _ _ _ _,F,World.ownsRow_nil _ _ _ _,?_⟩
 have key:∀ i b,bp (mT c b1 b3) (List.replicate 5 Lv.zero) i b->(i=1 /\ b=b1)∨(i=3 /\ b=b3):=by
  intro i b hi
  match i,hi with
  | 0,hi=>simp [bp,Value.ownBlock] at hi
  | 1,hi =>
   rcases hi with hi | ⟨x,hx,hi⟩
   ·simp [Value.ownBlock] at hi;exact .inl ⟨rfl,hi.symm⟩
   ·have:=List.eq_of_mem_replicate hx
    subst this
    simp [Value.ownBlock] at hi
  | 2,hi=>simp [bp,Value.ownBlock] at hi
  | 3,hi=>simp [bp,Value.ownBlock] at hi;exact .inr ⟨rfl,hi.symm⟩
  | 4,hi=>simp [bp,Value.ownBlock] at hi
 intro i j b hi hj
 have:=key i b hi
 have:=key j b hj
 omega
theorem DP (c:Nat):madeCells #[.int .i64 0] c=madeCells (ic 0) (c*1):=by rw [Nat.mul_one]
set_option maxHeartbeats 4000000 in
theorem qos (az:Int) (w:World) :
  Calls Tryz.prog 97 #[.int .i64 az] w fun e w'=>∃ v vs,e = .returned (.tuple #[.agg (ae (aQ az) v),.bool (aF az 1 4)]) /\ ay w' w.heap.size v vs (aQ az) /\ aa w w':=by
 cases hc:aF az 1 4
 ·have Hn:Hid (aQ az=Sy.zero):=by show _=_;unfold aQ;rw [hc];rfl
  go_enter Tryz.func97,Tryz.ntmps97
  go_wp2_with (go_at_call 27;refine (bn _ _ _ _).mono ?_;rintro e w' ⟨rfl,hw'⟩;have hw2:=hw'.symm;subst hw2;rw [hc])
  exact bodyPost_ret (v := .tuple #[.agg (ae Sy.zero Sv.zero),.bool false]) (by simp [results,Tryz.results97,go_sem,Sy.zero]) rfl ⟨Sv.zero,[],by rw [Hn.out],by rw [Hn.out];exact ay.nothing _ _,(aa.refl w).alloc _⟩
 ·obtain ⟨c1,c2⟩:=dq.1 hc
  obtain ⟨c,rfl⟩:∃ c:Nat,az=(c:Int):=⟨az.toNat,by omega⟩
  have hm1:∀ w:World,(Instr.makeSlice 25 (.int .i64 5) (.int .i64 5)).run Tryz.prog w = .ok (.slice (some ⟨w.heap.size,0,none⟩) 5 5) (w.alloc (.cells (madeCells #[.int .i64 0,.slice none 0 0] 10) 37)):=by
   have:=tD (P:=Tryz.prog) 25 37 (.agg #[.int .i64 0,.slice none 0 0]) 2 32 Tryz.underlying25 (by kernel_rfl) 5 (by decide) (by decide)
   simpa [Value.cells] using this
  have hm2:∀ w:World,(Instr.makeSlice 27 (.int .i64 (c:Int)) (.int .i64 (c:Int))).run Tryz.prog w = .ok (.slice (some ⟨w.heap.size,0,none⟩) c c) (w.alloc (.cells (madeCells #[.int .i64 0] c) 3)):=by
   have:=tD (P:=Tryz.prog) 27 3 (.int .i64 0) 1 8 Tryz.underlying27 (by kernel_rfl) c (by omega) (by omega)
   simpa [Value.cells] using this
  go_enter Tryz.func97,Tryz.ntmps97
  go_wp2_with (go_at_call 27;refine (bn _ _ _ _).mono ?_;rintro e w' ⟨rfl,hw'⟩;have hw2:=hw'.symm;subst hw2;rw [hc])
  go_region
  ·have L:Mine ((((w.alloc (.cells #[.int .i64 0,.int .i64 (c:Int),.slice none 0 0,.slice (some ⟨w.heap.size+1,0,none⟩) 5 5,.slice none 0 0,.slice (some ⟨w.heap.size+1+1,0,none⟩) c c,.int .i64 0,.int .i64 0,.slice none 0 0] 30)).alloc (.cells (madeCells #[.int .i64 0,.slice none 0 0] 10) 37)).alloc (.cells (madeCells #[.int .i64 0] c) 3)).drew) w.heap.size ((((w.alloc (.cells #[.int .i64 0,.int .i64 (c:Int),.slice none 0 0,.slice (some ⟨w.heap.size+1,0,none⟩) 5 5,.slice none 0 0,.slice (some ⟨w.heap.size+1+1,0,none⟩) c c,.int .i64 0,.int .i64 0,.slice none 0 0] 30)).alloc (.cells (madeCells #[.int .i64 0,.slice none 0 0] 10) 37)).alloc (.cells (madeCells #[.int .i64 0] c) 3)).drew).heap.size (.slice (some ⟨w.heap.size+1,0,none⟩) 5 5) (List.replicate 5 Lv.zero) (List.replicate 5 ⟨0,[]⟩):=by
    have m:=Mine.zero (w.alloc (.cells #[.int .i64 0,.int .i64 (c:Int),.slice none 0 0,.slice (some ⟨w.heap.size+1,0,none⟩) 5 5,.slice none 0 0,.slice (some ⟨w.heap.size+1+1,0,none⟩) c c,.int .i64 0,.int .i64 0,.slice none 0 0] 30)) 5 (by decide)
    simp only [World.size_alloc] at m
    exact (m.keeps ((aa.refl _).alloc _).drew).widen (by omega) (by simp)
   have F:aS ((((w.alloc (.cells #[.int .i64 0,.int .i64 (c:Int),.slice none 0 0,.slice (some ⟨w.heap.size+1,0,none⟩) 5 5,.slice none 0 0,.slice (some ⟨w.heap.size+1+1,0,none⟩) c c,.int .i64 0,.int .i64 0,.slice none 0 0] 30)).alloc (.cells (madeCells #[.int .i64 0,.slice none 0 0] 10) 37)).alloc (.cells (madeCells #[.int .i64 0] c) 3)).drew) w.heap.size (.slice (some ⟨w.heap.size+1+1,0,none⟩) c c) (List.replicate c 0):=by
    have f:=Own.zeros (e:=3) fW (by decide) (0:Int) ((w.alloc (.cells #[.int .i64 0,.int .i64 (c:Int),.slice none 0 0,.slice (some ⟨w.heap.size+1,0,none⟩) 5 5,.slice none 0 0,.slice (some ⟨w.heap.size+1+1,0,none⟩) c c,.int .i64 0,.int .i64 0,.slice none 0 0] 30)).alloc (.cells (madeCells #[.int .i64 0,.slice none 0 0] 10) 37)) c (by unfold maxLen;omega)
    rw [<- DP] at f
    simp only [World.size_alloc] at f
    exact (f.keeps (aa.refl _).drew).base (by omega)
   have D:ai ((((w.alloc (.cells #[.int .i64 0,.int .i64 (c:Int),.slice none 0 0,.slice (some ⟨w.heap.size+1,0,none⟩) 5 5,.slice none 0 0,.slice (some ⟨w.heap.size+1+1,0,none⟩) c c,.int .i64 0,.int .i64 0,.slice none 0 0] 30)).alloc (.cells (madeCells #[.int .i64 0,.slice none 0 0] 10) 37)).alloc (.cells (madeCells #[.int .i64 0] c) 3)).drew) w.heap.size #[.int .i64 0,.int .i64 (c:Int),.slice none 0 0,.slice (some ⟨w.heap.size+1,0,none⟩) 5 5,.slice none 0 0,.slice (some ⟨w.heap.size+1+1,0,none⟩) c c,.int .i64 0,.int .i64 0,.slice none 0 0]:=(((ai.new _ _ _).alloc _).alloc _).keeps (aa.refl _).drew
   have K:aa w ((((w.alloc (.cells #[.int .i64 0,.int .i64 (c:Int),.slice none 0 0,.slice (some ⟨w.heap.size+1,0,none⟩) 5 5,.slice none 0 0,.slice (some ⟨w.heap.size+1+1,0,none⟩) c c,.int .i64 0,.int .i64 0,.slice none 0 0] 30)).alloc (.cells (madeCells #[.int .i64 0,.slice none 0 0] 10) 37)).alloc (.cells (madeCells #[.int .i64 0] c) 3)).drew):=((((aa.refl w).alloc _).alloc _).alloc _).drew
   have S0:=DN hc L F (by omega)
   have e0:Hid (aQ c={ Sy.zero with az:=(c:Int),af:=List.replicate 5 ⟨0,[]⟩,ax:=List.replicate c 0 }):=xz hc
   generalize (((w.alloc (.cells #[.int .i64 0,.int .i64 (c:Int),.slice none 0 0,.slice (some ⟨w.heap.size+1,0,none⟩) 5 5,.slice none 0 0,.slice (some ⟨w.heap.size+1+1,0,none⟩) c c,.int .i64 0,.int .i64 0,.slice none 0 0] 30)).alloc (.cells (madeCells #[.int .i64 0,.slice none 0 0] 10) 37)).alloc (.cells (madeCells #[.int .i64 0] c) 3)).drew=Z at *
   go_wp2
   exact bodyPost_ret (v := .tuple #[.agg (ae (aQ c) (mT c (w.heap.size+1) (w.heap.size+1+1))),.bool true]) (by rw [e0.out];simp [results,Tryz.results97,go_sem,D.cells,Sy.zero]) rfl ⟨_,rfl,⟨_,S0⟩,K⟩
  ·have L:Mine ((((w.alloc (.cells #[.int .i64 0,.int .i64 (c:Int),.slice none 0 0,.slice (some ⟨w.heap.size+1+1,0,none⟩) 5 5,.slice none 0 0,.slice (some ⟨w.heap.size+1,0,none⟩) c c,.int .i64 0,.int .i64 0,.slice none 0 0] 30)).alloc (.cells (madeCells #[.int .i64 0] c) 3)).alloc (.cells (madeCells #[.int .i64 0,.slice none 0 0] 10) 37)).drew) w.heap.size ((((w.alloc (.cells #[.int .i64 0,.int .i64 (c:Int),.slice none 0 0,.slice (some ⟨w.heap.size+1+1,0,none⟩) 5 5,.slice none 0 0,.slice (some ⟨w.heap.size+1,0,none⟩) c c,.int .i64 0,.int .i64 0,.slice none 0 0] 30)).alloc (.cells (madeCells #[.int .i64 0] c) 3)).alloc (.cells (madeCells #[.int .i64 0,.slice none 0 0] 10) 37)).drew).heap.size (.slice (some ⟨w.heap.size+1+1,0,none⟩) 5 5) (List.replicate 5 Lv.zero) (List.replicate 5 ⟨0,[]⟩):=by
    have m:=Mine.zero ((w.alloc (.cells #[.int .i64 0,.int .i64 (c:Int),.slice none 0 0,.slice (some ⟨w.heap.size+1+1,0,none⟩) 5 5,.slice none 0 0,.slice (some ⟨w.heap.size+1,0,none⟩) c c,.int .i64 0,.int .i64 0,.slice none 0 0] 30)).alloc (.cells (madeCells #[.int .i64 0] c) 3)) 5 (by decide)
    simp only [World.size_alloc] at m
    exact (m.keeps (aa.refl _).drew).widen (by omega) (by simp)
   have F:aS ((((w.alloc (.cells #[.int .i64 0,.int .i64 (c:Int),.slice none 0 0,.slice (some ⟨w.heap.size+1+1,0,none⟩) 5 5,.slice none 0 0,.slice (some ⟨w.heap.size+1,0,none⟩) c c,.int .i64 0,.int .i64 0,.slice none 0 0] 30)).alloc (.cells (madeCells #[.int .i64 0] c) 3)).alloc (.cells (madeCells #[.int .i64 0,.slice none 0 0] 10) 37)).drew) w.heap.size (.slice (some ⟨w.heap.size+1,0,none⟩) c c) (List.replicate c 0):=by
    have f:=Own.zeros (e:=3) fW (by decide) (0:Int) (w.alloc (.cells #[.int .i64 0,.int .i64 (c:Int),.slice none 0 0,.slice (some ⟨w.heap.size+1+1,0,none⟩) 5 5,.slice none 0 0,.slice (some ⟨w.heap.size+1,0,none⟩) c c,.int .i64 0,.int .i64 0,.slice none 0 0] 30)) c (by unfold maxLen;omega)
    rw [<- DP] at f
    simp only [World.size_alloc] at f
    exact (f.keeps ((aa.refl _).alloc _).drew).base (by omega)
   have D:ai ((((w.alloc (.cells #[.int .i64 0,.int .i64 (c:Int),.slice none 0 0,.slice (some ⟨w.heap.size+1+1,0,none⟩) 5 5,.slice none 0 0,.slice (some ⟨w.heap.size+1,0,none⟩) c c,.int .i64 0,.int .i64 0,.slice none 0 0] 30)).alloc (.cells (madeCells #[.int .i64 0] c) 3)).alloc (.cells (madeCells #[.int .i64 0,.slice none 0 0] 10) 37)).drew) w.heap.size #[.int .i64 0,.int .i64 (c:Int),.slice none 0 0,.slice (some ⟨w.heap.size+1+1,0,none⟩) 5 5,.slice none 0 0,.slice (some ⟨w.heap.size+1,0,none⟩) c c,.int .i64 0,.int .i64 0,.slice none 0 0]:=(((ai.new _ _ _).alloc _).alloc _).keeps (aa.refl _).drew
   have K:aa w ((((w.alloc (.cells #[.int .i64 0,.int .i64 (c:Int),.slice none 0 0,.slice (some ⟨w.heap.size+1+1,0,none⟩) 5 5,.slice none 0 0,.slice (some ⟨w.heap.size+1,0,none⟩) c c,.int .i64 0,.int .i64 0,.slice none 0 0] 30)).alloc (.cells (madeCells #[.int .i64 0] c) 3)).alloc (.cells (madeCells #[.int .i64 0,.slice none 0 0] 10) 37)).drew):=((((aa.refl w).alloc _).alloc _).alloc _).drew
   have S0:=DN hc L F (by omega)
   have e0:Hid (aQ c={ Sy.zero with az:=(c:Int),af:=List.replicate 5 ⟨0,[]⟩,ax:=List.replicate c 0 }):=xz hc
   generalize (((w.alloc (.cells #[.int .i64 0,.int .i64 (c:Int),.slice none 0 0,.slice (some ⟨w.heap.size+1+1,0,none⟩) 5 5,.slice none 0 0,.slice (some ⟨w.heap.size+1,0,none⟩) c c,.int .i64 0,.int .i64 0,.slice none 0 0] 30)).alloc (.cells (madeCells #[.int .i64 0] c) 3)).alloc (.cells (madeCells #[.int .i64 0,.slice none 0 0] 10) 37)).drew=Z at *
   go_wp2
   exact bodyPost_ret (v := .tuple #[.agg (ae (aQ c) (mT c (w.heap.size+1+1) (w.heap.size+1))),.bool true]) (by rw [e0.out];simp [results,Tryz.results97,go_sem,D.cells,Sy.zero]) rfl ⟨_,rfl,⟨_,S0⟩,K⟩
end
end Go.Proofs.YteagpjlgjfaclaaGreatDoor
