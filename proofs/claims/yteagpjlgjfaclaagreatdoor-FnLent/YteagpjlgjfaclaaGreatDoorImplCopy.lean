/-
  The program's copy of a system.
-/
import Derived.Test.YteagpjlgjfaclaaGreatDoorSysCopy
import Derived.Test.YteagpjlgjfaclaaGreatDoorFixHeap2
import Derived.Test.YteagpjlgjfaclaaGreatDoorLockSpec2
import Derived.Test.YteagpjlgjfaclaaGreatDoorPickPure
namespace Go.Proofs.YteagpjlgjfaclaaGreatDoor
set_option maxRecDepth 100000
open Go.RowKit
attribute [local go_sem] aa.refl aa.alloc aa.drew aa.drewN
set_option maxHeartbeats 1000000 in
theorem Ju (a:Option Addr) (cap n:Nat) (rs:List ag) (w:World) (hn:rs.length=n) (hl:n <= 1048576) (hs:cH 14 tc w a rs) :
  Calls Tryz.prog 125 #[.slice a n cap] w fun e w'=>e = .returned (.slice (some ⟨w.heap.size,0,none⟩) n n) /\ Own 43 14 tc w' w.heap.size (.slice (some ⟨w.heap.size,0,none⟩) n n) rs /\ aa w w':=by
 have Hn:Hid (rs.length=n):=hn
 clear hn
 obtain ⟨C,hC,hmk⟩:=tA (P:=Tryz.prog) 24 43 (tk ag.zero) 14 112 Tryz.underlying24 (by kernel_rfl) n (by omega) (by omega)
 have hr0:=Row.new w C 43
 have hs0:=hs.keeps ((aa.refl w).alloc (.cells C 43))
 have HC:Hid (C.size=n*14):=hC
 clear hC
 go_enter Tryz.func125,Tryz.ntmps125
 go_upto_region 2 with fail
 have kW:=cZ w (.cells C 43)
 clear hmk hs
 generalize w.alloc (.cells C 43)=W at *
 have hrun:∀ ty,(Builtin.copy_ #[24,24] ty #[.slice (some ⟨w.heap.size,0,none⟩) n n,.slice a n cap]).run Tryz.prog W = .ok (goInt n) (W.setRow w.heap.size (cJ C 0 (bD tc rs))):=fun ty=>by
  have:=tC (P:=Tryz.prog) tc 14 dC (by decide) ja W 24 24 ty 43 (some ⟨w.heap.size,0,none⟩) a n n n cap C 43 w.heap.size 0 rs Tryz.underlying24 (by kernel_rfl) hr0 (by rw [Hn.out];simp) (fun _=>rfl) hs0 (by rw [Hn.out,HC.out];omega)
  rwa [Hn.out] at this
 have R1:Hid (Row (W.setRow w.heap.size (cJ C 0 (bD tc rs))) w.heap.size 43 (bD tc rs).toArray):=by
  have e:=rk (L:=bD tc rs) (C:=C) (by rw [iu dC,Hn.out,HC.out])
  have:=hr0.setRow (cJ C 0 (bD tc rs))
  show Row _ _ _ _
  rw [<- e];exact this
 have K1:Hid (aa w (W.setRow w.heap.size (cJ C 0 (bD tc rs)))):=kW.setRow (Nat.le_refl _) _
 clear hr0 hs0 kW
 generalize W.setRow w.heap.size (cJ C 0 (bD tc rs))=X at *
 go_wp2
 go_ret
 refine ⟨rfl,?_,K1.out⟩
 have:=R1.out.own (sz:=14) dC (base:=w.heap.size) (Nat.le_refl _) (by rw [Hn.out];unfold maxLen;omega)
 rwa [Hn.out] at this
set_option maxHeartbeats 1000000 in
theorem Jv (a:Option Addr) (cap n:Nat) (rs:List Gh) (w:World) (hn:rs.length=n) (hl:n <= 1048576) (hs:cH 4 dM w a rs) :
  Calls Tryz.prog 127 #[.slice a n cap] w fun e w'=>e = .returned (.slice (some ⟨w.heap.size,0,none⟩) n n) /\ Own 87 4 dM w' w.heap.size (.slice (some ⟨w.heap.size,0,none⟩) n n) rs /\ aa w w':=by
 have Hn:Hid (rs.length=n):=hn
 clear hn
 obtain ⟨C,hC,hmk⟩:=tA (P:=Tryz.prog) 26 87 (.agg (dM Gh.zero)) 4 32 Tryz.underlying26 (by kernel_rfl) n (by omega) (by omega)
 have hr0:=Row.new w C 87
 have hs0:=hs.keeps ((aa.refl w).alloc (.cells C 87))
 have HC:Hid (C.size=n*4):=hC
 clear hC
 go_enter Tryz.func127,Tryz.ntmps127
 go_upto_region 2 with fail
 have kW:=cZ w (.cells C 87)
 clear hmk hs
 generalize w.alloc (.cells C 87)=W at *
 have hrun:∀ ty,(Builtin.copy_ #[26,26] ty #[.slice (some ⟨w.heap.size,0,none⟩) n n,.slice a n cap]).run Tryz.prog W = .ok (goInt n) (W.setRow w.heap.size (cJ C 0 (bD dM rs))):=fun ty=>by
  have:=tC (P:=Tryz.prog) dM 4 jS (by decide) qD W 26 26 ty 87 (some ⟨w.heap.size,0,none⟩) a n n n cap C 87 w.heap.size 0 rs Tryz.underlying26 (by kernel_rfl) hr0 (by rw [Hn.out];simp) (fun _=>rfl) hs0 (by rw [Hn.out,HC.out];omega)
  rwa [Hn.out] at this
 have R1:Hid (Row (W.setRow w.heap.size (cJ C 0 (bD dM rs))) w.heap.size 87 (bD dM rs).toArray):=by
  have e:=rk (L:=bD dM rs) (C:=C) (by rw [iu jS,Hn.out,HC.out])
  have:=hr0.setRow (cJ C 0 (bD dM rs))
  show Row _ _ _ _
  rw [<- e];exact this
 have K1:Hid (aa w (W.setRow w.heap.size (cJ C 0 (bD dM rs)))):=kW.setRow (Nat.le_refl _) _
 clear hr0 hs0 kW
 generalize W.setRow w.heap.size (cJ C 0 (bD dM rs))=X at *
 go_wp2
 go_ret
 refine ⟨rfl,?_,K1.out⟩
 have:=R1.out.own (sz:=4) jS (base:=w.heap.size) (Nat.le_refl _) (by rw [Hn.out];unfold maxLen;omega)
 rwa [Hn.out] at this
set_option maxHeartbeats 1000000 in
theorem Jw (a:Option Addr) (cap n:Nat) (rs:List Tn) (w:World) (hn:rs.length=n) (hl:n <= 1048576) (hs:cH 3 eC w a rs) :
  Calls Tryz.prog 129 #[.slice a n cap] w fun e w'=>e = .returned (.slice (some ⟨w.heap.size,0,none⟩) n n) /\ Own 104 3 eC w' w.heap.size (.slice (some ⟨w.heap.size,0,none⟩) n n) rs /\ aa w w':=by
 have Hn:Hid (rs.length=n):=hn
 clear hn
 obtain ⟨C,hC,hmk⟩:=tA (P:=Tryz.prog) 28 104 (.agg (eC Tn.zero)) 3 24 Tryz.underlying28 (by kernel_rfl) n (by omega) (by omega)
 have hr0:=Row.new w C 104
 have hs0:=hs.keeps ((aa.refl w).alloc (.cells C 104))
 have HC:Hid (C.size=n*3):=hC
 clear hC
 go_enter Tryz.func129,Tryz.ntmps129
 go_upto_region 2 with fail
 have kW:=cZ w (.cells C 104)
 clear hmk hs
 generalize w.alloc (.cells C 104)=W at *
 have hrun:∀ ty,(Builtin.copy_ #[28,28] ty #[.slice (some ⟨w.heap.size,0,none⟩) n n,.slice a n cap]).run Tryz.prog W = .ok (goInt n) (W.setRow w.heap.size (cJ C 0 (bD eC rs))):=fun ty=>by
  have:=tC (P:=Tryz.prog) eC 3 jc (by decide) pC W 28 28 ty 104 (some ⟨w.heap.size,0,none⟩) a n n n cap C 104 w.heap.size 0 rs Tryz.underlying28 (by kernel_rfl) hr0 (by rw [Hn.out];simp) (fun _=>rfl) hs0 (by rw [Hn.out,HC.out];omega)
  rwa [Hn.out] at this
 have R1:Hid (Row (W.setRow w.heap.size (cJ C 0 (bD eC rs))) w.heap.size 104 (bD eC rs).toArray):=by
  have e:=rk (L:=bD eC rs) (C:=C) (by rw [iu jc,Hn.out,HC.out])
  have:=hr0.setRow (cJ C 0 (bD eC rs))
  show Row _ _ _ _
  rw [<- e];exact this
 have K1:Hid (aa w (W.setRow w.heap.size (cJ C 0 (bD eC rs)))):=kW.setRow (Nat.le_refl _) _
 clear hr0 hs0 kW
 generalize W.setRow w.heap.size (cJ C 0 (bD eC rs))=X at *
 go_wp2
 go_ret
 refine ⟨rfl,?_,K1.out⟩
 have:=R1.out.own (sz:=3) jc (base:=w.heap.size) (Nat.le_refl _) (by rw [Hn.out];unfold maxLen;omega)
 rwa [Hn.out] at this
def Jy (s:Sy) (w:World) (e:Ending) (w':World):Prop:=∃ v vs,e = .returned (.agg (ae s v)) /\ ay w' w.heap.size v vs s /\ aa w w' /\ ∃ tb,v.t.a=some ⟨tb,0,none⟩
abbrev eE:Array Value:=#[.int .i64 0,.int .i64 0,.slice none 0 0,.slice none 0 0,.slice none 0 0,.slice none 0 0,.int .i64 0,.int .i64 0,.slice none 0 0]
set_option maxHeartbeats 8000000 in
theorem zS (v:Sv) (s:Sy) (w:World) (h:aA w v s) (hsz:bV s <= 1048576) :
  Calls Tryz.prog 77 #[.agg (ae s v)] w (Jy s w):=by
 obtain ⟨⟨ta,tn,ak⟩,⟨la,ln,aj⟩,⟨ga,gn,ao⟩,⟨fa,fn,aq⟩,⟨ra,rn,au⟩⟩:=v
 have kZ:aa w ((w.alloc (.cells (ae s ⟨⟨ta,tn,ak⟩,⟨la,ln,aj⟩,⟨ga,gn,ao⟩,⟨fa,fn,aq⟩,⟨ra,rn,au⟩⟩) 30)).alloc (.cells eE 30)):=((aa.refl w).alloc _).alloc _
 have B0:Hid (ai ((w.alloc (.cells (ae s ⟨⟨ta,tn,ak⟩,⟨la,ln,aj⟩,⟨ga,gn,ao⟩,⟨fa,fn,aq⟩,⟨ra,rn,au⟩⟩) 30)).alloc (.cells eE 30)) w.heap.size (ae s ⟨⟨ta,tn,ak⟩,⟨la,ln,aj⟩,⟨ga,gn,ao⟩,⟨fa,fn,aq⟩,⟨ra,rn,au⟩⟩)):=(ai.new _ _ _).alloc _
 have R0:Hid (ai ((w.alloc (.cells (ae s ⟨⟨ta,tn,ak⟩,⟨la,ln,aj⟩,⟨ga,gn,ao⟩,⟨fa,fn,aq⟩,⟨ra,rn,au⟩⟩) 30)).alloc (.cells eE 30)) (w.heap.size+1) eE):=by
  have:=ai.new (w.alloc (.cells (ae s ⟨⟨ta,tn,ak⟩,⟨la,ln,aj⟩,⟨ga,gn,ao⟩,⟨fa,fn,aq⟩,⟨ra,rn,au⟩⟩) 30)) eE 30
  show ai _ _ _
  simpa using this
 have HS:Hid (aA ((w.alloc (.cells (ae s ⟨⟨ta,tn,ak⟩,⟨la,ln,aj⟩,⟨ga,gn,ao⟩,⟨fa,fn,aq⟩,⟨ra,rn,au⟩⟩) 30)).alloc (.cells eE 30)) ⟨⟨ta,tn,ak⟩,⟨la,ln,aj⟩,⟨ga,gn,ao⟩,⟨fa,fn,aq⟩,⟨ra,rn,au⟩⟩ s):=h.keeps kZ
 have hzs:((w.alloc (.cells (ae s ⟨⟨ta,tn,ak⟩,⟨la,ln,aj⟩,⟨ga,gn,ao⟩,⟨fa,fn,aq⟩,⟨ra,rn,au⟩⟩) 30)).alloc (.cells eE 30)).heap.size=w.heap.size+2:=by simp
 have HL:=h.lay
 obtain ⟨tl,-,-,ll,-,-,gl,-,-,fl,-,-,rl,-,-⟩:=HL
 dsimp only at tl ll gl fl rl
 have q0:Hid (s.tasks.length=tn /\ s.af.length=ln /\ s.ah.length=gn /\ s.ax.length=fn /\ s.trace.length=rn):=⟨tl,ll,gl,fl,rl⟩
 have q1:tn <= 1048576 /\ gn <= 1048576 /\ fn <= 1048576 /\ rn <= 1048576:=by unfold bV at hsz;omega
 have q2:Hid (bT s.af <= 2097152):=by show _ <= _;unfold bV at hsz;omega
 have H0:Hid (aA w ⟨⟨ta,tn,ak⟩,⟨la,ln,aj⟩,⟨ga,gn,ao⟩,⟨fa,fn,aq⟩,⟨ra,rn,au⟩⟩ s):=h
 clear h tl ll gl fl rl
 go_enter Tryz.func77,Tryz.ntmps77
 go_upto_region 1 with fail
 change Code.wp _ _ _ _ ((w.alloc (.cells (ae s ⟨⟨ta,tn,ak⟩,⟨la,ln,aj⟩,⟨ga,gn,ao⟩,⟨fa,fn,aq⟩,⟨ra,rn,au⟩⟩) 30)).alloc (.cells eE 30))
 generalize ((w.alloc (.cells (ae s ⟨⟨ta,tn,ak⟩,⟨la,ln,aj⟩,⟨ga,gn,ao⟩,⟨fa,fn,aq⟩,⟨ra,rn,au⟩⟩) 30)).alloc (.cells eE 30))=Z at *
 have cT:=fun w' (k:aa Z w')=>Ju ta ak tn s.tasks w' q0.out.1 q1.1 (HS.out.keeps k).lay.t
 have cL:=fun w' (k:aa Z w')=>AF la aj s.af w' q2.out (HS.out.keeps k).lay.l
 rw [q0.out.2.1] at cL
 have cG:=fun w' (k:aa Z w')=>Jv ga ao gn s.ah w' q0.out.2.2.1 q1.2.1 (HS.out.keeps k).lay.g
 have e0:∀ w',aa Z w'->∀ q,w'.cell? ⟨w.heap.size,q,none⟩=(ae s ⟨⟨ta,tn,ak⟩,⟨la,ln,aj⟩,⟨ga,gn,ao⟩,⟨fa,fn,aq⟩,⟨ra,rn,au⟩⟩)[q]?:=fun w' k=>(B0.out.keeps k).cells
 dsimp only [ae] at e0
 refine AI 10 (S:=(fun w'=>aa Z w')) (by kernel_rfl) ?_ (fun hHeld => ?_)
 ·exact (aa.refl Z).drew
 refine ad.go [0,1,3,4,6,7] ?_
 iterate 6 (refine mF (h := ?_);try simp only [ar])
 refine ad.nil ?_
 refine rq (i:=2) (h:=fun K hK => ?_)
 go_simp
 first
  | (go_at_call 125;refine (cT _ (by assumption)).mono ?_;rintro e w2 ⟨rfl,o2,k2⟩;clear cT)
  | (go_at_call 126;refine (cL _ (by assumption)).mono ?_;rintro e w4 ⟨b2,vs,rfl,o4,k4⟩;clear cL)
  | (go_at_call 127;refine (cG _ (by assumption)).mono ?_;rintro e w6 ⟨rfl,o6,k6⟩;clear cG)
 try go_wp2_with fail
 refine hK.out _ _ ?_ fun hHeld => ?_
 ·exact aa.trans (by assumption) (by assumption)
 clear hK K
 try simp only [ar]
 refine ad.go [9] ?_
 iterate 1 (refine mF (h := ?_);try simp only [ar])
 refine ad.nil ?_
 refine rq (i:=5) (h:=fun K hK => ?_)
 go_simp
 first
  | (go_at_call 125;refine (cT _ (by assumption)).mono ?_;rintro e w2 ⟨rfl,o2,k2⟩;clear cT)
  | (go_at_call 126;refine (cL _ (by assumption)).mono ?_;rintro e w4 ⟨b2,vs,rfl,o4,k4⟩;clear cL)
  | (go_at_call 127;refine (cG _ (by assumption)).mono ?_;rintro e w6 ⟨rfl,o6,k6⟩;clear cG)
 try go_wp2_with fail
 refine hK.out _ _ ?_ fun hHeld => ?_
 ·exact aa.trans (by assumption) (by assumption)
 clear hK K
 try simp only [ar]
 refine rq (i:=8) (h:=fun K hK => ?_)
 go_simp
 first
  | (go_at_call 125;refine (cT _ (by assumption)).mono ?_;rintro e w2 ⟨rfl,o2,k2⟩;clear cT)
  | (go_at_call 126;refine (cL _ (by assumption)).mono ?_;rintro e w4 ⟨b2,vs,rfl,o4,k4⟩;clear cL)
  | (go_at_call 127;refine (cG _ (by assumption)).mono ?_;rintro e w6 ⟨rfl,o6,k6⟩;clear cG)
 try go_wp2_with fail
 refine hK.out _ _ ?_ fun hHeld => ?_
 ·exact aa.trans (by assumption) (by assumption)
 clear hK K
 try simp only [ar]
 refine ny (i:=10) (h:=fun K hK => ?_)
 have K6:aa Z w6:=(by assumption);have B6:Hid (ai w6 w.heap.size (ae s ⟨⟨ta,tn,ak⟩,⟨la,ln,aj⟩,⟨ga,gn,ao⟩,⟨fa,fn,aq⟩,⟨ra,rn,au⟩⟩)):=B0.out.keeps K6;obtain ⟨_,z1,z2⟩:=B6.out;clear e0
 go_simp
 try go_wp2_with fail
 refine hK.out _ _ ?_
 clear hK K
 try simp only [ar]
 refine ny (i:=11) (h:=fun K hK => ?_)
 go_simp
 try go_wp2_with fail
 refine hK.out _ _ ?_
 clear hK K
 try simp only [ar]
 refine ny (i:=12) (h:=fun K hK => ?_)
 go_simp
 try go_wp2_with fail
 refine hK.out _ _ ?_
 clear hK K
 try simp only [ar]
 refine ny (i:=13) (h:=fun K hK => ?_)
 go_simp
 try go_wp2_with fail
 refine hK.out _ _ ?_
 clear hK K
 try simp only [ar]
 refine ny (i:=14) (h:=fun K hK => ?_)
 go_simp
 try go_wp2_with fail
 refine hK.out _ _ ?_
 clear hK K
 try simp only [ar]
 refine AJ (by kernel_rfl) ?_
 have hzd:Z.drew.heap.size=w.heap.size+2:=hzs
 rw [hzd] at o2
 have e1:w.heap.size+2 <= w2.heap.size:=by have:=k2.size;omega
 have e2:=k4.size
 have e3:=k6.size
 have r1:=(o2.cD _ rfl).2
 have KB:ab w.heap.size w6 (((w6.setCell ⟨w.heap.size,2,none⟩ (.slice (some ⟨w.heap.size+2,0,none⟩) tn tn)).setCell ⟨w.heap.size,3,none⟩ (.slice (some ⟨b2,0,none⟩) ln ln)).setCell ⟨w.heap.size,4,none⟩ (.slice (some ⟨w4.heap.size,0,none⟩) gn gn)):=(((ab.refl _ w6).setCell 2 _).setCell 3 _).setCell 4 _
 have O1:Hid (Own 43 14 tc (((w6.setCell ⟨w.heap.size,2,none⟩ (.slice (some ⟨w.heap.size+2,0,none⟩) tn tn)).setCell ⟨w.heap.size,3,none⟩ (.slice (some ⟨b2,0,none⟩) ln ln)).setCell ⟨w.heap.size,4,none⟩ (.slice (some ⟨w4.heap.size,0,none⟩) gn gn)) (w.heap.size+2) (.slice (some ⟨w.heap.size+2,0,none⟩) tn tn) s.tasks):=((o2.keeps k4).keeps k6).cE KB (by omega)
 have O2:Hid (Mine (((w6.setCell ⟨w.heap.size,2,none⟩ (.slice (some ⟨w.heap.size+2,0,none⟩) tn tn)).setCell ⟨w.heap.size,3,none⟩ (.slice (some ⟨b2,0,none⟩) ln ln)).setCell ⟨w.heap.size,4,none⟩ (.slice (some ⟨w4.heap.size,0,none⟩) gn gn)) w2.heap.size w4.heap.size (.slice (some ⟨b2,0,none⟩) ln ln) vs s.af):=(o4.keeps k6).same fun q hq hq1 hq2=>KB.block q hq2 (by omega)
 have O3:Hid (Own 87 4 dM (((w6.setCell ⟨w.heap.size,2,none⟩ (.slice (some ⟨w.heap.size+2,0,none⟩) tn tn)).setCell ⟨w.heap.size,3,none⟩ (.slice (some ⟨b2,0,none⟩) ln ln)).setCell ⟨w.heap.size,4,none⟩ (.slice (some ⟨w4.heap.size,0,none⟩) gn gn)) w4.heap.size (.slice (some ⟨w4.heap.size,0,none⟩) gn gn) s.ah):=o6.cE KB (by omega)
 have BY:Hid (ai (((w6.setCell ⟨w.heap.size,2,none⟩ (.slice (some ⟨w.heap.size+2,0,none⟩) tn tn)).setCell ⟨w.heap.size,3,none⟩ (.slice (some ⟨b2,0,none⟩) ln ln)).setCell ⟨w.heap.size,4,none⟩ (.slice (some ⟨w4.heap.size,0,none⟩) gn gn)) w.heap.size (ae s ⟨⟨some ⟨w.heap.size+2,0,none⟩,tn,tn⟩,⟨some ⟨b2,0,none⟩,ln,ln⟩,⟨some ⟨w4.heap.size,0,none⟩,gn,gn⟩,⟨fa,fn,aq⟩,⟨ra,rn,au⟩⟩)):=(((B6.out.set 2 (by simp) _).set 3 (by simp) _).set 4 (by simp) _)
 have RY:Hid (ai (((w6.setCell ⟨w.heap.size,2,none⟩ (.slice (some ⟨w.heap.size+2,0,none⟩) tn tn)).setCell ⟨w.heap.size,3,none⟩ (.slice (some ⟨b2,0,none⟩) ln ln)).setCell ⟨w.heap.size,4,none⟩ (.slice (some ⟨w4.heap.size,0,none⟩) gn gn)) (w.heap.size+1) eE):=(R0.out.keeps K6).aside KB (by omega)
 have KY:Hid (aa w (((w6.setCell ⟨w.heap.size,2,none⟩ (.slice (some ⟨w.heap.size+2,0,none⟩) tn tn)).setCell ⟨w.heap.size,3,none⟩ (.slice (some ⟨b2,0,none⟩) ln ln)).setCell ⟨w.heap.size,4,none⟩ (.slice (some ⟨w4.heap.size,0,none⟩) gn gn))):=KB.keeps (kZ.trans K6) (Nat.le_refl _)
 have Jz:(((w6.setCell ⟨w.heap.size,2,none⟩ (.slice (some ⟨w.heap.size+2,0,none⟩) tn tn)).setCell ⟨w.heap.size,3,none⟩ (.slice (some ⟨b2,0,none⟩) ln ln)).setCell ⟨w.heap.size,4,none⟩ (.slice (some ⟨w4.heap.size,0,none⟩) gn gn)).heap.size=w6.heap.size:=by simp
 change Exit.then _ _ _ _ (((w6.setCell ⟨w.heap.size,2,none⟩ (.slice (some ⟨w.heap.size+2,0,none⟩) tn tn)).setCell ⟨w.heap.size,3,none⟩ (.slice (some ⟨b2,0,none⟩) ln ln)).setCell ⟨w.heap.size,4,none⟩ (.slice (some ⟨w4.heap.size,0,none⟩) gn gn))
 clear z1 z2 B6 R0 KB o2 o4 o6 k2 k4 K6 hHeld hzd HS
 generalize (((w6.setCell ⟨w.heap.size,2,none⟩ (.slice (some ⟨w.heap.size+2,0,none⟩) tn tn)).setCell ⟨w.heap.size,3,none⟩ (.slice (some ⟨b2,0,none⟩) ln ln)).setCell ⟨w.heap.size,4,none⟩ (.slice (some ⟨w4.heap.size,0,none⟩) gn gn))=Y at *
 go_upto_region 2 with fail
 have cN:=fun w' (k:aa Y w')=>AD fa aq s.ax w' (by rw [q0.out.2.2.2.1];omega) (H0.out.keeps (KY.out.trans k)).lay.f
 rw [q0.out.2.2.2.1] at cN
 have cR:=fun w' (k:aa Y w')=>Jw ra au rn s.trace w' q0.out.2.2.2.2 q1.2.2.2 (H0.out.keeps (KY.out.trans k)).lay.r
 have e0:∀ w',aa Y w'->∀ q,w'.cell? ⟨w.heap.size,q,none⟩=(ae s ⟨⟨some ⟨w.heap.size+2,0,none⟩,tn,tn⟩,⟨some ⟨b2,0,none⟩,ln,ln⟩,⟨some ⟨w4.heap.size,0,none⟩,gn,gn⟩,⟨fa,fn,aq⟩,⟨ra,rn,au⟩⟩)[q]?:=fun w' k=>(BY.out.keeps k).cells
 dsimp only [ae] at e0
 refine AI 7 (S:=(fun w'=>aa Y w')) (by kernel_rfl) ?_ (fun hHeld => ?_)
 ·exact (aa.refl Y).drew
 refine ad.go [0,1,3,4] ?_
 iterate 4 (refine mF (h := ?_);try simp only [ar])
 refine ad.nil ?_
 refine rq (i:=2) (h:=fun K hK => ?_)
 go_simp
 first
  | (go_at_call 128;refine (cN _ (by assumption)).mono ?_;rintro e w7 ⟨rfl,o7,k7⟩;clear cN)
  | (go_at_call 129;refine (cR _ (by assumption)).mono ?_;rintro e w8 ⟨rfl,o8,k8⟩;clear cR)
 try go_wp2_with fail
 refine hK.out _ _ ?_ fun hHeld => ?_
 ·exact aa.trans (by assumption) (by assumption)
 clear hK K
 try simp only [ar]
 refine ad.go [6] ?_
 iterate 1 (refine mF (h := ?_);try simp only [ar])
 refine ad.nil ?_
 refine rq (i:=5) (h:=fun K hK => ?_)
 go_simp
 first
  | (go_at_call 128;refine (cN _ (by assumption)).mono ?_;rintro e w7 ⟨rfl,o7,k7⟩;clear cN)
  | (go_at_call 129;refine (cR _ (by assumption)).mono ?_;rintro e w8 ⟨rfl,o8,k8⟩;clear cR)
 try go_wp2_with fail
 refine hK.out _ _ ?_ fun hHeld => ?_
 ·exact aa.trans (by assumption) (by assumption)
 clear hK K
 try simp only [ar]
 refine ny (i:=7) (h:=fun K hK => ?_)
 have K8:aa Y w8:=(by assumption);have B8:Hid (ai w8 w.heap.size (ae s ⟨⟨some ⟨w.heap.size+2,0,none⟩,tn,tn⟩,⟨some ⟨b2,0,none⟩,ln,ln⟩,⟨some ⟨w4.heap.size,0,none⟩,gn,gn⟩,⟨fa,fn,aq⟩,⟨ra,rn,au⟩⟩)):=BY.out.keeps K8;obtain ⟨_,z1,z2⟩:=B8.out;clear e0
 go_simp
 try go_wp2_with fail
 refine hK.out _ _ ?_
 clear hK K
 try simp only [ar]
 refine ny (i:=8) (h:=fun K hK => ?_)
 go_simp
 try go_wp2_with fail
 refine hK.out _ _ ?_
 clear hK K
 try simp only [ar]
 refine ny (i:=9) (h:=fun K hK => ?_)
 go_simp
 try go_wp2_with fail
 refine hK.out _ _ ?_
 clear hK K
 try simp only [ar]
 refine AJ (by kernel_rfl) ?_
 have AK:Y.drew.heap.size=w6.heap.size:=Jz
 rw [AK] at o7
 have e4:w6.heap.size <= w7.heap.size:=by have:=k7.size;omega
 have e5:=k8.size
 have r2:=(o7.cD _ rfl).2
 have KB:ab w.heap.size w8 ((w8.setCell ⟨w.heap.size,5,none⟩ (.slice (some ⟨w6.heap.size,0,none⟩) fn fn)).setCell ⟨w.heap.size,8,none⟩ (.slice (some ⟨w7.heap.size,0,none⟩) rn rn)):=((ab.refl _ w8).setCell 5 _).setCell 8 _
 have KC:ab w.heap.size Y ((w8.setCell ⟨w.heap.size,5,none⟩ (.slice (some ⟨w6.heap.size,0,none⟩) fn fn)).setCell ⟨w.heap.size,8,none⟩ (.slice (some ⟨w7.heap.size,0,none⟩) rn rn)):=(ab.of K8).trans KB
 have BZ:Hid (ai ((w8.setCell ⟨w.heap.size,5,none⟩ (.slice (some ⟨w6.heap.size,0,none⟩) fn fn)).setCell ⟨w.heap.size,8,none⟩ (.slice (some ⟨w7.heap.size,0,none⟩) rn rn)) w.heap.size (ae s ⟨⟨some ⟨w.heap.size+2,0,none⟩,tn,tn⟩,⟨some ⟨b2,0,none⟩,ln,ln⟩,⟨some ⟨w4.heap.size,0,none⟩,gn,gn⟩,⟨some ⟨w6.heap.size,0,none⟩,fn,fn⟩,⟨some ⟨w7.heap.size,0,none⟩,rn,rn⟩⟩)):=((B8.out.set 5 (by simp) _).set 8 (by simp) _)
 have RZ:Hid (ai ((w8.setCell ⟨w.heap.size,5,none⟩ (.slice (some ⟨w6.heap.size,0,none⟩) fn fn)).setCell ⟨w.heap.size,8,none⟩ (.slice (some ⟨w7.heap.size,0,none⟩) rn rn)) (w.heap.size+1) eE):=RY.out.aside KC (by omega)
 have KZ:aa w ((w8.setCell ⟨w.heap.size,5,none⟩ (.slice (some ⟨w6.heap.size,0,none⟩) fn fn)).setCell ⟨w.heap.size,8,none⟩ (.slice (some ⟨w7.heap.size,0,none⟩) rn rn)):=KC.keeps KY.out (Nat.le_refl _)
 have OS:ay ((w8.setCell ⟨w.heap.size,5,none⟩ (.slice (some ⟨w6.heap.size,0,none⟩) fn fn)).setCell ⟨w.heap.size,8,none⟩ (.slice (some ⟨w7.heap.size,0,none⟩) rn rn)) (w.heap.size+2) ⟨⟨some ⟨w.heap.size+2,0,none⟩,tn,tn⟩,⟨some ⟨b2,0,none⟩,ln,ln⟩,⟨some ⟨w4.heap.size,0,none⟩,gn,gn⟩,⟨some ⟨w6.heap.size,0,none⟩,fn,fn⟩,⟨some ⟨w7.heap.size,0,none⟩,rn,rn⟩⟩ vs s:=by
  refine ⟨O1.out.cE KC (by omega),(O2.out.same fun q hq hq1 hq2=>KC.block q hq2 (by omega)).widen (by omega) (by simp;omega),(O3.out.cE KC (by omega)).base (by omega),((o7.keeps k8).cE KB (by omega)).base (by omega),(o8.cE KB (by omega)).base (by omega),?_⟩
  refine AM (w.heap.size+2) w2.heap.size w4.heap.size w6.heap.size w7.heap.size w8.heap.size (fun q hq => ?_) ?_ (fun q hq => ?_) (fun q hq => ?_) (fun q hq => ?_) (by omega) (by omega) (by omega)
  ·have h1:=(O1.out.cD q hq).1
   have h2:some (w.heap.size+2)=some q:=hq
   have h3:=Option.some.inj h2
   omega
  ·rintro q (hq | ⟨x,hx,hq⟩)
   ·exact ⟨(O2.out.own.cD q hq).1,O2.out.out q hq⟩
   ·obtain ⟨j,hj⟩:=List.mem_iff_getElem?.1 hx
    exact ⟨(O2.out.aG (.inr ⟨x,hx,hq⟩)).1,(O2.out.gj j x q hj hq).1⟩
  ·have:=O3.out.cD q hq
   exact ⟨this.1,by omega⟩
  ·have:=o7.cD q hq
   exact ⟨this.1,by omega⟩
  ·have:=o8.cD q hq
   exact ⟨this.1,by omega⟩
 change Exit.then _ _ _ _ ((w8.setCell ⟨w.heap.size,5,none⟩ (.slice (some ⟨w6.heap.size,0,none⟩) fn fn)).setCell ⟨w.heap.size,8,none⟩ (.slice (some ⟨w7.heap.size,0,none⟩) rn rn))
 clear z1 z2 B8 KB KC o7 o8 k7 k8 K8 hHeld O1 O2 O3 BY RY AK
 generalize ((w8.setCell ⟨w.heap.size,5,none⟩ (.slice (some ⟨w6.heap.size,0,none⟩) fn fn)).setCell ⟨w.heap.size,8,none⟩ (.slice (some ⟨w7.heap.size,0,none⟩) rn rn))=U at *
 have y1:=BZ.out.cells
 obtain ⟨_,y3,y4⟩:=RZ.out
 dsimp only [ae] at y1
 go_wp2
 have D:=RZ.out.putC (ae s ⟨⟨some ⟨w.heap.size+2,0,none⟩,tn,tn⟩,⟨some ⟨b2,0,none⟩,ln,ln⟩,⟨some ⟨w4.heap.size,0,none⟩,gn,gn⟩,⟨some ⟨w6.heap.size,0,none⟩,fn,fn⟩,⟨some ⟨w7.heap.size,0,none⟩,rn,rn⟩⟩).toList rfl
 have KD:=aa.putC (b:=w.heap.size+1) (by omega) (ae s ⟨⟨some ⟨w.heap.size+2,0,none⟩,tn,tn⟩,⟨some ⟨b2,0,none⟩,ln,ln⟩,⟨some ⟨w4.heap.size,0,none⟩,gn,gn⟩,⟨some ⟨w6.heap.size,0,none⟩,fn,fn⟩,⟨some ⟨w7.heap.size,0,none⟩,rn,rn⟩⟩).toList 0 KZ
 have OD:ay (putC U (w.heap.size+1) 0 (ae s ⟨⟨some ⟨w.heap.size+2,0,none⟩,tn,tn⟩,⟨some ⟨b2,0,none⟩,ln,ln⟩,⟨some ⟨w4.heap.size,0,none⟩,gn,gn⟩,⟨some ⟨w6.heap.size,0,none⟩,fn,fn⟩,⟨some ⟨w7.heap.size,0,none⟩,rn,rn⟩⟩).toList) w.heap.size ⟨⟨some ⟨w.heap.size+2,0,none⟩,tn,tn⟩,⟨some ⟨b2,0,none⟩,ln,ln⟩,⟨some ⟨w4.heap.size,0,none⟩,gn,gn⟩,⟨some ⟨w6.heap.size,0,none⟩,fn,fn⟩,⟨some ⟨w7.heap.size,0,none⟩,rn,rn⟩⟩ vs s:=(ay.aU (c:=w.heap.size+1) (fun i hi=>by have:=(OS.aG hi).1;omega) _ _ OS).base (by omega)
 change bodyPost _ _ _ _ _ (putC U (w.heap.size+1) 0 (ae s ⟨⟨some ⟨w.heap.size+2,0,none⟩,tn,tn⟩,⟨some ⟨b2,0,none⟩,ln,ln⟩,⟨some ⟨w4.heap.size,0,none⟩,gn,gn⟩,⟨some ⟨w6.heap.size,0,none⟩,fn,fn⟩,⟨some ⟨w7.heap.size,0,none⟩,rn,rn⟩⟩).toList)
 generalize putC U (w.heap.size+1) 0 (ae s ⟨⟨some ⟨w.heap.size+2,0,none⟩,tn,tn⟩,⟨some ⟨b2,0,none⟩,ln,ln⟩,⟨some ⟨w4.heap.size,0,none⟩,gn,gn⟩,⟨some ⟨w6.heap.size,0,none⟩,fn,fn⟩,⟨some ⟨w7.heap.size,0,none⟩,rn,rn⟩⟩).toList=Q at D KD OD ⊢
 exact bodyPost_ret (v := .agg (ae s ⟨⟨some ⟨w.heap.size+2,0,none⟩,tn,tn⟩,⟨some ⟨b2,0,none⟩,ln,ln⟩,⟨some ⟨w4.heap.size,0,none⟩,gn,gn⟩,⟨some ⟨w6.heap.size,0,none⟩,fn,fn⟩,⟨some ⟨w7.heap.size,0,none⟩,rn,rn⟩⟩)) (by simp [results,Tryz.results77,go_sem,D.cells]) rfl ⟨⟨⟨some ⟨w.heap.size+2,0,none⟩,tn,tn⟩,⟨some ⟨b2,0,none⟩,ln,ln⟩,⟨some ⟨w4.heap.size,0,none⟩,gn,gn⟩,⟨some ⟨w6.heap.size,0,none⟩,fn,fn⟩,⟨some ⟨w7.heap.size,0,none⟩,rn,rn⟩⟩,vs,rfl,OD,KD,_,rfl⟩
end Go.Proofs.YteagpjlgjfaclaaGreatDoor
