/-
  The program's copy of a system.
-/
import Derived.Test.YteagpjlgjfaclaaGreatDoorSysCopy
import Derived.Test.YteagpjlgjfaclaaGreatDoorCallMove
import Derived.Test.YteagpjlgjfaclaaGreatDoorFairList
import Derived.Test.YteagpjlgjfaclaaGreatDoorFar
namespace Go.Proofs.YteagpjlgjfaclaaGreatDoor
set_option maxRecDepth 100000
open Go.RowKit
attribute [local go_sem] Keeps.refl Keeps.alloc Keeps.drew Keeps.drewN
set_option maxHeartbeats 1000000 in
theorem qjA (a:Option Addr) (cap n:Nat) (rs:List Tsk) (w:World) (hn:rs.length=n) (hl:n <= 1048576) (hs:Lies 14 tc w a rs) :
  Calls Tryz.prog 125 #[.slice a n cap] w fun e w'=>e = .returned (.slice (some ⟨w.heap.size,0,none⟩) n n) /\ Own 43 14 tc w' w.heap.size (.slice (some ⟨w.heap.size,0,none⟩) n n) rs /\ Keeps w w':=by
 have Hn:Hid (rs.length=n):=hn
 clear hn
 obtain ⟨C,hC,hmk⟩:=qdH (P:=Tryz.prog) 24 43 (tk Tsk.zero) 14 112 Tryz.underlying24 (by kernel_rfl) n (by omega) (by omega)
 have hr0:=Row.new w C 43
 have hs0:=hs.keeps ((Keeps.refl w).alloc (.cells C 43))
 have HC:Hid (C.size=n*14):=hC
 clear hC
 go_enter Tryz.func125,Tryz.ntmps125
 go_upto_region 2 with fail
 have kW:=blkK w (.cells C 43)
 clear hmk hs
 generalize w.alloc (.cells C 43)=W at *
 have hrun:∀ ty,(Builtin.copy_ #[24,24] ty #[.slice (some ⟨w.heap.size,0,none⟩) n n,.slice a n cap]).run Tryz.prog W = .ok (goInt n) (W.setRow w.heap.size (setL C 0 (qae tc rs))):=fun ty=>by
  have:=qdo (P:=Tryz.prog) tc 14 qao (by decide) qbs W 24 24 ty 43 (some ⟨w.heap.size,0,none⟩) a n n n cap C 43 w.heap.size 0 rs Tryz.underlying24 (by kernel_rfl) hr0 (by rw [Hn.out];simp) (fun _=>rfl) hs0 (by rw [Hn.out,HC.out];omega)
  rwa [Hn.out] at this
 have R1:Hid (Row (W.setRow w.heap.size (setL C 0 (qae tc rs))) w.heap.size 43 (qae tc rs).toArray):=by
  have e:=qdQ (L:=qae tc rs) (C:=C) (by rw [qa7 qao,Hn.out,HC.out])
  have:=hr0.setRow (setL C 0 (qae tc rs))
  show Row _ _ _ _
  rw [<- e];exact this
 have K1:Hid (Keeps w (W.setRow w.heap.size (setL C 0 (qae tc rs)))):=kW.setRow (Nat.le_refl _) _
 clear hr0 hs0 kW
 generalize W.setRow w.heap.size (setL C 0 (qae tc rs))=X at *
 go_wp2
 go_ret
 refine ⟨rfl,?_,K1.out⟩
 have:=R1.out.own (sz:=14) qao (base:=w.heap.size) (Nat.le_refl _) (by rw [Hn.out];unfold maxLen;omega)
 rwa [Hn.out] at this
set_option maxHeartbeats 1000000 in
theorem qjB (a:Option Addr) (cap n:Nat) (rs:List Gh) (w:World) (hn:rs.length=n) (hl:n <= 1048576) (hs:Lies 4 ghc w a rs) :
  Calls Tryz.prog 127 #[.slice a n cap] w fun e w'=>e = .returned (.slice (some ⟨w.heap.size,0,none⟩) n n) /\ Own 87 4 ghc w' w.heap.size (.slice (some ⟨w.heap.size,0,none⟩) n n) rs /\ Keeps w w':=by
 have Hn:Hid (rs.length=n):=hn
 clear hn
 obtain ⟨C,hC,hmk⟩:=qdH (P:=Tryz.prog) 26 87 (.agg (ghc Gh.zero)) 4 32 Tryz.underlying26 (by kernel_rfl) n (by omega) (by omega)
 have hr0:=Row.new w C 87
 have hs0:=hs.keeps ((Keeps.refl w).alloc (.cells C 87))
 have HC:Hid (C.size=n*4):=hC
 clear hC
 go_enter Tryz.func127,Tryz.ntmps127
 go_upto_region 2 with fail
 have kW:=blkK w (.cells C 87)
 clear hmk hs
 generalize w.alloc (.cells C 87)=W at *
 have hrun:∀ ty,(Builtin.copy_ #[26,26] ty #[.slice (some ⟨w.heap.size,0,none⟩) n n,.slice a n cap]).run Tryz.prog W = .ok (goInt n) (W.setRow w.heap.size (setL C 0 (qae ghc rs))):=fun ty=>by
  have:=qdo (P:=Tryz.prog) ghc 4 qb5 (by decide) qel W 26 26 ty 87 (some ⟨w.heap.size,0,none⟩) a n n n cap C 87 w.heap.size 0 rs Tryz.underlying26 (by kernel_rfl) hr0 (by rw [Hn.out];simp) (fun _=>rfl) hs0 (by rw [Hn.out,HC.out];omega)
  rwa [Hn.out] at this
 have R1:Hid (Row (W.setRow w.heap.size (setL C 0 (qae ghc rs))) w.heap.size 87 (qae ghc rs).toArray):=by
  have e:=qdQ (L:=qae ghc rs) (C:=C) (by rw [qa7 qb5,Hn.out,HC.out])
  have:=hr0.setRow (setL C 0 (qae ghc rs))
  show Row _ _ _ _
  rw [<- e];exact this
 have K1:Hid (Keeps w (W.setRow w.heap.size (setL C 0 (qae ghc rs)))):=kW.setRow (Nat.le_refl _) _
 clear hr0 hs0 kW
 generalize W.setRow w.heap.size (setL C 0 (qae ghc rs))=X at *
 go_wp2
 go_ret
 refine ⟨rfl,?_,K1.out⟩
 have:=R1.out.own (sz:=4) qb5 (base:=w.heap.size) (Nat.le_refl _) (by rw [Hn.out];unfold maxLen;omega)
 rwa [Hn.out] at this
set_option maxHeartbeats 1000000 in
theorem qjC (a:Option Addr) (cap n:Nat) (rs:List Tn) (w:World) (hn:rs.length=n) (hl:n <= 1048576) (hs:Lies 3 tnc w a rs) :
  Calls Tryz.prog 129 #[.slice a n cap] w fun e w'=>e = .returned (.slice (some ⟨w.heap.size,0,none⟩) n n) /\ Own 104 3 tnc w' w.heap.size (.slice (some ⟨w.heap.size,0,none⟩) n n) rs /\ Keeps w w':=by
 have Hn:Hid (rs.length=n):=hn
 clear hn
 obtain ⟨C,hC,hmk⟩:=qdH (P:=Tryz.prog) 28 104 (.agg (tnc Tn.zero)) 3 24 Tryz.underlying28 (by kernel_rfl) n (by omega) (by omega)
 have hr0:=Row.new w C 104
 have hs0:=hs.keeps ((Keeps.refl w).alloc (.cells C 104))
 have HC:Hid (C.size=n*3):=hC
 clear hC
 go_enter Tryz.func129,Tryz.ntmps129
 go_upto_region 2 with fail
 have kW:=blkK w (.cells C 104)
 clear hmk hs
 generalize w.alloc (.cells C 104)=W at *
 have hrun:∀ ty,(Builtin.copy_ #[28,28] ty #[.slice (some ⟨w.heap.size,0,none⟩) n n,.slice a n cap]).run Tryz.prog W = .ok (goInt n) (W.setRow w.heap.size (setL C 0 (qae tnc rs))):=fun ty=>by
  have:=qdo (P:=Tryz.prog) tnc 3 qbO (by decide) qdT W 28 28 ty 104 (some ⟨w.heap.size,0,none⟩) a n n n cap C 104 w.heap.size 0 rs Tryz.underlying28 (by kernel_rfl) hr0 (by rw [Hn.out];simp) (fun _=>rfl) hs0 (by rw [Hn.out,HC.out];omega)
  rwa [Hn.out] at this
 have R1:Hid (Row (W.setRow w.heap.size (setL C 0 (qae tnc rs))) w.heap.size 104 (qae tnc rs).toArray):=by
  have e:=qdQ (L:=qae tnc rs) (C:=C) (by rw [qa7 qbO,Hn.out,HC.out])
  have:=hr0.setRow (setL C 0 (qae tnc rs))
  show Row _ _ _ _
  rw [<- e];exact this
 have K1:Hid (Keeps w (W.setRow w.heap.size (setL C 0 (qae tnc rs)))):=kW.setRow (Nat.le_refl _) _
 clear hr0 hs0 kW
 generalize W.setRow w.heap.size (setL C 0 (qae tnc rs))=X at *
 go_wp2
 go_ret
 refine ⟨rfl,?_,K1.out⟩
 have:=R1.out.own (sz:=3) qbO (base:=w.heap.size) (Nat.le_refl _) (by rw [Hn.out];unfold maxLen;omega)
 rwa [Hn.out] at this
def qjD (s:Sy) (w:World) (e:Ending) (w':World):Prop:=∃ v vs,e = .returned (.agg (syc s v)) /\ OwnS w' w.heap.size v vs s /\ Keeps w w' /\ ∃ tb,v.t.a=some ⟨tb,0,none⟩
abbrev zc0:Array Value:=#[.int .i64 0,.int .i64 0,.slice none 0 0,.slice none 0 0,.slice none 0 0,.slice none 0 0,.int .i64 0,.int .i64 0,.slice none 0 0]
set_option maxHeartbeats 8000000 in
theorem qgk (v:Sv) (s:Sy) (w:World) (h:SysOn w v s) (hsz:qai s <= 1048576) :
  Calls Tryz.prog 77 #[.agg (syc s v)] w (qjD s w):=by
 obtain ⟨⟨ta,tn,tcap⟩,⟨la,ln,lcap⟩,⟨ga,gn,gcap⟩,⟨fa,fn,fcap⟩,⟨ra,rn,rcap⟩⟩:=v
 have kZ:Keeps w ((w.alloc (.cells (syc s ⟨⟨ta,tn,tcap⟩,⟨la,ln,lcap⟩,⟨ga,gn,gcap⟩,⟨fa,fn,fcap⟩,⟨ra,rn,rcap⟩⟩) 30)).alloc (.cells zc0 30)):=((Keeps.refl w).alloc _).alloc _
 have B0:Hid (Blk ((w.alloc (.cells (syc s ⟨⟨ta,tn,tcap⟩,⟨la,ln,lcap⟩,⟨ga,gn,gcap⟩,⟨fa,fn,fcap⟩,⟨ra,rn,rcap⟩⟩) 30)).alloc (.cells zc0 30)) w.heap.size (syc s ⟨⟨ta,tn,tcap⟩,⟨la,ln,lcap⟩,⟨ga,gn,gcap⟩,⟨fa,fn,fcap⟩,⟨ra,rn,rcap⟩⟩)):=(Blk.new _ _ _).alloc _
 have R0:Hid (Blk ((w.alloc (.cells (syc s ⟨⟨ta,tn,tcap⟩,⟨la,ln,lcap⟩,⟨ga,gn,gcap⟩,⟨fa,fn,fcap⟩,⟨ra,rn,rcap⟩⟩) 30)).alloc (.cells zc0 30)) (w.heap.size+1) zc0):=by
  have:=Blk.new (w.alloc (.cells (syc s ⟨⟨ta,tn,tcap⟩,⟨la,ln,lcap⟩,⟨ga,gn,gcap⟩,⟨fa,fn,fcap⟩,⟨ra,rn,rcap⟩⟩) 30)) zc0 30
  show Blk _ _ _
  simpa using this
 have HS:Hid (SysOn ((w.alloc (.cells (syc s ⟨⟨ta,tn,tcap⟩,⟨la,ln,lcap⟩,⟨ga,gn,gcap⟩,⟨fa,fn,fcap⟩,⟨ra,rn,rcap⟩⟩) 30)).alloc (.cells zc0 30)) ⟨⟨ta,tn,tcap⟩,⟨la,ln,lcap⟩,⟨ga,gn,gcap⟩,⟨fa,fn,fcap⟩,⟨ra,rn,rcap⟩⟩ s):=h.keeps kZ
 have hzs:((w.alloc (.cells (syc s ⟨⟨ta,tn,tcap⟩,⟨la,ln,lcap⟩,⟨ga,gn,gcap⟩,⟨fa,fn,fcap⟩,⟨ra,rn,rcap⟩⟩) 30)).alloc (.cells zc0 30)).heap.size=w.heap.size+2:=by simp
 have HL:=h.lay
 obtain ⟨tl,-,-,ll,-,-,gl,-,-,fl,-,-,rl,-,-⟩:=HL
 dsimp only at tl ll gl fl rl
 have q0:Hid (s.tasks.length=tn /\ s.locks.length=ln /\ s.ghosts.length=gn /\ s.floors.length=fn /\ s.trace.length=rn):=⟨tl,ll,gl,fl,rl⟩
 have q1:tn <= 1048576 /\ gn <= 1048576 /\ fn <= 1048576 /\ rn <= 1048576:=by unfold qai at hsz;omega
 have q2:Hid (qaj s.locks <= 2097152):=by show _ <= _;unfold qai at hsz;omega
 have H0:Hid (SysOn w ⟨⟨ta,tn,tcap⟩,⟨la,ln,lcap⟩,⟨ga,gn,gcap⟩,⟨fa,fn,fcap⟩,⟨ra,rn,rcap⟩⟩ s):=h
 clear h tl ll gl fl rl
 go_enter Tryz.func77,Tryz.ntmps77
 go_upto_region 1 with fail
 change Code.wp _ _ _ _ ((w.alloc (.cells (syc s ⟨⟨ta,tn,tcap⟩,⟨la,ln,lcap⟩,⟨ga,gn,gcap⟩,⟨fa,fn,fcap⟩,⟨ra,rn,rcap⟩⟩) 30)).alloc (.cells zc0 30))
 generalize ((w.alloc (.cells (syc s ⟨⟨ta,tn,tcap⟩,⟨la,ln,lcap⟩,⟨ga,gn,gcap⟩,⟨fa,fn,fcap⟩,⟨ra,rn,rcap⟩⟩) 30)).alloc (.cells zc0 30))=Z at *
 have cT:=fun w' (k:Keeps Z w')=>qjA ta tcap tn s.tasks w' q0.out.1 q1.1 (HS.out.keeps k).lay.t
 have cL:=fun w' (k:Keeps Z w')=>qjV la lcap s.locks w' q2.out (HS.out.keeps k).lay.l
 rw [q0.out.2.1] at cL
 have cG:=fun w' (k:Keeps Z w')=>qjB ga gcap gn s.ghosts w' q0.out.2.2.1 q1.2.1 (HS.out.keeps k).lay.g
 have e0:∀ w',Keeps Z w'->∀ q,w'.cell? ⟨w.heap.size,q,none⟩=(syc s ⟨⟨ta,tn,tcap⟩,⟨la,ln,lcap⟩,⟨ga,gn,gcap⟩,⟨fa,fn,fcap⟩,⟨ra,rn,rcap⟩⟩)[q]?:=fun w' k=>(B0.out.keeps k).cells
 dsimp only [syc] at e0
 refine qge 10 (S:=(fun w'=>Keeps Z w')) (by kernel_rfl) ?_ (fun hHeld => ?_)
 ·exact (Keeps.refl Z).drew
 refine Plan.go [0,1,3,4,6,7] ?_
 iterate 6 (refine farL (by simp only [qab];rfl) (by kernel_rfl) (by exact fun _ _ _ h=>h) (by rfl) (by assumption) (fun w _=>by go_simp;try (with_reducible rfl)) ?_;try simp only [qaa])
 refine Plan.nil ?_
 refine qd0 (i:=2) (by kernel_rfl) (by simp only [qab];rfl) (fun K hK => ?_)
 go_simp
 first
  | (go_at_call 125;refine (cT _ (by assumption)).mono ?_;rintro e w2 ⟨rfl,o2,k2⟩;clear cT)
  | (go_at_call 126;refine (cL _ (by assumption)).mono ?_;rintro e w4 ⟨b2,vs,rfl,o4,k4⟩;clear cL)
  | (go_at_call 127;refine (cG _ (by assumption)).mono ?_;rintro e w6 ⟨rfl,o6,k6⟩;clear cG)
 try go_wp2_with fail
 refine hK.out _ _ ?_ (fun hHeld => ?_)
 ·exact Keeps.trans (by assumption) (by assumption)
 clear hK K
 try simp only [qaa]
 refine Plan.go [9] ?_
 iterate 1 (refine farL (by simp only [qab];rfl) (by kernel_rfl) (by exact fun _ _ _ h=>h) (by rfl) (by assumption) (fun w _=>by go_simp;try (with_reducible rfl)) ?_;try simp only [qaa])
 refine Plan.nil ?_
 refine qd0 (i:=5) (by kernel_rfl) (by simp only [qab];rfl) (fun K hK => ?_)
 go_simp
 first
  | (go_at_call 125;refine (cT _ (by assumption)).mono ?_;rintro e w2 ⟨rfl,o2,k2⟩;clear cT)
  | (go_at_call 126;refine (cL _ (by assumption)).mono ?_;rintro e w4 ⟨b2,vs,rfl,o4,k4⟩;clear cL)
  | (go_at_call 127;refine (cG _ (by assumption)).mono ?_;rintro e w6 ⟨rfl,o6,k6⟩;clear cG)
 try go_wp2_with fail
 refine hK.out _ _ ?_ (fun hHeld => ?_)
 ·exact Keeps.trans (by assumption) (by assumption)
 clear hK K
 try simp only [qaa]
 refine qd0 (i:=8) (by kernel_rfl) (by simp only [qab];rfl) (fun K hK => ?_)
 go_simp
 first
  | (go_at_call 125;refine (cT _ (by assumption)).mono ?_;rintro e w2 ⟨rfl,o2,k2⟩;clear cT)
  | (go_at_call 126;refine (cL _ (by assumption)).mono ?_;rintro e w4 ⟨b2,vs,rfl,o4,k4⟩;clear cL)
  | (go_at_call 127;refine (cG _ (by assumption)).mono ?_;rintro e w6 ⟨rfl,o6,k6⟩;clear cG)
 try go_wp2_with fail
 refine hK.out _ _ ?_ (fun hHeld => ?_)
 ·exact Keeps.trans (by assumption) (by assumption)
 clear hK K
 try simp only [qaa]
 refine qc2 (i:=10) (by kernel_rfl) (by decide) (by simp only [qab];rfl) (fun K hK => ?_)
 have K6:Keeps Z w6:=(by assumption);have B6:Hid (Blk w6 w.heap.size (syc s ⟨⟨ta,tn,tcap⟩,⟨la,ln,lcap⟩,⟨ga,gn,gcap⟩,⟨fa,fn,fcap⟩,⟨ra,rn,rcap⟩⟩)):=B0.out.keeps K6;obtain ⟨_,z1,z2⟩:=B6.out;clear e0
 go_simp
 try go_wp2_with fail
 refine hK.out _ _ ?_
 clear hK K
 try simp only [qaa]
 refine qc2 (i:=11) (by kernel_rfl) (by decide) (by simp only [qab];rfl) (fun K hK => ?_)
 go_simp
 try go_wp2_with fail
 refine hK.out _ _ ?_
 clear hK K
 try simp only [qaa]
 refine qc2 (i:=12) (by kernel_rfl) (by decide) (by simp only [qab];rfl) (fun K hK => ?_)
 go_simp
 try go_wp2_with fail
 refine hK.out _ _ ?_
 clear hK K
 try simp only [qaa]
 refine qc2 (i:=13) (by kernel_rfl) (by decide) (by simp only [qab];rfl) (fun K hK => ?_)
 go_simp
 try go_wp2_with fail
 refine hK.out _ _ ?_
 clear hK K
 try simp only [qaa]
 refine qc2 (i:=14) (by kernel_rfl) (by decide) (by simp only [qab];rfl) (fun K hK => ?_)
 go_simp
 try go_wp2_with fail
 refine hK.out _ _ ?_
 clear hK K
 try simp only [qaa]
 refine qgd (by kernel_rfl) ?_
 have hzd:Z.drew.heap.size=w.heap.size+2:=hzs
 rw [hzd] at o2
 have e1:w.heap.size+2 <= w2.heap.size:=by have:=k2.size;omega
 have e2:=k4.size
 have e3:=k6.size
 have r1:=(o2.ltb _ rfl).2
 have KB:KeepsBut w.heap.size w6 (((w6.setCell ⟨w.heap.size,2,none⟩ (.slice (some ⟨w.heap.size+2,0,none⟩) tn tn)).setCell ⟨w.heap.size,3,none⟩ (.slice (some ⟨b2,0,none⟩) ln ln)).setCell ⟨w.heap.size,4,none⟩ (.slice (some ⟨w4.heap.size,0,none⟩) gn gn)):=(((KeepsBut.refl _ w6).setCell 2 _).setCell 3 _).setCell 4 _
 have O1:Hid (Own 43 14 tc (((w6.setCell ⟨w.heap.size,2,none⟩ (.slice (some ⟨w.heap.size+2,0,none⟩) tn tn)).setCell ⟨w.heap.size,3,none⟩ (.slice (some ⟨b2,0,none⟩) ln ln)).setCell ⟨w.heap.size,4,none⟩ (.slice (some ⟨w4.heap.size,0,none⟩) gn gn)) (w.heap.size+2) (.slice (some ⟨w.heap.size+2,0,none⟩) tn tn) s.tasks):=((o2.keeps k4).keeps k6).butG KB (by omega)
 have O2:Hid (Mine (((w6.setCell ⟨w.heap.size,2,none⟩ (.slice (some ⟨w.heap.size+2,0,none⟩) tn tn)).setCell ⟨w.heap.size,3,none⟩ (.slice (some ⟨b2,0,none⟩) ln ln)).setCell ⟨w.heap.size,4,none⟩ (.slice (some ⟨w4.heap.size,0,none⟩) gn gn)) w2.heap.size w4.heap.size (.slice (some ⟨b2,0,none⟩) ln ln) vs s.locks):=(o4.keeps k6).same fun q hq hq1 hq2=>KB.block q hq2 (by omega)
 have O3:Hid (Own 87 4 ghc (((w6.setCell ⟨w.heap.size,2,none⟩ (.slice (some ⟨w.heap.size+2,0,none⟩) tn tn)).setCell ⟨w.heap.size,3,none⟩ (.slice (some ⟨b2,0,none⟩) ln ln)).setCell ⟨w.heap.size,4,none⟩ (.slice (some ⟨w4.heap.size,0,none⟩) gn gn)) w4.heap.size (.slice (some ⟨w4.heap.size,0,none⟩) gn gn) s.ghosts):=o6.butG KB (by omega)
 have BY:Hid (Blk (((w6.setCell ⟨w.heap.size,2,none⟩ (.slice (some ⟨w.heap.size+2,0,none⟩) tn tn)).setCell ⟨w.heap.size,3,none⟩ (.slice (some ⟨b2,0,none⟩) ln ln)).setCell ⟨w.heap.size,4,none⟩ (.slice (some ⟨w4.heap.size,0,none⟩) gn gn)) w.heap.size (syc s ⟨⟨some ⟨w.heap.size+2,0,none⟩,tn,tn⟩,⟨some ⟨b2,0,none⟩,ln,ln⟩,⟨some ⟨w4.heap.size,0,none⟩,gn,gn⟩,⟨fa,fn,fcap⟩,⟨ra,rn,rcap⟩⟩)):=(((B6.out.set 2 (by simp) _).set 3 (by simp) _).set 4 (by simp) _)
 have RY:Hid (Blk (((w6.setCell ⟨w.heap.size,2,none⟩ (.slice (some ⟨w.heap.size+2,0,none⟩) tn tn)).setCell ⟨w.heap.size,3,none⟩ (.slice (some ⟨b2,0,none⟩) ln ln)).setCell ⟨w.heap.size,4,none⟩ (.slice (some ⟨w4.heap.size,0,none⟩) gn gn)) (w.heap.size+1) zc0):=(R0.out.keeps K6).aside KB (by omega)
 have KY:Hid (Keeps w (((w6.setCell ⟨w.heap.size,2,none⟩ (.slice (some ⟨w.heap.size+2,0,none⟩) tn tn)).setCell ⟨w.heap.size,3,none⟩ (.slice (some ⟨b2,0,none⟩) ln ln)).setCell ⟨w.heap.size,4,none⟩ (.slice (some ⟨w4.heap.size,0,none⟩) gn gn))):=KB.keeps (kZ.trans K6) (Nat.le_refl _)
 have hyz:(((w6.setCell ⟨w.heap.size,2,none⟩ (.slice (some ⟨w.heap.size+2,0,none⟩) tn tn)).setCell ⟨w.heap.size,3,none⟩ (.slice (some ⟨b2,0,none⟩) ln ln)).setCell ⟨w.heap.size,4,none⟩ (.slice (some ⟨w4.heap.size,0,none⟩) gn gn)).heap.size=w6.heap.size:=by simp
 change Exit.then _ _ _ _ (((w6.setCell ⟨w.heap.size,2,none⟩ (.slice (some ⟨w.heap.size+2,0,none⟩) tn tn)).setCell ⟨w.heap.size,3,none⟩ (.slice (some ⟨b2,0,none⟩) ln ln)).setCell ⟨w.heap.size,4,none⟩ (.slice (some ⟨w4.heap.size,0,none⟩) gn gn))
 clear z1 z2 B6 R0 KB o2 o4 o6 k2 k4 K6 hHeld hzd HS
 generalize (((w6.setCell ⟨w.heap.size,2,none⟩ (.slice (some ⟨w.heap.size+2,0,none⟩) tn tn)).setCell ⟨w.heap.size,3,none⟩ (.slice (some ⟨b2,0,none⟩) ln ln)).setCell ⟨w.heap.size,4,none⟩ (.slice (some ⟨w4.heap.size,0,none⟩) gn gn))=Y at *
 go_upto_region 2 with fail
 have cN:=fun w' (k:Keeps Y w')=>qgn fa fcap s.floors w' (by rw [q0.out.2.2.2.1];omega) (H0.out.keeps (KY.out.trans k)).lay.f
 rw [q0.out.2.2.2.1] at cN
 have cR:=fun w' (k:Keeps Y w')=>qjC ra rcap rn s.trace w' q0.out.2.2.2.2 q1.2.2.2 (H0.out.keeps (KY.out.trans k)).lay.r
 have e0:∀ w',Keeps Y w'->∀ q,w'.cell? ⟨w.heap.size,q,none⟩=(syc s ⟨⟨some ⟨w.heap.size+2,0,none⟩,tn,tn⟩,⟨some ⟨b2,0,none⟩,ln,ln⟩,⟨some ⟨w4.heap.size,0,none⟩,gn,gn⟩,⟨fa,fn,fcap⟩,⟨ra,rn,rcap⟩⟩)[q]?:=fun w' k=>(BY.out.keeps k).cells
 dsimp only [syc] at e0
 refine qge 7 (S:=(fun w'=>Keeps Y w')) (by kernel_rfl) ?_ (fun hHeld => ?_)
 ·exact (Keeps.refl Y).drew
 refine Plan.go [0,1,3,4] ?_
 iterate 4 (refine farL (by simp only [qab];rfl) (by kernel_rfl) (by exact fun _ _ _ h=>h) (by rfl) (by assumption) (fun w _=>by go_simp;try (with_reducible rfl)) ?_;try simp only [qaa])
 refine Plan.nil ?_
 refine qd0 (i:=2) (by kernel_rfl) (by simp only [qab];rfl) (fun K hK => ?_)
 go_simp
 first
  | (go_at_call 128;refine (cN _ (by assumption)).mono ?_;rintro e w7 ⟨rfl,o7,k7⟩;clear cN)
  | (go_at_call 129;refine (cR _ (by assumption)).mono ?_;rintro e w8 ⟨rfl,o8,k8⟩;clear cR)
 try go_wp2_with fail
 refine hK.out _ _ ?_ (fun hHeld => ?_)
 ·exact Keeps.trans (by assumption) (by assumption)
 clear hK K
 try simp only [qaa]
 refine Plan.go [6] ?_
 iterate 1 (refine farL (by simp only [qab];rfl) (by kernel_rfl) (by exact fun _ _ _ h=>h) (by rfl) (by assumption) (fun w _=>by go_simp;try (with_reducible rfl)) ?_;try simp only [qaa])
 refine Plan.nil ?_
 refine qd0 (i:=5) (by kernel_rfl) (by simp only [qab];rfl) (fun K hK => ?_)
 go_simp
 first
  | (go_at_call 128;refine (cN _ (by assumption)).mono ?_;rintro e w7 ⟨rfl,o7,k7⟩;clear cN)
  | (go_at_call 129;refine (cR _ (by assumption)).mono ?_;rintro e w8 ⟨rfl,o8,k8⟩;clear cR)
 try go_wp2_with fail
 refine hK.out _ _ ?_ (fun hHeld => ?_)
 ·exact Keeps.trans (by assumption) (by assumption)
 clear hK K
 try simp only [qaa]
 refine qc2 (i:=7) (by kernel_rfl) (by decide) (by simp only [qab];rfl) (fun K hK => ?_)
 have K8:Keeps Y w8:=(by assumption);have B8:Hid (Blk w8 w.heap.size (syc s ⟨⟨some ⟨w.heap.size+2,0,none⟩,tn,tn⟩,⟨some ⟨b2,0,none⟩,ln,ln⟩,⟨some ⟨w4.heap.size,0,none⟩,gn,gn⟩,⟨fa,fn,fcap⟩,⟨ra,rn,rcap⟩⟩)):=BY.out.keeps K8;obtain ⟨_,z1,z2⟩:=B8.out;clear e0
 go_simp
 try go_wp2_with fail
 refine hK.out _ _ ?_
 clear hK K
 try simp only [qaa]
 refine qc2 (i:=8) (by kernel_rfl) (by decide) (by simp only [qab];rfl) (fun K hK => ?_)
 go_simp
 try go_wp2_with fail
 refine hK.out _ _ ?_
 clear hK K
 try simp only [qaa]
 refine qc2 (i:=9) (by kernel_rfl) (by decide) (by simp only [qab];rfl) (fun K hK => ?_)
 go_simp
 try go_wp2_with fail
 refine hK.out _ _ ?_
 clear hK K
 try simp only [qaa]
 refine qgd (by kernel_rfl) ?_
 have hyd:Y.drew.heap.size=w6.heap.size:=hyz
 rw [hyd] at o7
 have e4:w6.heap.size <= w7.heap.size:=by have:=k7.size;omega
 have e5:=k8.size
 have r2:=(o7.ltb _ rfl).2
 have KB:KeepsBut w.heap.size w8 ((w8.setCell ⟨w.heap.size,5,none⟩ (.slice (some ⟨w6.heap.size,0,none⟩) fn fn)).setCell ⟨w.heap.size,8,none⟩ (.slice (some ⟨w7.heap.size,0,none⟩) rn rn)):=((KeepsBut.refl _ w8).setCell 5 _).setCell 8 _
 have KC:KeepsBut w.heap.size Y ((w8.setCell ⟨w.heap.size,5,none⟩ (.slice (some ⟨w6.heap.size,0,none⟩) fn fn)).setCell ⟨w.heap.size,8,none⟩ (.slice (some ⟨w7.heap.size,0,none⟩) rn rn)):=(KeepsBut.of K8).trans KB
 have BZ:Hid (Blk ((w8.setCell ⟨w.heap.size,5,none⟩ (.slice (some ⟨w6.heap.size,0,none⟩) fn fn)).setCell ⟨w.heap.size,8,none⟩ (.slice (some ⟨w7.heap.size,0,none⟩) rn rn)) w.heap.size (syc s ⟨⟨some ⟨w.heap.size+2,0,none⟩,tn,tn⟩,⟨some ⟨b2,0,none⟩,ln,ln⟩,⟨some ⟨w4.heap.size,0,none⟩,gn,gn⟩,⟨some ⟨w6.heap.size,0,none⟩,fn,fn⟩,⟨some ⟨w7.heap.size,0,none⟩,rn,rn⟩⟩)):=((B8.out.set 5 (by simp) _).set 8 (by simp) _)
 have RZ:Hid (Blk ((w8.setCell ⟨w.heap.size,5,none⟩ (.slice (some ⟨w6.heap.size,0,none⟩) fn fn)).setCell ⟨w.heap.size,8,none⟩ (.slice (some ⟨w7.heap.size,0,none⟩) rn rn)) (w.heap.size+1) zc0):=RY.out.aside KC (by omega)
 have KZ:Keeps w ((w8.setCell ⟨w.heap.size,5,none⟩ (.slice (some ⟨w6.heap.size,0,none⟩) fn fn)).setCell ⟨w.heap.size,8,none⟩ (.slice (some ⟨w7.heap.size,0,none⟩) rn rn)):=KC.keeps KY.out (Nat.le_refl _)
 have OS:OwnS ((w8.setCell ⟨w.heap.size,5,none⟩ (.slice (some ⟨w6.heap.size,0,none⟩) fn fn)).setCell ⟨w.heap.size,8,none⟩ (.slice (some ⟨w7.heap.size,0,none⟩) rn rn)) (w.heap.size+2) ⟨⟨some ⟨w.heap.size+2,0,none⟩,tn,tn⟩,⟨some ⟨b2,0,none⟩,ln,ln⟩,⟨some ⟨w4.heap.size,0,none⟩,gn,gn⟩,⟨some ⟨w6.heap.size,0,none⟩,fn,fn⟩,⟨some ⟨w7.heap.size,0,none⟩,rn,rn⟩⟩ vs s:=by
  refine ⟨O1.out.butG KC (by omega),(O2.out.same fun q hq hq1 hq2=>KC.block q hq2 (by omega)).widen (by omega) (by simp;omega),(O3.out.butG KC (by omega)).base (by omega),((o7.keeps k8).butG KB (by omega)).base (by omega),(o8.butG KB (by omega)).base (by omega),?_⟩
  refine qhz (w.heap.size+2) w2.heap.size w4.heap.size w6.heap.size w7.heap.size w8.heap.size (fun q hq => ?_) ?_ (fun q hq => ?_) (fun q hq => ?_) (fun q hq => ?_) (by omega) (by omega) (by omega)
  ·have h1:=(O1.out.ltb q hq).1
   have h2:some (w.heap.size+2)=some q:=hq
   have h3:=Option.some.inj h2
   omega
  ·rintro q (hq | ⟨x,hx,hq⟩)
   ·exact ⟨(O2.out.own.ltb q hq).1,O2.out.out q hq⟩
   ·obtain ⟨j,hj⟩:=List.mem_iff_getElem?.1 hx
    exact ⟨(O2.out.blkLt (.inr ⟨x,hx,hq⟩)).1,(O2.out.inn j x q hj hq).1⟩
  ·have:=O3.out.ltb q hq
   exact ⟨this.1,by omega⟩
  ·have:=o7.ltb q hq
   exact ⟨this.1,by omega⟩
  ·have:=o8.ltb q hq
   exact ⟨this.1,by omega⟩
 change Exit.then _ _ _ _ ((w8.setCell ⟨w.heap.size,5,none⟩ (.slice (some ⟨w6.heap.size,0,none⟩) fn fn)).setCell ⟨w.heap.size,8,none⟩ (.slice (some ⟨w7.heap.size,0,none⟩) rn rn))
 clear z1 z2 B8 KB KC o7 o8 k7 k8 K8 hHeld O1 O2 O3 BY RY hyd
 generalize ((w8.setCell ⟨w.heap.size,5,none⟩ (.slice (some ⟨w6.heap.size,0,none⟩) fn fn)).setCell ⟨w.heap.size,8,none⟩ (.slice (some ⟨w7.heap.size,0,none⟩) rn rn))=U at *
 have y1:=BZ.out.cells
 obtain ⟨_,y3,y4⟩:=RZ.out
 dsimp only [syc] at y1
 go_wp2
 have D:=RZ.out.putC (syc s ⟨⟨some ⟨w.heap.size+2,0,none⟩,tn,tn⟩,⟨some ⟨b2,0,none⟩,ln,ln⟩,⟨some ⟨w4.heap.size,0,none⟩,gn,gn⟩,⟨some ⟨w6.heap.size,0,none⟩,fn,fn⟩,⟨some ⟨w7.heap.size,0,none⟩,rn,rn⟩⟩).toList rfl
 have KD:=Keeps.putC (b:=w.heap.size+1) (by omega) (syc s ⟨⟨some ⟨w.heap.size+2,0,none⟩,tn,tn⟩,⟨some ⟨b2,0,none⟩,ln,ln⟩,⟨some ⟨w4.heap.size,0,none⟩,gn,gn⟩,⟨some ⟨w6.heap.size,0,none⟩,fn,fn⟩,⟨some ⟨w7.heap.size,0,none⟩,rn,rn⟩⟩).toList 0 KZ
 have OD:OwnS (putC U (w.heap.size+1) 0 (syc s ⟨⟨some ⟨w.heap.size+2,0,none⟩,tn,tn⟩,⟨some ⟨b2,0,none⟩,ln,ln⟩,⟨some ⟨w4.heap.size,0,none⟩,gn,gn⟩,⟨some ⟨w6.heap.size,0,none⟩,fn,fn⟩,⟨some ⟨w7.heap.size,0,none⟩,rn,rn⟩⟩).toList) w.heap.size ⟨⟨some ⟨w.heap.size+2,0,none⟩,tn,tn⟩,⟨some ⟨b2,0,none⟩,ln,ln⟩,⟨some ⟨w4.heap.size,0,none⟩,gn,gn⟩,⟨some ⟨w6.heap.size,0,none⟩,fn,fn⟩,⟨some ⟨w7.heap.size,0,none⟩,rn,rn⟩⟩ vs s:=(OwnS.farC (c:=w.heap.size+1) (fun i hi=>by have:=(OS.blkLt hi).1;omega) _ _ OS).base (by omega)
 change bodyPost _ _ _ _ _ (putC U (w.heap.size+1) 0 (syc s ⟨⟨some ⟨w.heap.size+2,0,none⟩,tn,tn⟩,⟨some ⟨b2,0,none⟩,ln,ln⟩,⟨some ⟨w4.heap.size,0,none⟩,gn,gn⟩,⟨some ⟨w6.heap.size,0,none⟩,fn,fn⟩,⟨some ⟨w7.heap.size,0,none⟩,rn,rn⟩⟩).toList)
 generalize putC U (w.heap.size+1) 0 (syc s ⟨⟨some ⟨w.heap.size+2,0,none⟩,tn,tn⟩,⟨some ⟨b2,0,none⟩,ln,ln⟩,⟨some ⟨w4.heap.size,0,none⟩,gn,gn⟩,⟨some ⟨w6.heap.size,0,none⟩,fn,fn⟩,⟨some ⟨w7.heap.size,0,none⟩,rn,rn⟩⟩).toList=Q at D KD OD ⊢
 exact bodyPost_ret (v := .agg (syc s ⟨⟨some ⟨w.heap.size+2,0,none⟩,tn,tn⟩,⟨some ⟨b2,0,none⟩,ln,ln⟩,⟨some ⟨w4.heap.size,0,none⟩,gn,gn⟩,⟨some ⟨w6.heap.size,0,none⟩,fn,fn⟩,⟨some ⟨w7.heap.size,0,none⟩,rn,rn⟩⟩)) (by simp [results,Tryz.results77,go_sem,D.cells]) rfl ⟨⟨⟨some ⟨w.heap.size+2,0,none⟩,tn,tn⟩,⟨some ⟨b2,0,none⟩,ln,ln⟩,⟨some ⟨w4.heap.size,0,none⟩,gn,gn⟩,⟨some ⟨w6.heap.size,0,none⟩,fn,fn⟩,⟨some ⟨w7.heap.size,0,none⟩,rn,rn⟩⟩,vs,rfl,OD,KD,_,rfl⟩
end Go.Proofs.YteagpjlgjfaclaaGreatDoor
