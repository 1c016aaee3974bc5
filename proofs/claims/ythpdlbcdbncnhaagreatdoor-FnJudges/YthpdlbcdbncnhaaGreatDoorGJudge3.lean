/-
  Drawn systems in which a judge may find something amiss. Th
-/
import Derived.Test.YthpdlbcdbncnhaaGreatDoorGCall4
import Derived.Test.YthpdlbcdbncnhaaGreatDoorGCall1
import Derived.Test.YthpdlbcdbncnhaaGreatDoorGSys6
import Derived.Deep.Cut
import Derived.Deep.CutBlock
import Derived.Test.YthpdlbcdbncnhaaGreatDoorGJudge1
import Derived.Deep.DeepCutAuto
namespace Go.Proofs.YthpdlbcdbncnhaaGreatDoor
set_option maxRecDepth 100000
open Go.RowKit
structure DJ (w wr:World) (g lo ob:Nat) (v:Sv) (vs:List Lv) (s:Sy):Prop where
 cur:Cur wr g
 kp:Keeps w wr
 res:Blk wr w.heap.size zc
 own:OwnS wr lo v vs s
 box:Blk wr ob (syc s v)
 far:∀ i,¬ qah v vs i ob
 gl:w.heap.size < g /\ g < lo /\ lo <= ob
section
variable {w wr:World} {g lo ob:Nat} {v:Sv} {vs:List Lv} {s:Sy}
theorem DJ.but (h:DJ w wr g lo ob v vs s) {wr':World} (hc:Cur wr' g) (k:KeepsBut g wr wr'):DJ w wr' g lo ob v vs s:=by
 obtain ⟨h1,h2,h3⟩:=h.gl
 exact ⟨hc,k.keeps h.kp (by omega),h.res.but k (by omega),h.own.butG k h2,h.box.but k (by omega),h.far,h.gl⟩
theorem DJ.keeps (h:DJ w wr g lo ob v vs s) {wr':World} (k:Keeps wr wr'):DJ w wr' g lo ob v vs s:=h.but (h.cur.keeps k) (.of k)
theorem DJ.missed (h:DJ w wr g lo ob v vs s) (x:Int):DJ w (wr.setCell ⟨ob,7,none⟩ (.int .i64 x)) g lo ob v vs { s with missed:=x }:=by
 obtain ⟨h1,h2,h3⟩:=h.gl
 exact ⟨h.cur.setNew (by omega) _ _,h.kp.setCell (by simp;omega) _,h.res.far (by omega) _,(h.own.nums s.now s.cpus s.seq x).far h.far _,h.box.set 7 (by show 7 < 9;omega) _,h.far,h.gl⟩
theorem DJ.turn (h:DJ w wr g lo ob v vs s) {tb:Nat} (ha:v.r.a=some ⟨tb,0,none⟩) {k:Nat} (hk:k < s.trace.length) (x:Tn):DJ w (putC wr tb (k*3) (tnc x).toList) g lo ob v vs { s with trace:=s.trace.set k x }:=by
 obtain ⟨h1,h2,h3⟩:=h.gl
 have hn:=(h.own.r.row qbL).1
 have hv:v.r.val = .slice (some ⟨tb,0,none⟩) s.trace.length v.r.cap:=by rw [Rw.val,ha,hn]
 have ho:v.r.val.ownBlock=some tb:=by rw [hv];rfl
 have ho2:qah v vs 4 tb:=ho
 have hlo:=(h.own.blkLt ho2).1
 have hne:tb≠ob:=fun e=>h.far 4 (by rw [<- e];exact ho2)
 have O:=h.own.r
 rw [hv] at O
 have G:wr.grownBy (putC wr tb (k*3) (tnc x).toList) (some tb):=qej _ _ _ (World.grownBy.refl _ _)
 refine ⟨Cur.putC (by omega) _ _ h.cur,Keeps.putC (by omega) _ _ h.kp,Blk.farC (by omega) _ _ h.res,?_,Blk.farC hne _ _ h.box,h.far,h.gl⟩
 refine h.own.setR G.size (fun b hb hn=>G.block b hb (fun e=>hn (by show v.r.val.ownBlock=some b;rw [ho,e]))) v.r _ ?_ (fun b e => .inl e)
 have:=O.put qbL hk x
 rw [List.length_set] at this
 rw [hv]
 exact this
theorem DJ.taskV (h:DJ w wr g lo ob v vs s) {tb:Nat} (ha:v.t.a=some ⟨tb,0,none⟩) {k:Nat} {t:Tsk} (ht:s.tasks[k]?=some t) (x:Int):DJ w (wr.setCell ⟨tb,k*14+13,none⟩ (.int .i64 x)) g lo ob v vs { s with tasks:=s.tasks.set k { t with v:=x } }:=by
 obtain ⟨h1,h2,h3⟩:=h.gl
 have hn:=(h.own.t.row qaw).1
 have hv:v.t.val = .slice (some ⟨tb,0,none⟩) s.tasks.length v.t.cap:=by rw [Rw.val,ha,hn]
 have ho:v.t.val.ownBlock=some tb:=by rw [hv];rfl
 have ho2:qah v vs 0 tb:=ho
 have hlo:=(h.own.blkLt ho2).1
 have hne:tb≠ob:=fun e=>h.far 0 (by rw [<- e];exact ho2)
 have O:=h.own.t
 rw [hv] at O
 refine ⟨h.cur.setNew (by omega) _ _,h.kp.setCell (by simp;omega) _,h.res.far (by omega) _,?_,h.box.far hne _,h.far,h.gl⟩
 refine h.own.setT (by simp [World.setCell]) (fun b hb hn=>qbl (fun e=>hn (by show v.t.val.ownBlock=some b;rw [ho,e]))) v.t _ ?_ (fun b e => .inl e)
 have:=O.setAt qaw (y:={ t with v:=x }) (u := .int .i64 x) ht (show 13 < 14 by omega) rfl
 rw [hv]
 exact this
theorem DJ.told (h:DJ w wr g lo ob v vs s):Blk (putC wr w.heap.size 0 (syc s v).toList) w.heap.size (syc s v) /\ OwnS (putC wr w.heap.size 0 (syc s v).toList) w.heap.size v vs s /\ Keeps w (putC wr w.heap.size 0 (syc s v).toList):=by
 obtain ⟨h1,h2,h3⟩:=h.gl
 exact ⟨h.res.putC _ rfl,(OwnS.farC (fun i hi=>by have:=(h.own.blkLt hi).1;omega) _ _ h.own).base (by omega),Keeps.putC (Nat.le_refl _) _ 0 h.kp⟩
end
theorem qf3 (g:Nat) (n:Int) (w:World) (hc:Cur w g) (h1:1 <= n) (h2:n <= 1048576) :
  Calls Tryz.prog 57 #[.pointer (some ⟨g,0,none⟩),.int .i64 n] w fun e w'=>∃ k:Nat,e = .returned (.int .i64 k) /\ (k:Int) < n /\ Cur w' g /\ KeepsBut g w w':=by
 by_cases h:n <= 256
 ·refine (qal g n w hc h1 h).mono ?_
  rintro e w' ⟨z,rfl,h3,h4,h5,h6⟩
  exact ⟨z.toNat,by rw [Int.toNat_of_nonneg h3],by omega,h5,h6⟩
 ·refine (qjA g n w hc (by omega) (by omega)).mono ?_
  rintro e w' ⟨z,rfl,h3,h4,h5,h6⟩
  exact ⟨z.toNat,by rw [Int.toNat_of_nonneg h3],by omega,h5,h6⟩
theorem OwnS.turnCells {w:World} {lo:Nat} {v:Sv} {vs:List Lv} {s:Sy} (h:OwnS w lo v vs s) {rb:Nat} (ha:v.r.a=some ⟨rb,0,none⟩) {k:Nat} {t:Tn} (ht:s.trace[k]?=some t):(∀ j,j < 3->w.cell? ⟨rb,k*3+j,none⟩=(tnc t)[j]?) /\ ∀ j,w.frozen? ⟨rb,j,none⟩=false:=by
 have hn:=(h.r.row qbL).1
 have O:=h.r
 rw [show v.r.val = .slice (some ⟨rb,0,none⟩) s.trace.length v.r.cap from by rw [Rw.val,ha,hn]] at O
 exact ⟨fun j hj=>O.cellAt qbL ht hj,fun j=>O.frozenAt j⟩
def qhY (w:World) (e:Ending) (w':World):Prop:=∃ (s:Sy) (v:Sv) (vs:List Lv),e = .returned (.agg (syc s v)) /\ OwnS w' w.heap.size v vs s /\ qdT s /\ Keeps w w'
set_option linter.unusedSimpArgs false in
set_option maxHeartbeats 8000000 in
theorem qmQ (a:Option Addr) (n cap:Nat) (w:World) (hn:n <= 1048576) (hb:∀ g,w.heap.size <= g->Bytes g w a n) :
  Calls Tryz.prog 58 #[.slice a n cap] w (qhY w):=by
 go_enter Tryz.func58,Tryz.ntmps58
 go_wp2_with fail
 have kW:=blkK w (.cells zc 37)
 have B0:Blk (w.alloc (.cells zc 37)) w.heap.size zc:=Blk.new w zc 37
 refine (qjC a n cap _ hn (fun g hg=>(hb g (by have:=kW.size;omega)).but (.of kW))).mono ?_
 rintro e w1 ⟨g,rfl,hg,hc1,k1⟩
 clear hb
 have K1:Keeps w w1:=kW.trans k1
 have B1:Blk w1 w.heap.size zc:=B0.keeps k1
 have hg1:=hc1.lt
 have hwg:w.heap.size < g:=by simp at hg;omega
 clear kW k1 B0 hg
 go_upto_region 3 with (go_at_call 55;refine (qkw hc1 a n cap hn).mono ?_;rintro e w2 ⟨s,v,vs,rfl,o2,sz,hc2,k2⟩;obtain ⟨⟨yA,yB,yC⟩,⟨yD,yE,yF⟩,⟨yG,yH,yI⟩,⟨yJ,yK,yL⟩,⟨yM,yN,yO⟩⟩:=v)
 have kA:=blkK w2 (.cells (syc s ⟨⟨yA,yB,yC⟩,⟨yD,yE,yF⟩,⟨yG,yH,yI⟩,⟨yJ,yK,yL⟩,⟨yM,yN,yO⟩⟩) 37)
 have X0:Hid (Blk (w2.alloc (.cells (syc s ⟨⟨yA,yB,yC⟩,⟨yD,yE,yF⟩,⟨yG,yH,yI⟩,⟨yJ,yK,yL⟩,⟨yM,yN,yO⟩⟩) 37)) w2.heap.size (syc s ⟨⟨yA,yB,yC⟩,⟨yD,yE,yF⟩,⟨yG,yH,yI⟩,⟨yJ,yK,yL⟩,⟨yM,yN,yO⟩⟩)):=Blk.new _ _ _
 have K2:Keeps w (w2.alloc (.cells (syc s ⟨⟨yA,yB,yC⟩,⟨yD,yE,yF⟩,⟨yG,yH,yI⟩,⟨yJ,yK,yL⟩,⟨yM,yN,yO⟩⟩) 37)):=(k2.keeps K1 (by omega)).alloc _
 have B2:Hid (Blk (w2.alloc (.cells (syc s ⟨⟨yA,yB,yC⟩,⟨yD,yE,yF⟩,⟨yG,yH,yI⟩,⟨yJ,yK,yL⟩,⟨yM,yN,yO⟩⟩) 37)) w.heap.size zc):=(B1.but k2 (by omega)).keeps kA
 have O2:Hid (OwnS (w2.alloc (.cells (syc s ⟨⟨yA,yB,yC⟩,⟨yD,yE,yF⟩,⟨yG,yH,yI⟩,⟨yJ,yK,yL⟩,⟨yM,yN,yO⟩⟩) 37)) w1.heap.size ⟨⟨yA,yB,yC⟩,⟨yD,yE,yF⟩,⟨yG,yH,yI⟩,⟨yJ,yK,yL⟩,⟨yM,yN,yO⟩⟩ vs s):=o2.keeps kA
 have C2:=hc2.keeps kA
 have hs1:=K1.size
 have hxb:g < w2.heap.size /\ w.heap.size < w2.heap.size:=by have:=hc2.lt;omega
 have gl:g < w1.heap.size:=hg1
 have wl:w.heap.size < w1.heap.size:=by omega
 have FX:Hid (∀ i,¬ qah ⟨⟨yA,yB,yC⟩,⟨yD,yE,yF⟩,⟨yG,yH,yI⟩,⟨yJ,yK,yL⟩,⟨yM,yN,yO⟩⟩ vs i w2.heap.size):=fun i hi=>by have:=(o2.blkLt hi).2;omega
 have hlo:w1.heap.size <= w2.heap.size:=k2.size
 change Code.wp _ _ _ _ (w2.alloc (.cells (syc s ⟨⟨yA,yB,yC⟩,⟨yD,yE,yF⟩,⟨yG,yH,yI⟩,⟨yJ,yK,yL⟩,⟨yM,yN,yO⟩⟩) 37))
 clear kA k2 o2 hc1 hc2 B1 K1
 generalize w2.alloc (.cells (syc s ⟨⟨yA,yB,yC⟩,⟨yD,yE,yF⟩,⟨yG,yH,yI⟩,⟨yJ,yK,yL⟩,⟨yM,yN,yO⟩⟩) 37)=Y at *
 generalize w2.heap.size=xb at *
 have D2:Hid (DJ w Y g w1.heap.size xb ⟨⟨yA,yB,yC⟩,⟨yD,yE,yF⟩,⟨yG,yH,yI⟩,⟨yJ,yK,yL⟩,⟨yM,yN,yO⟩⟩ vs s):=⟨C2,K2,B2.out,O2.out,X0.out,FX.out,hwg,gl,hlo⟩
 clear C2 K2 B2 O2 X0 FX
 generalize w1.heap.size=lo at *
 go_upto_block 0 with (go_at_call 57;refine (qal g _ _ D2.out.cur (by omega) (by omega)).mono ?_;rintro e w5 ⟨m,rfl,m0,m1,hc5,k5⟩)
 have D5:Hid (DJ w w5 g lo xb ⟨⟨yA,yB,yC⟩,⟨yD,yE,yF⟩,⟨yG,yH,yI⟩,⟨yJ,yK,yL⟩,⟨yM,yN,yO⟩⟩ vs s):=D2.out.but hc5 k5
 clear D2 hc5 k5
 go_cut [] (fun wx=>∃ s' v' vs',Hid (DJ w wx g lo xb v' vs' s') /\ qdT s')
 case first=>as_aux_lemma =>
  have SZ:qdT s:=sz
  obtain ⟨sz1,sz2,sz3⟩:=sz
  have szu:=sz3
  unfold qaj at szu
  cases q0:(m==0)
  rotate_left
  ·obtain ⟨_,b1,b2⟩:=D5.out.box
   dsimp only [syc] at b1
   go_wp2
   go_meet
   exact ⟨_,⟨⟨yA,yB,yC⟩,⟨yD,yE,yF⟩,⟨yG,yH,yI⟩,⟨yJ,yK,yL⟩,⟨yM,yN,yO⟩⟩,vs,D5.out.missed 1,SZ⟩
  cases q1:(m==1)
  rotate_left
  ·have Hn:Hid (s.trace.length=yN):=(D5.out.own.r.row qbL).1
   obtain ⟨_,b1,b2⟩:=D5.out.box
   dsimp only [syc] at b1
   by_cases hr:yN=0
   ·have hr0:decide ((0:Int) < (yN:Int))=false:=by simp;omega
    go_wp2
    go_meet
    exact ⟨s,⟨⟨yA,yB,yC⟩,⟨yD,yE,yF⟩,⟨yG,yH,yI⟩,⟨yJ,yK,yL⟩,⟨yM,yN,yO⟩⟩,vs,D5,SZ⟩
   have hr0:decide ((0:Int) < (yN:Int))=true:=by simp;omega
   obtain ⟨tb,cp,htb⟩:=D5.out.own.r.blk (by rw [Hn.out];omega)
   simp only [Rw.val,Value.slice.injEq] at htb
   obtain ⟨htb,-,-⟩:=htb
   subst htb
   go_upto_region 8 with fail
   have D0:=D5.out.keeps (Keeps.refl w5).drew
   have e0:∀ w',Blk w' xb (syc s ⟨⟨yA,yB,yC⟩,⟨yD,yE,yF⟩,⟨yG,yH,yI⟩,⟨yJ,yK,yL⟩,⟨some ⟨tb,0,none⟩,yN,yO⟩⟩)->∀ q,w'.cell? ⟨xb,q,none⟩=(syc s ⟨⟨yA,yB,yC⟩,⟨yD,yE,yF⟩,⟨yG,yH,yI⟩,⟨yJ,yK,yL⟩,⟨some ⟨tb,0,none⟩,yN,yO⟩⟩)[q]?:=fun w' hh=>hh.cells
   dsimp only [syc] at e0
   have hr1:1 <= (yN:Int):=by omega
   have hr2:(yN:Int) <= 1048576:=by have:=Hn.out;omega
   clear b1 b2
   refine qc1 13 (S:=(fun w'=>Blk w' xb (syc s ⟨⟨yA,yB,yC⟩,⟨yD,yE,yF⟩,⟨yG,yH,yI⟩,⟨yJ,yK,yL⟩,⟨some ⟨tb,0,none⟩,yN,yO⟩⟩))) (by kernel_rfl) ?_ (fun hHeld => ?_)
   ·exact D0.box
   refine Plan.go [0,1,2,3,4,5,7,9] ?_
   iterate 8 (refine qbv (by simp only [qab];rfl) (by kernel_rfl) (by exact fun _ _ _ h=>h) (by rfl) (by assumption) (fun w _=>by go_simp;try (with_reducible rfl)) ?_;try simp only [qaa])
   refine Plan.nil ?_
   refine qbq (i:=6) (by kernel_rfl) (by simp only [List.getElem?_toArray,List.getElem?_cons_succ,List.getElem?_cons_zero];rfl) (fun K hK => ?_)
   go_simp
   first
     | (have k0:=D0;clear D0;go_at_call 57;refine (qf3 g _ _ k0.cur hr1 hr2).mono ?_;rintro e wA ⟨j,rfl,mA1,hcA,kA⟩;have DA:=k0.but hcA kA;have BA:=DA.box;clear k0)
     | (have k0:=DA;clear DA;go_at_call 57;refine (qal g _ _ k0.cur (by omega) (by omega)).mono ?_;rintro e wB ⟨mB,rfl,mB0,mB1,hcB,kB⟩;have DB:=k0.but hcB kB;have BB:=DB.box;clear k0)
     | (have k0:=DB;clear DB;go_at_call 57;refine (qal g _ _ k0.cur (by omega) (by omega)).mono ?_;rintro e wC ⟨mC,rfl,mC0,mC1,hcC,kC⟩;have DC:=k0.but hcC kC;have BC:=DC.box;clear k0)
   try go_wp2_with fail
   refine hK.out _ _ ?_ (fun hHeld => ?_)
   ·assumption
   clear hK K
   try simp only [qaa]
   refine qbq (i:=8) (by kernel_rfl) (by simp only [List.getElem?_toArray,List.getElem?_cons_succ,List.getElem?_cons_zero];rfl) (fun K hK => ?_)
   go_simp
   first
     | (have k0:=D0;clear D0;go_at_call 57;refine (qf3 g _ _ k0.cur hr1 hr2).mono ?_;rintro e wA ⟨j,rfl,mA1,hcA,kA⟩;have DA:=k0.but hcA kA;have BA:=DA.box;clear k0)
     | (have k0:=DA;clear DA;go_at_call 57;refine (qal g _ _ k0.cur (by omega) (by omega)).mono ?_;rintro e wB ⟨mB,rfl,mB0,mB1,hcB,kB⟩;have DB:=k0.but hcB kB;have BB:=DB.box;clear k0)
     | (have k0:=DB;clear DB;go_at_call 57;refine (qal g _ _ k0.cur (by omega) (by omega)).mono ?_;rintro e wC ⟨mC,rfl,mC0,mC1,hcC,kC⟩;have DC:=k0.but hcC kC;have BC:=DC.box;clear k0)
   try go_wp2_with fail
   refine hK.out _ _ ?_ (fun hHeld => ?_)
   ·assumption
   clear hK K
   try simp only [qaa]
   refine qbq (i:=10) (by kernel_rfl) (by simp only [List.getElem?_toArray,List.getElem?_cons_succ,List.getElem?_cons_zero];rfl) (fun K hK => ?_)
   go_simp
   first
     | (have k0:=D0;clear D0;go_at_call 57;refine (qf3 g _ _ k0.cur hr1 hr2).mono ?_;rintro e wA ⟨j,rfl,mA1,hcA,kA⟩;have DA:=k0.but hcA kA;have BA:=DA.box;clear k0)
     | (have k0:=DA;clear DA;go_at_call 57;refine (qal g _ _ k0.cur (by omega) (by omega)).mono ?_;rintro e wB ⟨mB,rfl,mB0,mB1,hcB,kB⟩;have DB:=k0.but hcB kB;have BB:=DB.box;clear k0)
     | (have k0:=DB;clear DB;go_at_call 57;refine (qal g _ _ k0.cur (by omega) (by omega)).mono ?_;rintro e wC ⟨mC,rfl,mC0,mC1,hcC,kC⟩;have DC:=k0.but hcC kC;have BC:=DC.box;clear k0)
   try go_wp2_with fail
   refine hK.out _ _ ?_ (fun hHeld => ?_)
   ·assumption
   clear hK K
   try simp only [qaa]
   refine Plan.go [11,12] ?_
   iterate 2 (refine qbv (by simp only [qab];rfl) (by kernel_rfl) (by exact fun _ _ _ h=>h) (by rfl) (by assumption) (fun w _=>by go_simp;try (with_reducible rfl)) ?_;try simp only [qaa])
   refine Plan.nil ?_
   refine qc0 (by kernel_rfl) (by simp only [List.getElem?_toArray,List.getElem?_cons_succ,List.getElem?_cons_zero];rfl) (by kernel_rfl) (fun K hK => ?_)
   obtain ⟨x,hx⟩:=qai (xs:=s.trace) (k:=j) (by rw [Hn.out];omega);obtain ⟨z1,z2⟩:=DC.own.turnCells (rb:=tb) rfl (k:=j) hx;have y0:wC.cell? ⟨tb,j*3,none⟩=some (.int .i64 x.cpu):=z1 0 (by omega);have D7:=DC.turn (tb:=tb) rfl (k:=j) (qas hx) ⟨mB,mC,0⟩
   go_simp
   try go_wp2_with fail
   refine hK.out _ _ ?_
   clear hK K
   try simp only [qaa]
   go_wp2
   go_meet
   exact ⟨_,_,vs,D7,by show s.tasks.length <= _;omega,by show s.cpus <= _;omega,by show s.tasks.length+qak s.locks+s.ghosts.length+s.floors.length+(s.trace.set j _).length <= _;simp only [List.length_set];omega⟩
  cases q2:(m==2)
  ·go_wp2
   go_meet
   exact ⟨s,⟨⟨yA,yB,yC⟩,⟨yD,yE,yF⟩,⟨yG,yH,yI⟩,⟨yJ,yK,yL⟩,⟨yM,yN,yO⟩⟩,vs,D5,SZ⟩
  have Hn:Hid (s.tasks.length=yB):=(D5.out.own.t.row qaw).1
  have htn:yB <= 30:=by have:=Hn.out;omega
  go_upto_region 11 with fail
  go_loopw [5] (fun i wr=>∃ (k:Nat) (ts:List Tsk),k <= yB /\ i = .int .i64 k /\ Hid (DJ w wr g lo xb ⟨⟨yA,yB,yC⟩,⟨yD,yE,yF⟩,⟨yG,yH,yI⟩,⟨yJ,yK,yL⟩,⟨yM,yN,yO⟩⟩ vs { s with tasks:=ts }) /\ Hid (ts.length=yB)) (fun i _=>yB - (intOf i).toNat)
  case atStart=>exact ⟨0,s.tasks,Nat.zero_le _,rfl,D5,Hn⟩
  case round =>
   obtain ⟨k,ts,hk,rfl,DK,Hl⟩:=hrel
   clear D5
   obtain ⟨_,b1,b2⟩:=DK.out.box
   dsimp only [syc] at b1
   by_cases hlt:k < yB
   ·have hlt':(k:Int) < (yB:Int):=by omega
    obtain ⟨tb,cp,htb⟩:=DK.out.own.t.blk (by show 0 < ts.length;rw [Hl.out];omega)
    simp only [Rw.val,Value.slice.injEq] at htb
    obtain ⟨htb,-,-⟩:=htb
    subst htb
    obtain ⟨t,ht⟩:=qai (xs:=ts) (k:=k) (by rw [Hl.out];exact hlt)
    obtain ⟨z1,z2⟩:=DK.out.own.taskCells (rb:=tb) rfl (k:=k) ht
    have y1:wr.cell? ⟨tb,k*14+1,none⟩=some (.int .i64 t.cls):=z1 1 (by omega)
    cases c1:(t.cls==3)
    ·clear z1 z2
     go_wp2
     exact ⟨⟨k+1,ts,by omega,by go_num,DK,Hl⟩,by simp only [intOf];omega⟩
    obtain ⟨q,hq⟩:∃ q,IntKind.i64.wrap (t.v+30)=q:=⟨_,rfl⟩
    have D7:Hid (DJ w ((wr.setCell ⟨tb,k*14+13,none⟩ (.int .i64 q)).drew) g lo xb ⟨⟨some ⟨tb,0,none⟩,yB,yC⟩,⟨yD,yE,yF⟩,⟨yG,yH,yI⟩,⟨yJ,yK,yL⟩,⟨yM,yN,yO⟩⟩ vs { s with tasks:=ts.set k { t with v:=q } }):=(DK.out.taskV (tb:=tb) rfl ht q).keeps (Keeps.refl _).drew
    have y13:∀ w',Keeps wr w'->w'.cell? ⟨tb,k*14+13,none⟩=some (.int .i64 t.v):=Keeps.has (z1 13 (by omega))
    have f13:wr.frozen? ⟨tb,k*14+13,none⟩=false:=z2 _
    have y14:wr.cell? ⟨tb,k*14+13,none⟩=some (.int .i64 t.v):=z1 13 (by omega)
    have b3:∀ w',Keeps wr w'->w'.cell? ⟨xb,2,none⟩=some (.slice (some ⟨tb,0,none⟩) yB yC):=Keeps.has (by rw [b1];rfl)
    have Hl2:Hid ((ts.set k { t with v:=q }).length=yB):=by show _=_;rw [List.length_set];exact Hl.out
    clear z1 z2
    go_upto_region 14 with fail
    clear b1 b2 y1
    refine qgR 12 (S:=(fun w'=>Keeps wr w')) (by kernel_rfl) ?_ (fun hHeld => ?_)
    ·exact (Keeps.refl wr).drew
    refine Plan.go [0,1,2,3,4,5,6,7,8,9] ?_
    iterate 10 (refine latL (by simp only [qab];rfl) (by kernel_rfl) (by exact fun _ _ _ h=>h) (by rfl) (by assumption) (fun w _=>by go_simp;try (with_reducible rfl)) ?_;try simp only [qaa])
    refine Plan.nil ?_
    refine qgO (i:=10) (v := ?_) (by simp only [List.getElem?_toArray,List.getElem?_cons_succ,List.getElem?_cons_zero];rfl) (by kernel_rfl) (by kernel_rfl) (by kernel_rfl) (by kernel_rfl) (by exact fun _ _ _ h=>h) (Or.inl ⟨by rfl,?_⟩) (by assumption) ?_
    rotate_left
    ·(intro w _;go_simp;try (with_reducible rfl))
    try simp only [qaa]
    refine Plan.go [11] ?_
    iterate 1 (refine latL (by simp only [qab];rfl) (by kernel_rfl) (by exact fun _ _ _ h=>h) (by rfl) (by assumption) (fun w _=>by go_simp;try (with_reducible rfl)) ?_;try simp only [qaa])
    refine Plan.nil ?_
    refine qgQ (by kernel_rfl) (by simp only [List.getElem?_toArray,List.getElem?_cons_succ,List.getElem?_cons_zero];rfl) (by kernel_rfl) (fun K hK => ?_)
    skip
    go_simp
    try go_wp2_with fail
    refine hK.out _ _ ?_
    clear hK K
    try simp only [qaa]
    go_wp2
    exact ⟨⟨k+1,ts.set k { t with v:=q },by omega,by go_num,D7,Hl2⟩,by simp only [intOf];omega⟩
   ·have hlt':decide ((k:Int) < (yB:Int))=false:=by simp;omega
    go_wp2
    go_meet
    exact ⟨_,⟨⟨yA,yB,yC⟩,⟨yD,yE,yF⟩,⟨yG,yH,yI⟩,⟨yJ,yK,yL⟩,⟨yM,yN,yO⟩⟩,vs,DK,by show ts.length <= _;have:=Hl.out;have:=Hn.out;omega,by show s.cpus <= _;omega,by show ts.length+qak s.locks+s.ghosts.length+s.floors.length+s.trace.length <= _;have:=Hl.out;have:=Hn.out;omega⟩
 case rest =>
 obtain ⟨s',v',vs',D9,SZ⟩:=hcut
 generalize wc=w9 at *
 obtain ⟨⟨zA,zB,zC⟩,⟨zD,zE,zF⟩,⟨zG,zH,zI⟩,⟨zJ,zK,zL⟩,⟨zM,zN,zO⟩⟩:=v'
 obtain ⟨_,b1,b2⟩:=D9.out.box
 dsimp only [syc] at b1
 obtain ⟨_,r1,r2⟩:=D9.out.res
 obtain ⟨E1,E2,E3⟩:=D9.out.told
 go_wp2
 change bodyPost _ _ _ _ _ (putC w9 w.heap.size 0 (syc (s':Sy) ⟨⟨zA,zB,zC⟩,⟨zD,zE,zF⟩,⟨zG,zH,zI⟩,⟨zJ,zK,zL⟩,⟨zM,zN,zO⟩⟩).toList)
 generalize putC w9 w.heap.size 0 (syc (s':Sy) ⟨⟨zA,zB,zC⟩,⟨zD,zE,zF⟩,⟨zG,zH,zI⟩,⟨zJ,zK,zL⟩,⟨zM,zN,zO⟩⟩).toList=Q at E1 E2 E3 ⊢
 exact bodyPost_ret (v := .agg (syc (s':Sy) ⟨⟨zA,zB,zC⟩,⟨zD,zE,zF⟩,⟨zG,zH,zI⟩,⟨zJ,zK,zL⟩,⟨zM,zN,zO⟩⟩)) (by simp [results,Tryz.results58,go_sem,E1.cells]) rfl ⟨s',⟨⟨zA,zB,zC⟩,⟨zD,zE,zF⟩,⟨zG,zH,zI⟩,⟨zJ,zK,zL⟩,⟨zM,zN,zO⟩⟩,vs',rfl,E2,SZ,E3⟩
set_option linter.unusedSimpArgs false in
set_option maxHeartbeats 8000000 in
theorem qmR (a:Option Addr) (n cap:Nat) (w:World) (hn:n <= 1048576) (hb:∀ g,w.heap.size <= g->Bytes g w a n) :
  Calls Tryz.prog 18 #[.slice a n cap] w (qhY w):=by
 have kW:=blkK w (.cells zc 37)
 have B0:Blk (w.alloc (.cells zc 37)) w.heap.size zc:=Blk.new w zc 37
 have hz:(w.alloc (.cells zc 37)).heap.size=w.heap.size+1:=by simp
 go_enter Tryz.func18,Tryz.ntmps18
 go_wp2_with fail
 change Calls _ _ _ (w.alloc (.cells zc 37)) _
 generalize w.alloc (.cells zc 37)=W at *
 refine (qmQ a n cap _ hn (fun g hg=>(hb g (by have:=kW.size;omega)).but (.of kW))).mono ?_
 rintro e w1 ⟨s,v,vs,rfl,o1,sz,k1⟩
 obtain ⟨⟨yA,yB,yC⟩,⟨yD,yE,yF⟩,⟨yG,yH,yI⟩,⟨yJ,yK,yL⟩,⟨yM,yN,yO⟩⟩:=v
 have B1:=B0.keeps k1
 have E1:=B1.putC (syc (s:Sy) ⟨⟨yA,yB,yC⟩,⟨yD,yE,yF⟩,⟨yG,yH,yI⟩,⟨yJ,yK,yL⟩,⟨yM,yN,yO⟩⟩).toList rfl
 have K1:=Keeps.putC (b:=w.heap.size) (Nat.le_refl _) (syc (s:Sy) ⟨⟨yA,yB,yC⟩,⟨yD,yE,yF⟩,⟨yG,yH,yI⟩,⟨yJ,yK,yL⟩,⟨yM,yN,yO⟩⟩).toList 0 (kW.trans k1)
 have O1:OwnS (putC w1 w.heap.size 0 (syc (s:Sy) ⟨⟨yA,yB,yC⟩,⟨yD,yE,yF⟩,⟨yG,yH,yI⟩,⟨yJ,yK,yL⟩,⟨yM,yN,yO⟩⟩).toList) w.heap.size ⟨⟨yA,yB,yC⟩,⟨yD,yE,yF⟩,⟨yG,yH,yI⟩,⟨yJ,yK,yL⟩,⟨yM,yN,yO⟩⟩ vs s:=(OwnS.farC (c:=w.heap.size) (fun i hi=>by have:=(o1.blkLt hi).1;omega) _ _ o1).base (by omega)
 obtain ⟨_,r1,r2⟩:=B1
 clear o1 k1 B0 hb
 go_wp2
 change bodyPost _ _ _ _ _ (putC w1 w.heap.size 0 (syc (s:Sy) ⟨⟨yA,yB,yC⟩,⟨yD,yE,yF⟩,⟨yG,yH,yI⟩,⟨yJ,yK,yL⟩,⟨yM,yN,yO⟩⟩).toList)
 generalize putC w1 w.heap.size 0 (syc (s:Sy) ⟨⟨yA,yB,yC⟩,⟨yD,yE,yF⟩,⟨yG,yH,yI⟩,⟨yJ,yK,yL⟩,⟨yM,yN,yO⟩⟩).toList=Q at E1 K1 O1 ⊢
 exact bodyPost_ret (v := .agg (syc (s:Sy) ⟨⟨yA,yB,yC⟩,⟨yD,yE,yF⟩,⟨yG,yH,yI⟩,⟨yJ,yK,yL⟩,⟨yM,yN,yO⟩⟩)) (by simp [results,Tryz.results18,go_sem,E1.cells]) rfl ⟨s,⟨⟨yA,yB,yC⟩,⟨yD,yE,yF⟩,⟨yG,yH,yI⟩,⟨yJ,yK,yL⟩,⟨yM,yN,yO⟩⟩,vs,rfl,O1,sz,K1⟩
end Go.Proofs.YthpdlbcdbncnhaaGreatDoor
namespace Go.Proofs.YthpdlbcdbncnhaaGreatDoor
set_option maxRecDepth 100000
open Go.RowKit
attribute [local go_sem] Keeps.refl Keeps.alloc Keeps.drew Keeps.drewN
theorem qmS {s:Sy} (h:sysB s=false):qaJ s=false /\ qbD s=false /\ qa0 s=false /\ qbs s=false /\ qbt s=false /\ qb1 s=false:=by
 simp [qaJ,qbD,qa0,qbs,qbt,qb1,h]
theorem qmT {s:Sy} (h:sysB s=true):qbs s=true /\ qbt s=true:=by
 unfold qbs qbt
 rw [h,qd1,qez (qbh.1 h)]
 exact ⟨rfl,rfl⟩
set_option linter.unusedSimpArgs false in
set_option maxHeartbeats 8000000 in
theorem qmU (H0:qfW) (H1:qfX) (H2:qfY) (H3:qfZ) (H4:qf0) (H5:qf1) (a:Option Addr) (n cap:Nat) (w:World) (hg:GlobE w) (hm:n <= maxLen) (hb:∀ g,w.heap.size <= g->Bytes g w a n) :
  Calls Tryz.prog 6 #[.slice a n cap] w fun e w'=>e = .returned (.bool true) /\ Keeps w w':=by
 by_cases hn:n <= 1048576
 case neg =>
  have hd:decide (1048576 < (n:Int))=true:=by simp;omega
  go_enter Tryz.func6,Tryz.ntmps6
  go_wp2_with (go_at_call 14;refine (qgB _ _ _ _ hm).mono ?_;rintro e w1 ⟨rfl,rfl⟩)
  go_ret
  exact ⟨rfl,Keeps.refl _⟩
 have hd:decide (1048576 < (n:Int))=false:=by simp;omega
 have HB:Hid (∀ g,w.heap.size <= g->Bytes g w a n):=hb
 have HG:Hid (GlobE w):=hg
 have HJ:Hid (qfW /\ qfX /\ qfY /\ qfZ /\ qf0 /\ qf1):=⟨H0,H1,H2,H3,H4,H5⟩
 clear hb hg H0 H1 H2 H3 H4 H5
 go_enter Tryz.func6,Tryz.ntmps6
 go_wp2_with fail
 refine (qgB _ _ _ _ hm).mono ?_
 rintro e w0 ⟨rfl,rfl⟩
 rw [hd]
 go_upto_region 4 with (go_at_call 18;refine (qmR a n cap _ hn HB.out).mono ?_;rintro e w1 ⟨s,v,vs,rfl,o1,sz,k1⟩;obtain ⟨⟨yA,yB,yC⟩,⟨yD,yE,yF⟩,⟨yG,yH,yI⟩,⟨yJ,yK,yL⟩,⟨yM,yN,yO⟩⟩:=v)
 have kW:Keeps w0 (w1.alloc (.cells (syc s ⟨⟨yA,yB,yC⟩,⟨yD,yE,yF⟩,⟨yG,yH,yI⟩,⟨yJ,yK,yL⟩,⟨yM,yN,yO⟩⟩) 37)):=k1.alloc _
 have ON:Hid (SysOn (w1.alloc (.cells (syc s ⟨⟨yA,yB,yC⟩,⟨yD,yE,yF⟩,⟨yG,yH,yI⟩,⟨yJ,yK,yL⟩,⟨yM,yN,yO⟩⟩) 37)) ⟨⟨yA,yB,yC⟩,⟨yD,yE,yF⟩,⟨yG,yH,yI⟩,⟨yJ,yK,yL⟩,⟨yM,yN,yO⟩⟩ s):=(o1.on (by have:=sz.2.2;omega)).keeps ((Keeps.refl _).alloc _)
 have X0:Hid (Blk (w1.alloc (.cells (syc s ⟨⟨yA,yB,yC⟩,⟨yD,yE,yF⟩,⟨yG,yH,yI⟩,⟨yJ,yK,yL⟩,⟨yM,yN,yO⟩⟩) 37)) w1.heap.size (syc s ⟨⟨yA,yB,yC⟩,⟨yD,yE,yF⟩,⟨yG,yH,yI⟩,⟨yJ,yK,yL⟩,⟨yM,yN,yO⟩⟩)):=Blk.new _ _ _
 obtain ⟨jt,Hjt⟩:∃ b,Hid (qaJ s=b):=⟨_,rfl⟩
 obtain ⟨jd,Hjd⟩:∃ b,Hid (qbD s=b):=⟨_,rfl⟩
 obtain ⟨jf,Hjf⟩:∃ b,Hid (qa0 s=b):=⟨_,rfl⟩
 obtain ⟨jb,Hjb⟩:∃ b,Hid (qbs s=b):=⟨_,rfl⟩
 obtain ⟨ja,Hja⟩:∃ b,Hid (qbt s=b):=⟨_,rfl⟩
 obtain ⟨al,Hal⟩:∃ b,Hid (qb1 s=b):=⟨_,rfl⟩
 have nB:∀ b:Bool,(b != b)=false:=by simp
 change Code.wp _ _ _ _ (w1.alloc (.cells (syc s ⟨⟨yA,yB,yC⟩,⟨yD,yE,yF⟩,⟨yG,yH,yI⟩,⟨yJ,yK,yL⟩,⟨yM,yN,yO⟩⟩) 37))
 clear o1 k1 sz hd HB
 generalize w1.alloc (.cells (syc s ⟨⟨yA,yB,yC⟩,⟨yD,yE,yF⟩,⟨yG,yH,yI⟩,⟨yJ,yK,yL⟩,⟨yM,yN,yO⟩⟩) 37)=W at *
 generalize w1.heap.size=xb at *
 have hb0:∀ w',Keeps W w'->∀ q,w'.cell? ⟨xb,q,none⟩=(syc s ⟨⟨yA,yB,yC⟩,⟨yD,yE,yF⟩,⟨yG,yH,yI⟩,⟨yJ,yK,yL⟩,⟨yM,yN,yO⟩⟩)[q]?:=fun w' k=>(X0.out.keeps k).cells
 dsimp only [syc] at hb0
 have Ijt:Hid (∀ w',Keeps W w'->Calls Tryz.prog 19 #[.agg (syc s ⟨⟨yA,yB,yC⟩,⟨yD,yE,yF⟩,⟨yG,yH,yI⟩,⟨yJ,yK,yL⟩,⟨yM,yN,yO⟩⟩)] w' fun e w''=>e = .returned (.bool jt) /\ Keeps w' w''):=fun w' kk=>by
  have:=(HJ.out.1) w' _ s (HG.out.keeps (kW.trans kk)) (ON.out.keeps kk)
  rw [Hjt.out] at this
  exact this
 have Mjt:Hid (∀ w',Keeps W w'->Calls Tryz.prog 24 #[.agg (syc s ⟨⟨yA,yB,yC⟩,⟨yD,yE,yF⟩,⟨yG,yH,yI⟩,⟨yJ,yK,yL⟩,⟨yM,yN,yO⟩⟩)] w' fun e w''=>e = .returned (.bool jt) /\ Keeps w' w''):=fun w' kk=>by
  have:=qmk (ON.out.keeps kk)
  rw [Hjt.out] at this
  exact this
 have Ijd:Hid (∀ w',Keeps W w'->Calls Tryz.prog 20 #[.agg (syc s ⟨⟨yA,yB,yC⟩,⟨yD,yE,yF⟩,⟨yG,yH,yI⟩,⟨yJ,yK,yL⟩,⟨yM,yN,yO⟩⟩)] w' fun e w''=>e = .returned (.bool jd) /\ Keeps w' w''):=fun w' kk=>by
  have:=(HJ.out.2.1) w' _ s (HG.out.keeps (kW.trans kk)) (ON.out.keeps kk)
  rw [Hjd.out] at this
  exact this
 have Mjd:Hid (∀ w',Keeps W w'->Calls Tryz.prog 25 #[.agg (syc s ⟨⟨yA,yB,yC⟩,⟨yD,yE,yF⟩,⟨yG,yH,yI⟩,⟨yJ,yK,yL⟩,⟨yM,yN,yO⟩⟩)] w' fun e w''=>e = .returned (.bool jd) /\ Keeps w' w''):=fun w' kk=>by
  have:=qml (ON.out.keeps kk)
  rw [Hjd.out] at this
  exact this
 have Ijf:Hid (∀ w',Keeps W w'->Calls Tryz.prog 21 #[.agg (syc s ⟨⟨yA,yB,yC⟩,⟨yD,yE,yF⟩,⟨yG,yH,yI⟩,⟨yJ,yK,yL⟩,⟨yM,yN,yO⟩⟩)] w' fun e w''=>e = .returned (.bool jf) /\ Keeps w' w''):=fun w' kk=>by
  have:=(HJ.out.2.2.1) w' _ s (HG.out.keeps (kW.trans kk)) (ON.out.keeps kk)
  rw [Hjf.out] at this
  exact this
 have Mjf:Hid (∀ w',Keeps W w'->Calls Tryz.prog 26 #[.agg (syc s ⟨⟨yA,yB,yC⟩,⟨yD,yE,yF⟩,⟨yG,yH,yI⟩,⟨yJ,yK,yL⟩,⟨yM,yN,yO⟩⟩)] w' fun e w''=>e = .returned (.bool jf) /\ Keeps w' w''):=fun w' kk=>by
  have:=qmm (ON.out.keeps kk)
  rw [Hjf.out] at this
  exact this
 have Ijb:Hid (∀ w',Keeps W w'->Calls Tryz.prog 22 #[.agg (syc s ⟨⟨yA,yB,yC⟩,⟨yD,yE,yF⟩,⟨yG,yH,yI⟩,⟨yJ,yK,yL⟩,⟨yM,yN,yO⟩⟩)] w' fun e w''=>e = .returned (.bool jb) /\ Keeps w' w''):=fun w' kk=>by
  have:=(HJ.out.2.2.2.1) w' _ s (HG.out.keeps (kW.trans kk)) (ON.out.keeps kk)
  rw [Hjb.out] at this
  exact this
 have Mjb:Hid (∀ w',Keeps W w'->Calls Tryz.prog 27 #[.agg (syc s ⟨⟨yA,yB,yC⟩,⟨yD,yE,yF⟩,⟨yG,yH,yI⟩,⟨yJ,yK,yL⟩,⟨yM,yN,yO⟩⟩)] w' fun e w''=>e = .returned (.bool jb) /\ Keeps w' w''):=fun w' kk=>by
  have:=qmn (ON.out.keeps kk)
  rw [Hjb.out] at this
  exact this
 have Ija:Hid (∀ w',Keeps W w'->Calls Tryz.prog 23 #[.agg (syc s ⟨⟨yA,yB,yC⟩,⟨yD,yE,yF⟩,⟨yG,yH,yI⟩,⟨yJ,yK,yL⟩,⟨yM,yN,yO⟩⟩)] w' fun e w''=>e = .returned (.bool ja) /\ Keeps w' w''):=fun w' kk=>by
  have:=(HJ.out.2.2.2.2.1) w' _ s (HG.out.keeps (kW.trans kk)) (ON.out.keeps kk)
  rw [Hja.out] at this
  exact this
 have Mja:Hid (∀ w',Keeps W w'->Calls Tryz.prog 28 #[.agg (syc s ⟨⟨yA,yB,yC⟩,⟨yD,yE,yF⟩,⟨yG,yH,yI⟩,⟨yJ,yK,yL⟩,⟨yM,yN,yO⟩⟩)] w' fun e w''=>e = .returned (.bool ja) /\ Keeps w' w''):=fun w' kk=>by
  have:=qmo (ON.out.keeps kk)
  rw [Hja.out] at this
  exact this
 have Ial:Hid (∀ w',Keeps W w'->Calls Tryz.prog 30 #[.agg (syc s ⟨⟨yA,yB,yC⟩,⟨yD,yE,yF⟩,⟨yG,yH,yI⟩,⟨yJ,yK,yL⟩,⟨yM,yN,yO⟩⟩)] w' fun e w''=>e = .returned (.bool al) /\ Keeps w' w''):=fun w' kk=>by
  have:=(HJ.out.2.2.2.2.2) w' _ s (HG.out.keeps (kW.trans kk)) (ON.out.keeps kk)
  rw [Hal.out] at this
  exact this
 have MO:Hid (∀ w',Keeps W w'->Calls Tryz.prog 29 #[.agg (syc s ⟨⟨yA,yB,yC⟩,⟨yD,yE,yF⟩,⟨yG,yH,yI⟩,⟨yJ,yK,yL⟩,⟨yM,yN,yO⟩⟩)] w' fun e w''=>e = .returned (.bool (sysB s)) /\ Keeps w' w''):=fun w' kk=>qdf (ON.out.keeps kk)
 clear HJ HG
 refine wp_region_held_drew (S:=(fun w'=>Keeps W w')) (by kernel_rfl) ?_ (fun hHeld => ?_)
 ·exact (Keeps.refl W).drew
 refine Plan.go [0,2,4,6,8] ?_
 iterate 5 (refine qac (by simp only [qab];rfl) (by kernel_rfl) (by exact fun _ _ _ h=>h) (by rfl) (by assumption) (fun w _=>by go_simp;try (with_reducible rfl)) ?_;try simp only [qaa])
 refine Plan.nil ?_
 refine qad 1 (by kernel_rfl) (by simp only [qab];rfl) (fun K hK => ?_)
 go_simp
 first
  | (go_at_call 19;refine (Ijt.out _ (by assumption)).mono ?_;rintro e w2 ⟨rfl,k2⟩)
  | (go_at_call 20;refine (Ijd.out _ (by assumption)).mono ?_;rintro e w3 ⟨rfl,k3⟩)
  | (go_at_call 21;refine (Ijf.out _ (by assumption)).mono ?_;rintro e w4 ⟨rfl,k4⟩)
  | (go_at_call 22;refine (Ijb.out _ (by assumption)).mono ?_;rintro e w5 ⟨rfl,k5⟩)
  | (go_at_call 23;refine (Ija.out _ (by assumption)).mono ?_;rintro e w6 ⟨rfl,k6⟩)
 try go_wp2_with fail
 refine hK.out _ _ ?_ (fun hHeld => ?_)
 ·exact Keeps.trans (by assumption) (by assumption)
 clear hK K
 try simp only [qaa]
 refine qad 3 (by kernel_rfl) (by simp only [qab];rfl) (fun K hK => ?_)
 go_simp
 first
  | (go_at_call 19;refine (Ijt.out _ (by assumption)).mono ?_;rintro e w2 ⟨rfl,k2⟩)
  | (go_at_call 20;refine (Ijd.out _ (by assumption)).mono ?_;rintro e w3 ⟨rfl,k3⟩)
  | (go_at_call 21;refine (Ijf.out _ (by assumption)).mono ?_;rintro e w4 ⟨rfl,k4⟩)
  | (go_at_call 22;refine (Ijb.out _ (by assumption)).mono ?_;rintro e w5 ⟨rfl,k5⟩)
  | (go_at_call 23;refine (Ija.out _ (by assumption)).mono ?_;rintro e w6 ⟨rfl,k6⟩)
 try go_wp2_with fail
 refine hK.out _ _ ?_ (fun hHeld => ?_)
 ·exact Keeps.trans (by assumption) (by assumption)
 clear hK K
 try simp only [qaa]
 refine qad 5 (by kernel_rfl) (by simp only [qab];rfl) (fun K hK => ?_)
 go_simp
 first
  | (go_at_call 19;refine (Ijt.out _ (by assumption)).mono ?_;rintro e w2 ⟨rfl,k2⟩)
  | (go_at_call 20;refine (Ijd.out _ (by assumption)).mono ?_;rintro e w3 ⟨rfl,k3⟩)
  | (go_at_call 21;refine (Ijf.out _ (by assumption)).mono ?_;rintro e w4 ⟨rfl,k4⟩)
  | (go_at_call 22;refine (Ijb.out _ (by assumption)).mono ?_;rintro e w5 ⟨rfl,k5⟩)
  | (go_at_call 23;refine (Ija.out _ (by assumption)).mono ?_;rintro e w6 ⟨rfl,k6⟩)
 try go_wp2_with fail
 refine hK.out _ _ ?_ (fun hHeld => ?_)
 ·exact Keeps.trans (by assumption) (by assumption)
 clear hK K
 try simp only [qaa]
 refine qad 7 (by kernel_rfl) (by simp only [qab];rfl) (fun K hK => ?_)
 go_simp
 first
  | (go_at_call 19;refine (Ijt.out _ (by assumption)).mono ?_;rintro e w2 ⟨rfl,k2⟩)
  | (go_at_call 20;refine (Ijd.out _ (by assumption)).mono ?_;rintro e w3 ⟨rfl,k3⟩)
  | (go_at_call 21;refine (Ijf.out _ (by assumption)).mono ?_;rintro e w4 ⟨rfl,k4⟩)
  | (go_at_call 22;refine (Ijb.out _ (by assumption)).mono ?_;rintro e w5 ⟨rfl,k5⟩)
  | (go_at_call 23;refine (Ija.out _ (by assumption)).mono ?_;rintro e w6 ⟨rfl,k6⟩)
 try go_wp2_with fail
 refine hK.out _ _ ?_ (fun hHeld => ?_)
 ·exact Keeps.trans (by assumption) (by assumption)
 clear hK K
 try simp only [qaa]
 refine qad 9 (by kernel_rfl) (by simp only [qab];rfl) (fun K hK => ?_)
 go_simp
 first
  | (go_at_call 19;refine (Ijt.out _ (by assumption)).mono ?_;rintro e w2 ⟨rfl,k2⟩)
  | (go_at_call 20;refine (Ijd.out _ (by assumption)).mono ?_;rintro e w3 ⟨rfl,k3⟩)
  | (go_at_call 21;refine (Ijf.out _ (by assumption)).mono ?_;rintro e w4 ⟨rfl,k4⟩)
  | (go_at_call 22;refine (Ijb.out _ (by assumption)).mono ?_;rintro e w5 ⟨rfl,k5⟩)
  | (go_at_call 23;refine (Ija.out _ (by assumption)).mono ?_;rintro e w6 ⟨rfl,k6⟩)
 try go_wp2_with fail
 refine hK.out _ _ ?_ (fun hHeld => ?_)
 ·exact Keeps.trans (by assumption) (by assumption)
 clear hK K
 try simp only [qaa]
 refine Plan.go [10,11,12,13,14] ?_
 iterate 5 (refine qac (by simp only [qab];rfl) (by kernel_rfl) (by exact fun _ _ _ h=>h) (by rfl) (by assumption) (fun w _=>by go_simp;try (with_reducible rfl)) ?_;try simp only [qaa])
 refine Plan.nil ?_
 refine wpAnyH_done (by kernel_rfl) ?_ _
 have K6:Keeps W w6:=by assumption
 have n1:=nB jt
 have n2:=nB jd
 have n3:=nB jf
 have n4:=nB jb
 have n5:=nB ja
 clear k2 k3 k4 k5 k6 hHeld Ijt Ijd Ijf Ijb Ija nB
 have r6:∀ w',Keeps w6 w'->∀ q,w'.cell? ⟨xb,q,none⟩=_:=fun w' k=>hb0 w' (K6.trans k)
 clear hb0
 go_upto_region 7 with first
  | (go_at_call 24;refine (Mjt.out _ K6).mono ?_;rintro e w2 ⟨rfl,k2⟩;have q2:Keeps w6 w2:=k2)
  | (go_at_call 25;refine (Mjd.out _ (K6.trans q2)).mono ?_;rintro e w3 ⟨rfl,k3⟩;have q3:Keeps w6 w3:=q2.trans k3)
  | (go_at_call 26;refine (Mjf.out _ (K6.trans q3)).mono ?_;rintro e w4 ⟨rfl,k4⟩;have q4:Keeps w6 w4:=q3.trans k4)
  | (go_at_call 27;refine (Mjb.out _ (K6.trans q4)).mono ?_;rintro e w5 ⟨rfl,k5⟩;have q5:Keeps w6 w5:=q4.trans k5)
  | (go_at_call 28;refine (Mja.out _ (K6.trans q5)).mono ?_;rintro e w7 ⟨rfl,k7⟩;have q7:Keeps w6 w7:=q5.trans k7)
 have K7:Keeps W w7:=K6.trans q7
 have r7:∀ w',Keeps w7 w'->∀ q,w'.cell? ⟨xb,q,none⟩=_:=fun w' k=>r6 w' (q7.trans k)
 clear r6 K6 q2 q3 q4 q5 q7 k2 k3 k4 k5 k7 Mjt Mjd Mjf Mjb Mja n1 n2 n3 n4 n5
 go_upto_if 53 with (go_at_call 29;refine (MO.out _ K7).mono ?_;rintro e w8 ⟨rfl,k8⟩)
 have K8:Keeps W w8:=K7.trans k8
 have r8:∀ w',Keeps w8 w'->∀ q,w'.cell? ⟨xb,q,none⟩=_:=fun w' k=>r7 w' (k8.trans k)
 clear r7 K7 k8 MO
 cases hsb:sysB s
 ·obtain ⟨e1,e2,e3,e4,e5,e6⟩:=qmS hsb
  rw [Hjt.out] at e1
  rw [Hjd.out] at e2
  rw [Hjf.out] at e3
  rw [Hjb.out] at e4
  rw [Hja.out] at e5
  rw [Hal.out] at e6
  subst e1 e2 e3 e4 e5 e6
  go_wp2_with (go_at_call 30;refine (Ial.out _ K8).mono ?_;rintro e w9 ⟨rfl,k9⟩)
  go_ret
  exact ⟨rfl,(kW.trans K8).trans k9⟩
 obtain ⟨e4,e5⟩:=qmT hsb
 rw [Hjb.out] at e4
 rw [Hja.out] at e5
 have e6:al=(jt&&(jd&&(jf&&(jb&&ja)))):=by rw [<- Hal.out,<- Hjt.out,<- Hjd.out,<- Hjf.out,<- Hjb.out,<- Hja.out];rfl
 subst e4 e5
 clear Hjt Hjd Hjf Hjb Hja Hal ON X0
 cases jt <;> cases jd <;> cases jf <;>
 (first | obtain rfl:al=false:=e6 | obtain rfl:al=true:=e6) <;>
 (go_wp2_with (go_at_call 30;refine (Ial.out _ K8).mono ?_;rintro e w9 ⟨rfl,k9⟩)) <;>
 (go_ret) <;>
 exact ⟨rfl,(kW.trans K8).trans k9⟩
end Go.Proofs.YthpdlbcdbncnhaaGreatDoor
