/-
  The program's calls: of the kind 6, taken back where it fai
-/
import Derived.Test.YteagpjlgjfaclaaGreatDoorTaskDel
import Derived.Laws.EntriesVeiled
import Derived.Test.YteagpjlgjfaclaaGreatDoorCallSpec
namespace Go.Proofs.YteagpjlgjfaclaaGreatDoor
set_option maxRecDepth 100000
open Go.RowKit
attribute [local go_sem] aa.refl aa.alloc aa.drew aa.drewN
set_option maxHeartbeats 1000000 in
theorem rz (w:World) :
  Calls Tryz.prog 79 #[.int .i64 6] w fun e w'=>e = .returned (.func (.func 135) #[] #[]) /\ aa w w':=by
 go_enter Tryz.func79,Tryz.ntmps79
 go_wp2
 go_ret
 exact ⟨rfl,(aa.refl w).alloc _⟩
def tN (s s':Sy) (er:Nat->Addr) (n:Nat) (w:World) (e:Ending) (w':World):Prop :=
 ∃ v vs,e = .returned (.tuple #[.agg (ae (if n=0 then s' else s) v),gJ er n]) /\ ay w' w.heap.size v vs (if n=0 then s' else s) /\ aa w w'
set_option linter.unusedSimpArgs false in
set_option maxHeartbeats 8000000 in
theorem EE (v:Sv) (s s':Sy) (w:World) (h:aA w v s) (hsz:bE s <= 1048576) (no cpu a b:Int) {er:Nat->Addr} (E:cQ w er) (n:Nat)
  (H:∀ (W:World) (lo ob:Nat) (v1:Sv) (vs1:List Lv),br W lo ob v1 vs1 s->lo <= W.heap.size->cQ W er->oq lo er->(∃ tb,v1.t.a=some ⟨tb,0,none⟩)->Calls Tryz.prog 135 #[.pointer (some ⟨ob,0,none⟩),ck ⟨6,no,cpu,a,b⟩] W (rD lo ob v1 vs1 s er n s' W)) :
  Calls Tryz.prog 36 #[.agg (ae s v),ck ⟨6,no,cpu,a,b⟩] w (tN s s' er n w):=by
 have Kl:∀ (fn:Fn) (first cap:Array Value) (w:World),(Instr.makeFunc fn first cap).run Tryz.prog w = .ok (.func fn first cap) w:=fun _ _ _ _=>rfl
 have kW:aa w ((((w.alloc (.cells (ae s v) 30)).alloc (.cells (cc ⟨6,no,cpu,a,b⟩) 32)).alloc (.cells dZ 30)).alloc (.cells #[.nilIface] 63)):=((((aa.refl w).alloc _).alloc _).alloc _).alloc _
 have B1:Hid (aq ((((w.alloc (.cells (ae s v) 30)).alloc (.cells (cc ⟨6,no,cpu,a,b⟩) 32)).alloc (.cells dZ 30)).alloc (.cells #[.nilIface] 63)) w.heap.size (ae s v)):=(((aq.new _ _ _).alloc _).alloc _).alloc _
 have B2:Hid (aq ((((w.alloc (.cells (ae s v) 30)).alloc (.cells (cc ⟨6,no,cpu,a,b⟩) 32)).alloc (.cells dZ 30)).alloc (.cells #[.nilIface] 63)) (w.heap.size+1) (cc ⟨6,no,cpu,a,b⟩)):=by
  have:=((aq.new (w.alloc (.cells (ae s v) 30)) (cc ⟨6,no,cpu,a,b⟩) 32).alloc (.cells dZ 30)).alloc (.cells #[.nilIface] 63)
  show aq _ _ _
  simpa using this
 have B3:Hid (aq ((((w.alloc (.cells (ae s v) 30)).alloc (.cells (cc ⟨6,no,cpu,a,b⟩) 32)).alloc (.cells dZ 30)).alloc (.cells #[.nilIface] 63)) (w.heap.size+1+1) dZ):=by
  have:=(aq.new ((w.alloc (.cells (ae s v) 30)).alloc (.cells (cc ⟨6,no,cpu,a,b⟩) 32)) dZ 30).alloc (.cells #[.nilIface] 63)
  show aq _ _ _
  simpa using this
 have B4:Hid (aq ((((w.alloc (.cells (ae s v) 30)).alloc (.cells (cc ⟨6,no,cpu,a,b⟩) 32)).alloc (.cells dZ 30)).alloc (.cells #[.nilIface] 63)) (w.heap.size+1+1+1) #[.nilIface]):=by
  have:=aq.new (((w.alloc (.cells (ae s v) 30)).alloc (.cells (cc ⟨6,no,cpu,a,b⟩) 32)).alloc (.cells dZ 30)) #[.nilIface] 63
  show aq _ _ _
  simpa using this
 have hws:w.heap.size+1+1+1 < ((((w.alloc (.cells (ae s v) 30)).alloc (.cells (cc ⟨6,no,cpu,a,b⟩) 32)).alloc (.cells dZ 30)).alloc (.cells #[.nilIface] 63)).heap.size:=by simp
 have HS:Hid (aA w v s):=h
 have HE:Hid (cQ w er):=E
 have HH:Hid (∀ (W:World) (lo ob:Nat) (v1:Sv) (vs1:List Lv),br W lo ob v1 vs1 s->lo <= W.heap.size->cQ W er->oq lo er->(∃ tb,v1.t.a=some ⟨tb,0,none⟩)->Calls Tryz.prog 135 #[.pointer (some ⟨ob,0,none⟩),ck ⟨6,no,cpu,a,b⟩] W (rD lo ob v1 vs1 s er n s' W)):=H
 clear E h H
 go_enter_defers Tryz.func36,Tryz.ntmps36
 go_upto_region 1 with fail
 change Code.wp _ _ _ _ ((((w.alloc (.cells (ae s v) 30)).alloc (.cells (cc ⟨6,no,cpu,a,b⟩) 32)).alloc (.cells dZ 30)).alloc (.cells #[.nilIface] 63))
 generalize ((((w.alloc (.cells (ae s v) 30)).alloc (.cells (cc ⟨6,no,cpu,a,b⟩) 32)).alloc (.cells dZ 30)).alloc (.cells #[.nilIface] 63))=W at *
 obtain ⟨cb,hcb⟩:∃ x,w.heap.size+1=x:=⟨_,rfl⟩
 rw [hcb] at B2 B3 B4 hws ⊢
 obtain ⟨ob,eS⟩:∃ x,cb+1=x:=⟨_,rfl⟩
 rw [eS] at B3 B4 hws ⊢
 obtain ⟨rb,hrb⟩:∃ x,ob+1=x:=⟨_,rfl⟩
 rw [hrb] at B4 hws ⊢
 have i1:w.heap.size < cb:=by omega
 have i2:cb < ob:=by omega
 have i3:ob < rb:=by omega
 have i4:rb < W.heap.size:=hws
 clear hcb eS hrb hws
 have EB:oq ob er:=⟨by have:=HE.out.low;omega,fun k h1 h2=>by obtain ⟨c,ty,e⟩:=HE.out.lies k h1 h2;have:=(Array.getElem?_eq_some_iff.1 e).1;omega⟩
 have cC:=xZ v s W (HS.out.keeps kW) hsz
 have z1:=B1.out.cells
 dsimp only [ae] at z1
 go_upto_region 2 with (go_at_call 77;refine cC.mono ?_;rintro e w1 ⟨v1,vs1,rfl,o1,k1,rE⟩;obtain ⟨_,z5,z6⟩:=B3.out.keeps k1;dsimp only [dZ] at z5)
 have KB:ab ob W (putC w1 ob 0 (ae s v1).toList):=ab.gK _ _ _ (.of k1)
 have VV:Hid (br (putC w1 ob 0 (ae s v1).toList) ob ob v1 vs1 s):=by
  have far:∀ i,¬ aX v1 vs1 i ob:=fun i hi=>by have:=(o1.aG hi).1;omega
  exact ⟨(B3.out.keeps k1).putC (ae s v1).toList rfl,(ay.aT far _ _ o1).base (by omega),Nat.le_refl _,far⟩
 have OF:Hid (∀ i b,aX v1 vs1 i b->W.heap.size <= b):=fun i b hi=>(o1.aG hi).1
 have C1:Hid (aq (putC w1 ob 0 (ae s v1).toList) w.heap.size (ae s v)):=B1.out.aside KB (by omega)
 have C2:Hid (aq (putC w1 ob 0 (ae s v1).toList) cb (cc ⟨6,no,cpu,a,b⟩)):=B2.out.aside KB (by omega)
 have C4:Hid (aq (putC w1 ob 0 (ae s v1).toList) rb #[.nilIface]):=B4.out.aside KB (by omega)
 have KX:Hid (aa w (putC w1 ob 0 (ae s v1).toList)):=KB.keeps kW (by omega)
 have HX:Hid (ob <= (putC w1 ob 0 (ae s v1).toList).heap.size):=by show _ <= _;have:=KB.size;omega
 change Code.wp _ _ _ _ (putC w1 ob 0 (ae s v1).toList)
 clear z1 z5 z6 cC B1 B2 B3 B4 KB o1 k1 kW
 generalize putC w1 ob 0 (ae s v1).toList=X at *
 go_upto_region 3 with fail
 by_cases hn0:n=0
 ·have mZ:Hid (gJ er n = .nilIface):=if_pos hn0
  have e0:∀ w',aq w' cb (cc ⟨6,no,cpu,a,b⟩)->∀ q,w'.cell? ⟨cb,q,none⟩=(cc ⟨6,no,cpu,a,b⟩)[q]?:=fun w' h=>h.cells
  refine rF ?_
  refine kt 5 (S:=(fun w'=>aq w' cb (cc ⟨6,no,cpu,a,b⟩))) (by kernel_rfl) ?_ (fun hHeld => ?_)
  ·exact C2.out.keeps (aa.refl X).drew
  refine ad.go [0,1,3] ?_
  iterate 3 (refine gN (h := ?_);try simp only [au])
  refine ad.nil ?_
  refine gy (i:=2) (h:=fun K hK => ?_)
  go_simp
  first
   | (go_at_call 79;refine (rz _).mono ?_;rintro e w3 ⟨rfl,k3⟩;have K3:aa X w3:=(aa.refl X).drew.trans k3;have D3:aq w3 cb (cc ⟨6,no,cpu,a,b⟩):=C2.out.keeps K3)
   | (have HM:=HH.out w3 ob ob v1 vs1 (VV.out.keeps K3) (Nat.le_trans HX.out K3.size) (HE.out.keeps (KX.out.trans K3)) EB rE;go_at_call 135;refine HM.mono ?_;rintro e w4 ⟨rfl,t4,n4,s1,v4,b4,-⟩;rw [mZ.out];have D4:aq w4 cb (cc ⟨6,no,cpu,a,b⟩):=l7 t4 D3 (by rintro (hh | ⟨i,hi⟩);exact absurd hh (by omega);have:=OF.out i _ hi;omega))
  try go_wp2_with fail
  refine hK.out _ _ ?_ fun hHeld => ?_
  ·assumption
  clear hK K
  try simp only [au]
  refine gy (i:=4) (h:=fun K hK => ?_)
  go_simp
  first
   | (go_at_call 79;refine (rz _).mono ?_;rintro e w3 ⟨rfl,k3⟩;have K3:aa X w3:=(aa.refl X).drew.trans k3;have D3:aq w3 cb (cc ⟨6,no,cpu,a,b⟩):=C2.out.keeps K3)
   | (have HM:=HH.out w3 ob ob v1 vs1 (VV.out.keeps K3) (Nat.le_trans HX.out K3.size) (HE.out.keeps (KX.out.trans K3)) EB rE;go_at_call 135;refine HM.mono ?_;rintro e w4 ⟨rfl,t4,n4,s1,v4,b4,-⟩;rw [mZ.out];have D4:aq w4 cb (cc ⟨6,no,cpu,a,b⟩):=l7 t4 D3 (by rintro (hh | ⟨i,hi⟩);exact absurd hh (by omega);have:=OF.out i _ hi;omega))
  try go_wp2_with fail
  refine hK.out _ _ ?_ fun hHeld => ?_
  ·assumption
  clear hK K
  try simp only [au]
  refine ku (h:=fun K hK => ?_)
  have R4:Hid (aq w4 rb #[.nilIface]):=l7 t4 (C4.out.keeps K3) (by rintro (hh | ⟨i,hi⟩);exact absurd hh (by omega);have:=OF.out i _ hi;omega);obtain ⟨_,y5,y6⟩:=R4.out
  go_simp
  try go_wp2_with fail
  refine hK.out _ _ ?_
  clear hK K
  try simp only [au]
  have i5:rb < w3.heap.size:=Nat.lt_of_lt_of_le C4.out.lt K3.size
  obtain ⟨v5,eV,V4,old⟩:=n4 hn0
  have F5:Hid (∀ i,¬ aX v5 eV i rb):=fun i hi=>by
   rcases old i rb hi with ⟨j,hj⟩ | hj
   ·have:=OF.out j _ hj;omega
   ·omega
  have O5:Hid (ay (w4.setCell ⟨rb,0,none⟩ .nilIface) ob v5 eV s'):=V4.own.far F5.out _
  have F6:Hid (∀ i,¬ aX v5 eV i ob):=V4.far
  have pS:=V4.box
  have K5:Hid (aa w (w4.setCell ⟨rb,0,none⟩ .nilIface)):=(t4.keeps (KX.out.trans K3) (by rintro q (hh | ⟨i,hi⟩);omega;have:=OF.out i _ hi;omega)).setCell (by show _ <= rb;omega) _
  have S5:Hid (aq (w4.setCell ⟨rb,0,none⟩ .nilIface) w.heap.size (ae s v)):=(l7 t4 (C1.out.keeps K3) (by rintro (hh | ⟨i,hi⟩);exact absurd hh (by omega);have:=OF.out i _ hi;omega)).far (by omega) _
  have B5:Hid (eM ob rb (ae s' v5) #[.nilIface] (w4.setCell ⟨rb,0,none⟩ .nilIface)):=⟨pS.far (by omega) _,R4.out.set 0 (by simp) _⟩
  change Exit.then _ _ _ _ (w4.setCell ⟨rb,0,none⟩ .nilIface)
  clear y5 y6 R4 D3 D4 e0 K3 t4 n4 b4 pS C1 C2 C4 VV k3 hHeld HM
  generalize w4.setCell ⟨rb,0,none⟩ .nilIface=Y at *
  have e1:∀ w',eM ob rb (ae s' v5) #[.nilIface] w'->∀ q,w'.cell? ⟨ob,q,none⟩=(ae s' v5)[q]?:=fun w' h=>h.1.cells
  have e2:∀ w',eM ob rb (ae s' v5) #[.nilIface] w'->∀ q,w'.cell? ⟨rb,q,none⟩=#[.nilIface][q]?:=fun w' h=>h.2.cells
  have e3:∀ w',eM ob rb (ae s' v5) #[.nilIface] w'->∀ q,w'.frozen? ⟨ob,q,none⟩=false:=fun w' h=>h.1.aO
  have e4:∀ w',eM ob rb (ae s' v5) #[.nilIface] w'->∀ q,w'.frozen? ⟨rb,q,none⟩=false:=fun w' h=>h.2.aO
  go_upto_region 4 with fail
  refine rF ?_
  refine wp_region_held_drew (S:=(fun w'=>eM ob rb (ae s' v5) #[.nilIface] w')) (by kernel_rfl) ?_ (fun hHeld => ?_)
  ·exact ⟨B5.out.1.keeps (aa.refl Y).drew,B5.out.2.keeps (aa.refl Y).drew⟩
  refine ad.go [0,1] ?_
  iterate 2 (refine aM (h := ?_);try simp only [au])
  refine ad.nil ?_
  refine aR 2 (h:=fun K hK => ?_)
  obtain ⟨_,g1,g2⟩:=B5.out.1;obtain ⟨_,g5,g6⟩:=B5.out.2;have hne1:ob≠rb:=(by omega);have hne2:rb≠ob:=(by omega);dsimp only [ae] at g1
  go_simp
  try go_wp2_with fail
  refine hK.out _ _ ?_ fun hHeld => ?_
  ·exact ⟨(B5.out.1.putC (ae s' v5).toList rfl).keeps (aa.refl _).drew,(aq.aT (c:=ob) (by omega) (ae s' v5).toList 0 B5.out.2).keeps (aa.refl _).drew⟩
  clear hK K
  try simp only [au]
  refine aR 3 (h:=fun K hK => ?_)
  skip
  go_simp
  try go_wp2_with fail
  refine hK.out _ _ ?_ fun hHeld => ?_
  ·exact ⟨((B5.out.1.putC (ae s' v5).toList rfl).far (c:=rb) (by omega) _).keeps (aa.refl _).drew,((aq.aT (c:=ob) (by omega) (ae s' v5).toList 0 B5.out.2).set 0 (by simp) _).keeps (aa.refl _).drew⟩
  clear hK K
  try simp only [au]
  refine wpAnyH_done (by kernel_rfl) ?_ _
  have HZ:Hid (eM ob rb (ae s' v5) #[.nilIface] ((putC Y ob 0 (ae s' v5).toList).setCell ⟨rb,0,none⟩ .nilIface).drew):=hHeld
  have KZ:Hid (aa w ((putC Y ob 0 (ae s' v5).toList).setCell ⟨rb,0,none⟩ .nilIface).drew):=((aa.putC (b:=ob) (by omega) _ 0 K5.out).setCell (by show _ <= rb;omega) _).drew
  have OZ:Hid (ay ((putC Y ob 0 (ae s' v5).toList).setCell ⟨rb,0,none⟩ .nilIface).drew ob v5 eV s'):=((ay.aT F6.out _ 0 O5.out).far F5.out _).keeps (aa.refl _).drew
  change Exit.then _ _ _ _ ((putC Y ob 0 (ae s' v5).toList).setCell ⟨rb,0,none⟩ .nilIface).drew
  clear e1 e2 e3 e4 B5 K5 hHeld S5
  generalize ((putC Y ob 0 (ae s' v5).toList).setCell ⟨rb,0,none⟩ .nilIface).drew=Z at *
  go_wp2
  refine leaves_cons (f:=78) (args:=#[.pointer (some ⟨rb,0,none⟩),.pointer (some ⟨w.heap.size,0,none⟩),.pointer (some ⟨ob,0,none⟩)]) (by simp) (by simp [go_sem]) ?_
  refine (ER _ _ _ _ HZ.out.2).mono ?_
  rintro e u' w'' ⟨rfl,rfl,rfl⟩
  have y1:=HZ.out.1.cells
  have y2:=HZ.out.2.cells
  simp [Leaves,settle,results,Tryz.results36,go_sem,y1,y2]
  exact ⟨v5,eV,by rw [if_pos hn0,mZ.out],by rw [if_pos hn0];exact OZ.out.base (by omega),KZ.out⟩
 ·have mZ:Hid (gJ er n = .iface 284 (.pointer (some (er n)))):=if_neg hn0
  have e0:∀ w',aq w' cb (cc ⟨6,no,cpu,a,b⟩)->∀ q,w'.cell? ⟨cb,q,none⟩=(cc ⟨6,no,cpu,a,b⟩)[q]?:=fun w' h=>h.cells
  refine rF ?_
  refine kt 5 (S:=(fun w'=>aq w' cb (cc ⟨6,no,cpu,a,b⟩))) (by kernel_rfl) ?_ (fun hHeld => ?_)
  ·exact C2.out.keeps (aa.refl X).drew
  refine ad.go [0,1,3] ?_
  iterate 3 (refine gN (h := ?_);try simp only [au])
  refine ad.nil ?_
  refine gy (i:=2) (h:=fun K hK => ?_)
  go_simp
  first
   | (go_at_call 79;refine (rz _).mono ?_;rintro e w3 ⟨rfl,k3⟩;have K3:aa X w3:=(aa.refl X).drew.trans k3;have D3:aq w3 cb (cc ⟨6,no,cpu,a,b⟩):=C2.out.keeps K3)
   | (have HM:=HH.out w3 ob ob v1 vs1 (VV.out.keeps K3) (Nat.le_trans HX.out K3.size) (HE.out.keeps (KX.out.trans K3)) EB rE;go_at_call 135;refine HM.mono ?_;rintro e w4 ⟨rfl,t4,n4,s1,v4,b4,-⟩;rw [mZ.out];have D4:aq w4 cb (cc ⟨6,no,cpu,a,b⟩):=l7 t4 D3 (by rintro (hh | ⟨i,hi⟩);exact absurd hh (by omega);have:=OF.out i _ hi;omega))
  try go_wp2_with fail
  refine hK.out _ _ ?_ fun hHeld => ?_
  ·assumption
  clear hK K
  try simp only [au]
  refine gy (i:=4) (h:=fun K hK => ?_)
  go_simp
  first
   | (go_at_call 79;refine (rz _).mono ?_;rintro e w3 ⟨rfl,k3⟩;have K3:aa X w3:=(aa.refl X).drew.trans k3;have D3:aq w3 cb (cc ⟨6,no,cpu,a,b⟩):=C2.out.keeps K3)
   | (have HM:=HH.out w3 ob ob v1 vs1 (VV.out.keeps K3) (Nat.le_trans HX.out K3.size) (HE.out.keeps (KX.out.trans K3)) EB rE;go_at_call 135;refine HM.mono ?_;rintro e w4 ⟨rfl,t4,n4,s1,v4,b4,-⟩;rw [mZ.out];have D4:aq w4 cb (cc ⟨6,no,cpu,a,b⟩):=l7 t4 D3 (by rintro (hh | ⟨i,hi⟩);exact absurd hh (by omega);have:=OF.out i _ hi;omega))
  try go_wp2_with fail
  refine hK.out _ _ ?_ fun hHeld => ?_
  ·assumption
  clear hK K
  try simp only [au]
  refine ku (h:=fun K hK => ?_)
  have R4:Hid (aq w4 rb #[.nilIface]):=l7 t4 (C4.out.keeps K3) (by rintro (hh | ⟨i,hi⟩);exact absurd hh (by omega);have:=OF.out i _ hi;omega);obtain ⟨_,y5,y6⟩:=R4.out
  go_simp
  try go_wp2_with fail
  refine hK.out _ _ ?_
  clear hK K
  try simp only [au]
  have i5:rb < w3.heap.size:=Nat.lt_of_lt_of_le C4.out.lt K3.size
  have pS:=b4
  have K5:Hid (aa w (w4.setCell ⟨rb,0,none⟩ (.iface 284 (.pointer (some (er n)))))):=(t4.keeps (KX.out.trans K3) (by rintro q (hh | ⟨i,hi⟩);omega;have:=OF.out i _ hi;omega)).setCell (by show _ <= rb;omega) _
  have S5:Hid (aq (w4.setCell ⟨rb,0,none⟩ (.iface 284 (.pointer (some (er n))))) w.heap.size (ae s v)):=(l7 t4 (C1.out.keeps K3) (by rintro (hh | ⟨i,hi⟩);exact absurd hh (by omega);have:=OF.out i _ hi;omega)).far (by omega) _
  have B5:Hid (eM ob rb (ae s1 v4) #[(.iface 284 (.pointer (some (er n))))] (w4.setCell ⟨rb,0,none⟩ (.iface 284 (.pointer (some (er n)))))):=⟨pS.far (by omega) _,R4.out.set 0 (by simp) _⟩
  change Exit.then _ _ _ _ (w4.setCell ⟨rb,0,none⟩ (.iface 284 (.pointer (some (er n)))))
  clear y5 y6 R4 D3 D4 e0 K3 t4 n4 b4 pS C1 C2 C4 VV k3 hHeld HM
  generalize w4.setCell ⟨rb,0,none⟩ (.iface 284 (.pointer (some (er n))))=Y at *
  have e1:∀ w',eM ob rb (ae s1 v4) #[(.iface 284 (.pointer (some (er n))))] w'->∀ q,w'.cell? ⟨ob,q,none⟩=(ae s1 v4)[q]?:=fun w' h=>h.1.cells
  have e2:∀ w',eM ob rb (ae s1 v4) #[(.iface 284 (.pointer (some (er n))))] w'->∀ q,w'.cell? ⟨rb,q,none⟩=#[(.iface 284 (.pointer (some (er n))))][q]?:=fun w' h=>h.2.cells
  have e3:∀ w',eM ob rb (ae s1 v4) #[(.iface 284 (.pointer (some (er n))))] w'->∀ q,w'.frozen? ⟨ob,q,none⟩=false:=fun w' h=>h.1.aO
  have e4:∀ w',eM ob rb (ae s1 v4) #[(.iface 284 (.pointer (some (er n))))] w'->∀ q,w'.frozen? ⟨rb,q,none⟩=false:=fun w' h=>h.2.aO
  go_upto_region 4 with fail
  refine rF ?_
  refine wp_region_held_drew (S:=(fun w'=>eM ob rb (ae s1 v4) #[(.iface 284 (.pointer (some (er n))))] w')) (by kernel_rfl) ?_ (fun hHeld => ?_)
  ·exact ⟨B5.out.1.keeps (aa.refl Y).drew,B5.out.2.keeps (aa.refl Y).drew⟩
  refine ad.go [0,1] ?_
  iterate 2 (refine aM (h := ?_);try simp only [au])
  refine ad.nil ?_
  refine aR 2 (h:=fun K hK => ?_)
  obtain ⟨_,g1,g2⟩:=B5.out.1;obtain ⟨_,g5,g6⟩:=B5.out.2;have hne1:ob≠rb:=(by omega);have hne2:rb≠ob:=(by omega);dsimp only [ae] at g1
  go_simp
  try go_wp2_with fail
  refine hK.out _ _ ?_ fun hHeld => ?_
  ·exact ⟨(B5.out.1.putC (ae s1 v4).toList rfl).keeps (aa.refl _).drew,(aq.aT (c:=ob) (by omega) (ae s1 v4).toList 0 B5.out.2).keeps (aa.refl _).drew⟩
  clear hK K
  try simp only [au]
  refine aR 3 (h:=fun K hK => ?_)
  skip
  go_simp
  try go_wp2_with fail
  refine hK.out _ _ ?_ fun hHeld => ?_
  ·exact ⟨((B5.out.1.putC (ae s1 v4).toList rfl).far (c:=rb) (by omega) _).keeps (aa.refl _).drew,((aq.aT (c:=ob) (by omega) (ae s1 v4).toList 0 B5.out.2).set 0 (by simp) _).keeps (aa.refl _).drew⟩
  clear hK K
  try simp only [au]
  refine wpAnyH_done (by kernel_rfl) ?_ _
  have HZ:Hid (eM ob rb (ae s1 v4) #[(.iface 284 (.pointer (some (er n))))] ((putC Y ob 0 (ae s1 v4).toList).setCell ⟨rb,0,none⟩ (.iface 284 (.pointer (some (er n))))).drew):=hHeld
  have KZ:Hid (aa w ((putC Y ob 0 (ae s1 v4).toList).setCell ⟨rb,0,none⟩ (.iface 284 (.pointer (some (er n))))).drew):=((aa.putC (b:=ob) (by omega) _ 0 K5.out).setCell (by show _ <= rb;omega) _).drew
  have SZ:Hid (aq ((putC Y ob 0 (ae s1 v4).toList).setCell ⟨rb,0,none⟩ (.iface 284 (.pointer (some (er n))))).drew w.heap.size (ae s v)):=((aq.aT (c:=ob) (by omega) _ 0 S5.out).far (c:=rb) (by omega) _).keeps (aa.refl _).drew
  change Exit.then _ _ _ _ ((putC Y ob 0 (ae s1 v4).toList).setCell ⟨rb,0,none⟩ (.iface 284 (.pointer (some (er n))))).drew
  clear e1 e2 e3 e4 B5 K5 hHeld S5
  generalize ((putC Y ob 0 (ae s1 v4).toList).setCell ⟨rb,0,none⟩ (.iface 284 (.pointer (some (er n))))).drew=Z at *
  go_wp2
  refine leaves_cons (f:=78) (args:=#[.pointer (some ⟨rb,0,none⟩),.pointer (some ⟨w.heap.size,0,none⟩),.pointer (some ⟨ob,0,none⟩)]) (by simp) (by simp [go_sem]) ?_
  refine (ES _ _ _ _ _ s1 v4 v s _ HZ.out.2 SZ.out HZ.out.1 (HS.out.keeps KZ.out) hsz).mono ?_
  rintro e u' w'' ⟨rfl,v6,eD,rfl,o6,b6,k6⟩
  have y1:=b6.cells
  have y2:=(HZ.out.2.aside k6 (by omega)).cells
  simp [Leaves,settle,results,Tryz.results36,go_sem,y1,y2]
  exact ⟨v6,eD,by rw [if_neg hn0,mZ.out],by rw [if_neg hn0];exact o6.base (aa.size KZ.out),k6.keeps KZ.out (by omega)⟩
end Go.Proofs.YteagpjlgjfaclaaGreatDoor
