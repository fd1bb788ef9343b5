/- The contract of order.Check. -/
import Derived.Test.YtekcjfdllclphaaGreatDoorMQbOrJ
import Derived.Test.YtekcjfdllclphaaGreatDoorMQbSlCk
import Derived.Test.YtekcjfdllclphaaGreatDoorMQbSlAp
import Derived.Deep.RegionHeld3
set_option linter.unusedVariables false
set_option linter.unusedSimpArgs false
section
namespace Go.Proofs.YtekcjfdllclphaaGreatDoor.gn
open Go.RowKit
open Go.Proofs.YtekcjfdllclphaaGreatDoor.un
open Go.Proofs.YtekcjfdllclphaaGreatDoor.di
open Go.Proofs.YtekcjfdllclphaaGreatDoor.sp (Slip chkS)
open Go.Proofs.YtekcjfdllclphaaGreatDoor.od (Ord okO stO fsO keysO chkO chk_kind chk_sub)
def oE (o:Ord):Int:=if chkO o=true then 0 else 160
theorem fs_bound {o:Ord} (h:OW o) {f:Tx × Tx} (hf:f∈fsO o):f.2.length≤140737488355328:=by
 unfold fsO at hf
 simp only [List.mem_append] at hf
 have h1:=h.name;have h2:=h.pool;have h3:=h.user
 rcases hf with ((((((hf | hf) | hf) | hf) | hf) | hf) | hf) <;> split at hf <;> simp only [List.mem_cons,List.not_mem_nil,or_false] at hf
 ·subst hf;have:=txt_len o.job;dsimp only;omega
 ·subst hf;have:=txt_len o.n;dsimp only;omega
 ·subst hf;cases o.yes <;> (dsimp only;decide)
 ·rcases hf with rfl | rfl
  ·exact h3
  ·exact h1
 ·subst hf;have:=stxt_len o.size;dsimp only;omega
 ·subst hf;exact h2
 ·subst hf;cases o.yes <;> (dsimp only;decide)
theorem but_undrew {R:Nat} {w w':World} (h:But R w.drew w'):But R w w':=⟨h.os,h.tape,h.output,h.size,h.block⟩
structure CKS (w:World) (B1 B2 b5:Nat) (o:Ord) (g:Gh) (v1 v2:Value) (L1 L2:List FE) (i:Nat) (a:Ord) (W:World):Prop where
 ck:od.CK o i a
 oa:OrdB W b5 a g0
 ob:OrdB W w.heap.size o g
 fl:FlS W b5 o.kind g0 (fsO (Ord.at o.kind)) L2
 own1:W.ownsRow B1 67 3 v1 L1.length (flF L1)
 own2:W.ownsRow B2 67 3 v2 L2.length (flF L2)
 map1:L1.map (fun f=>(f.key,f.text))=fsO o
 low:Below w.heap.size w W
 bd:w.heap.size < b5∧b5 < B1∧b5 < B2
section
variable {w W W' : World} {B1 B2 b5 i : Nat} {o a : Ord} {g : Gh} {v1 v2 : Value} {L1 L2 : List FE}
theorem CKS.next (h:CKS w B1 B2 b5 o g v1 v2 L1 L2 i a W) (hb:Below W.heap.size W W'):CKS w B1 B2 b5 o g v1 v2 L1 L2 i a W' :=
 ⟨h.ck,h.oa.next hb,h.ob.next hb,h.fl.next hb,own_same h.own1 fun b hb2=>hb.block b (World.ownsRow.lt h.own1 b hb2).2,own_same h.own2 fun b hb2=>hb.block b (World.ownsRow.lt h.own2 b hb2).2,h.map1,h.low.trans (hb.mono h.low.size),h.bd⟩
theorem CKS.low2 (h:CKS w B1 B2 b5 o g v1 v2 L1 L2 i a W) (hb:But b5 W W'):Below w.heap.size w W':=h.low.grown hb h.low.size (fun j hj=>by cases hj;have:=h.bd.1;omega)
theorem CKS.lens (h:CKS w B1 B2 b5 o g v1 v2 L1 L2 i a W):L1.length=(fsO o).length∧L2.length=(fsO o).length:=by
 have h1:(fsO o).length=L1.length:=by rw [←h.map1,List.length_map]
 refine ⟨h1.symm,?_⟩
 have h2:=h.fl.len (o:=Ord.at o.kind)
 have h3:(fsO o).length=(keysO o.kind).length:=by rw [←od.keys_fs,List.length_map]
 rw [h3,← h2.1]
 rfl
theorem CKS.at_ (h:CKS w B1 B2 b5 o g v1 v2 L1 L2 i a W) {f1 f2:FE} (h1:L1[i]?=some f1) (h2:L2[i]?=some f2):(fsO o)[i]?=some (f2.key,f1.text):=by
 have e1:(fsO o)[i]?=some (f1.key,f1.text):=by rw [←h.map1,List.getElem?_map,h1];rfl
 have e2:=(h.fl.key (o:=Ord.at o.kind) h2).1
 have e3:(keysO o.kind)[i]?=some f1.key:=by rw [←od.keys_fs,List.getElem?_map,e1];rfl
 have e4:(keysO o.kind)[i]?=some f2.key:=e2
 rw [e4] at e3
 rw [e1,Option.some.inj e3]
theorem CKS.turn (h:CKS w B1 B2 b5 o g v1 v2 L1 L2 i a W) {f1 f2:FE} (h1:L1[i]?=some f1) (h2:L2[i]?=some f2) (hk:okO o.kind f2.key f1.text=true) (hb:But b5 W W') (ha:OrdB W' b5 (stO f2.key f1.text a) g0):CKS w B1 B2 b5 o g v1 v2 L1 L2 (i+1) (stO f2.key f1.text a) W':=by
 have hn:∀ {v:Value} {B:Nat} {L:List FE},W.ownsRow B 67 3 v L.length (flF L)→b5 < B→W'.ownsRow B 67 3 v L.length (flF L):=fun ho hB=>own_same ho fun b hb2=>hb.block b (World.ownsRow.lt ho b hb2).2 (fun e=>by have:=(World.ownsRow.lt ho b hb2).1;have:=Option.some.inj e;omega)
 exact ⟨h.ck.step (f:=(f2.key,f1.text)) (h.at_ h1 h2) hk,ha,BoxA.but h.ob hb (by have:=h.bd.1;omega),h.fl.but hb,hn h.own1 h.bd.2.1,hn h.own2 h.bd.2.2,h.map1,h.low2 hb,h.bd⟩
end
def put12 (W:World) (b:Nat) (u8 u9 u10 u11 u12 u13 u14 u15 u16 u17 u18 u19:Value):World:=((((((((((((W.setCell ⟨b,8,none⟩ u8).setCell ⟨b,9,none⟩ u9).setCell ⟨b,10,none⟩ u10).setCell ⟨b,11,none⟩ u11).setCell ⟨b,12,none⟩ u12).setCell ⟨b,13,none⟩ u13).setCell ⟨b,14,none⟩ u14).setCell ⟨b,15,none⟩ u15).setCell ⟨b,16,none⟩ u16).setCell ⟨b,17,none⟩ u17).setCell ⟨b,18,none⟩ u18).setCell ⟨b,19,none⟩ u19)
theorem put12_box {W:World} {b:Nat} {t:TypeId} {cs:Array Value} (h:BoxA W b t cs) (u8 u9 u10 u11 u12 u13 u14 u15 u16 u17 u18 u19:Value):BoxA (put12 W b u8 u9 u10 u11 u12 u13 u14 u15 u16 u17 u18 u19) b t ((((((((((((cs.setIfInBounds 8 u8).setIfInBounds 9 u9).setIfInBounds 10 u10).setIfInBounds 11 u11).setIfInBounds 12 u12).setIfInBounds 13 u13).setIfInBounds 14 u14).setIfInBounds 15 u15).setIfInBounds 16 u16).setIfInBounds 17 u17).setIfInBounds 18 u18).setIfInBounds 19 u19):=(BoxA.set (BoxA.set (BoxA.set (BoxA.set (BoxA.set (BoxA.set (BoxA.set (BoxA.set (BoxA.set (BoxA.set (BoxA.set (BoxA.set h 8 u8) 9 u9) 10 u10) 11 u11) 12 u12) 13 u13) 14 u14) 15 u15) 16 u16) 17 u17) 18 u18) 19 u19)
theorem put12_but (W:World) (b:Nat) (u8 u9 u10 u11 u12 u13 u14 u15 u16 u17 u18 u19:Value):But b W (put12 W b u8 u9 u10 u11 u12 u13 u14 u15 u16 u17 u18 u19):=(((((((((((((But.refl b W).setCell 8 u8).setCell 9 u9).setCell 10 u10).setCell 11 u11).setCell 12 u12).setCell 13 u13).setCell 14 u14).setCell 15 u15).setCell 16 u16).setCell 17 u17).setCell 18 u18).setCell 19 u19)
theorem put12_at (x:Slip) (g:Gh):(((((((((((((ocs (Ord.at 2) g0).setIfInBounds 8 (.string (str x.user))).setIfInBounds 9 (.int .i64 x.nodes)).setIfInBounds 10 (.int .i64 x.wall)).setIfInBounds 11 (.int .i64 x.qos)).setIfInBounds 12 g.a).setIfInBounds 13 (.int .i64 x.cap)).setIfInBounds 14 (.int .i64 x.inn)).setIfInBounds 15 (.int .i64 x.out)).setIfInBounds 16 (.string (str x.pool))).setIfInBounds 17 g.m).setIfInBounds 18 g.d).setIfInBounds 19 g.u)=ocs { Ord.at 2 with slip:=x } g:=by kernel_rfl
theorem put12_ord {W:World} {b:Nat} (h:OrdB W b (Ord.at 2) g0) (x:Slip) (g:Gh):OrdB (put12 W b (.string (str x.user)) (.int .i64 x.nodes) (.int .i64 x.wall) (.int .i64 x.qos) g.a (.int .i64 x.cap) (.int .i64 x.inn) (.int .i64 x.out) (.string (str x.pool)) g.m g.d g.u) b { Ord.at 2 with slip:=x } g:=by
 unfold OrdB
 rw [←put12_at]
 exact put12_box h (.string (str x.user)) (.int .i64 x.nodes) (.int .i64 x.wall) (.int .i64 x.qos) g.a (.int .i64 x.cap) (.int .i64 x.inn) (.int .i64 x.out) (.string (str x.pool)) g.m g.d g.u
set_option maxRecDepth 100000 in
set_option maxHeartbeats 16000000 in
theorem Check_ord (o:Ord) (g:Gh) (w:World) (h:SR w o.slip g) (hW:SW o.slip) (hw:OW o) (hL:LaidD w):Calls Tryz.prog 14 #[oV o g] w (Told (.int .i64 (oE o)) w):=by
 obtain ⟨wb,hwb⟩:∃ wb,w.alloc (.cells (ocs o g) 29)=wb:=⟨_,rfl⟩
 have hob:OrdB wb w.heap.size o g:=by rw [←hwb];exact BoxA.new _ _ _
 have hB1:Below w.heap.size w wb:=by rw [←hwb];exact (Below.refl _ _).alloc (Nat.le_refl _) _
 have HWB:=Lib.hid hwb
 have HB1:=Lib.hid hB1
 have HO1:=Lib.hid hob
 have HL:=Lib.hid (fun (X:World) (hb:Below w.heap.size w X)=>hL.next hb)
 have HSR:=Lib.hid (fun (X:World) (hb:Below w.heap.size w X)=>h.next hb)
 have HSW:=Lib.hid hW
 have HOW:=Lib.hid hw
 have c0:wb.cell? ⟨w.heap.size,0,none⟩=some (.int .u8 (o.kind:Nat)):=BoxA.cell hob 0 _
 have hlt:=hob.lt
 have HF:=Lib.hid (ofind_any o.kind hw.kind wb)
 unfold FindO rowV2 at HF
 clear hwb hob hB1 h hW hw hL
 by_cases hk:1≤o.kind∧o.kind≤18
 ·rw [decide_eq_true hk] at HF
  have HK:=Lib.hid hk
  go_enter Tryz.func14,Tryz.ntmps14
  apply wp_seq_k
  intro K hK
  apply wp_region_lit
  refine Great.wpList_boxTo rfl _ _ rfl _ rfl w.heap.size rfl (ocs o g) rfl ?_
  rw [HWB.out]
  go_upto_region 2 with (first
   | (go_at_call 28;((with_reducible refine HF.out.mono ?_);rintro e w1 ⟨rfl,hb⟩);have A1:=Lib.hid hb;clear hb)
   | (refine wpList_store_row rfl _ _ _ rfl w1.heap.size #[.string (str (od.wordO o.kind)),.string (str (lettersO o.kind))] rfl rfl _ _ (BoxA.new w1 _ _) (by kernel_rfl) rfl (by kernel_rfl) ?_))
  obtain ⟨w2,hw2,-,hl2⟩:=box_end w1 #[.string { data:=#[] },.string { data:=#[] }] #[.string (str (od.wordO o.kind)),.string (str (lettersO o.kind))] 60
  rw [hw2]
  have A2:=Lib.hid (A1.out.trans (hl2.mono A1.out.size))
  have c0:w2.cell? ⟨w.heap.size,0,none⟩=some (.int .u8 (o.kind:Nat)):=BoxA.cell (HO1.out.next A2.out) 0 _
  have hlt2:w.heap.size < w2.heap.size:=Nat.lt_of_lt_of_le hlt A2.out.size
  clear hw2 hl2
  go_upto_region 5 with (refine wpList_store_row rfl _ _ _ rfl w2.heap.size (atO o.kind) rfl rfl _ _ (BoxA.new w2 _ _) (by kernel_rfl) rfl (by kernel_rfl) ?_)
  obtain ⟨w3,hw3,hbx,hb3⟩:=box_end w2 zO (atO o.kind) 29
  unfold zO at hw3
  rw [hw3]
  have HA3:=Lib.hid (show OrdB w3 w2.heap.size (Ord.at o.kind) g0 from hbx)
  have HO3:=Lib.hid ((HO1.out.next A2.out).next hb3)
  have HLOW3:=Lib.hid ((HB1.out.trans (A2.out.mono HB1.out.size)).trans (hb3.mono (Nat.le_of_lt hlt2)))
  have HBD:=Lib.hid (show w.heap.size < w2.heap.size∧w2.heap.size < w3.heap.size from ⟨hlt2,HA3.out.lt⟩)
  clear hw3 hbx hb3 c0 hlt hlt2
  generalize w2.heap.size=b5 at *
  have HF1:=Lib.hid (ofields_any w.heap.size o g w3 HO3.out HOW.out (HL.out _ HLOW3.out).u)
  have HF2:=Lib.hid (fun (X:World) (hX:Below w3.heap.size w3 X)=>ofields_any b5 (Ord.at o.kind) g0 X (HA3.out.next hX) (OW_at HOW.out.kind) (HL.out _ (HLOW3.out.trans (hX.mono HLOW3.out.size))).u)
  unfold FieldsT at HF1 HF2
  go_upto_region 7 with (first
   | (go_at_call 29;((with_reducible refine HF1.out.mono ?_);rintro e w4 ⟨v1,L1,rfl,hfl,hown,hb⟩);obtain ⟨p1,c1,hv⟩:=(RdC.form (ApC.rdc (.inr hown)));have HM1:=Lib.hid hfl.map;have HO4:=Lib.hid hown;have A4:=Lib.hid hb;subst hv;clear hfl hown hb)
   | (go_at_call 29;((with_reducible refine (HF2.out _ A4.out).mono ?_);rintro e w5 ⟨v2,L2,rfl,hfl,hown,hb⟩);obtain ⟨p2,c2,hv⟩:=(RdC.form (ApC.rdc (.inr hown)));have HCS0:=Lib.hid (show CKS w w3.heap.size w4.heap.size b5 o g (.slice p1 L1.length c1) v2 L1 L2 0 (Ord.at o.kind) w5 from ⟨od.CK.start o,(HA3.out.next A4.out).next hb,(HO3.out.next A4.out).next hb,hfl,own_same HO4.out (fun b hb2=>hb.block b (World.ownsRow.lt HO4.out b hb2).2),hown,HM1.out,(HLOW3.out.trans (A4.out.mono HLOW3.out.size)).trans (hb.mono (Nat.le_trans HLOW3.out.size A4.out.size)),HBD.out.1,HBD.out.2,Nat.lt_of_lt_of_le HBD.out.2 A4.out.size⟩);subst hv;clear hfl hown hb))
  obtain ⟨n,hn⟩:∃ n,(fsO o).length=n:=⟨_,rfl⟩
  have HN:=Lib.hid hn
  have hn5:n≤8:=by rw [←hn];exact od.fs_count _
  obtain ⟨e1,e2⟩:=HCS0.out.lens
  rw [hn] at e1 e2
  rw [e1,e2] at HCS0
  rw [e1,e2]
  have HE12:=Lib.hid (And.intro e1 e2)
  clear hn e1 e2 HO4 A4 HF1 HF2
  go_loopw [23] (fun s23 W=>∃ (i:Nat) (a:Ord),s23=.int .i64 (i:Int)∧i≤n∧Aside (CKS w w3.heap.size w4.heap.size b5 o g (.slice p1 n c1) (.slice p2 n c2) L1 L2 i a W)) (fun s23 _=>n - (intOf s23).toNat)
  case atStart=>exact ⟨0,Ord.at o.kind,rfl,Nat.zero_le _,HCS0.out⟩
  case round =>
   obtain ⟨i,a,rfl,hi,hcs⟩:=hrel
   have HR:=Lib.hid (show CKS w w3.heap.size w4.heap.size b5 o g (.slice p1 n c1) (.slice p2 n c2) L1 L2 i a wr from hcs)
   clear hcs HCS0
   by_cases hin:i < n
   ·have hrd1:=ApC.rdc (.inr HR.out.own1)
    have hrd2:=ApC.rdc (.inr HR.out.own2)
    rw [HE12.out.1] at hrd1
    rw [HE12.out.2] at hrd2
    obtain ⟨b1,off1,hp1,hb1,hc1⟩:=RdC.at_ (size:=3) hrd1 rfl (by omega)
    obtain ⟨b2,off2,hp2,hb2,hc2⟩:=RdC.at_ (size:=3) hrd2 rfl (by omega)
    subst hp1 hp2
    obtain ⟨f1,hf1⟩:∃ f,L1[i]?=some f:=⟨_,List.getElem?_eq_getElem (by rw [HE12.out.1];exact hin)⟩
    obtain ⟨f2,hf2⟩:∃ f,L2[i]?=some f:=⟨_,List.getElem?_eq_getElem (by rw [HE12.out.2];exact hin)⟩
    obtain ⟨x0,x1,x2⟩:=cellF hc1 hf1
    obtain ⟨y0,y1,y2⟩:=cellF hc2 hf2
    have hat:=HR.out.at_ hf1 hf2
    have HAT:=Lib.hid hat
    have HTB:=Lib.hid (fs_bound HOW.out (List.mem_of_getElem? hat))
    have hst:=HR.out.fl.sto f2 (List.mem_of_getElem? hf2)
    have hen:=hst.en
    have HFF:=Lib.hid (And.intro hf1 hf2)
    have hne1:b1≠b5:=by
     rcases HR.out.own1.2 with ⟨h0,_⟩ | ⟨gg,cc,cu,h0,hB,_⟩
     ·cases h0
     ·cases h0
      have:=HR.out.bd.2.1
      omega
    have HB1L:=Lib.hid hb1
    clear hrd1 hrd2 hc1 hc2 hst hat x0 x2
    obtain ⟨key1,tx1,fn1,cp1⟩:=f1
    obtain ⟨key,tx,fn,cp⟩:=f2
    dsimp only at x1 y0 y1 y2 hen HTB HAT
    have HX1:=Lib.hid x1
    go_upto_region 9 with (refine wpList_store_row rfl _ _ _ rfl wr.heap.size #[.string (str key),.string (str tx),.func (.func fn) #[] cp] rfl rfl _ _ (BoxA.new wr _ _) (by kernel_rfl) rfl (by kernel_rfl) ?_)
    obtain ⟨w6,hw6,hD,hb4⟩:=box_end wr #[.string { data:=#[] },.string { data:=#[] },.nilFunc] #[.string (str key),.string (str tx),.func (.func fn) #[] cp] 67
    rw [hw6]
    have HR6:=Lib.hid (HR.out.next hb4)
    have hbd5:wr.heap.size≠b5:=by have:=HR.out.oa.lt;omega
    have hb16:b1 < w6.heap.size:=Nat.lt_of_lt_of_le hb1 hb4.size
    have hx6:w6.cell? ⟨b1,off1+i * 3+1,none⟩=some (.string (str tx1)):=(Below.cell hb4 hb1).trans x1
    generalize wr.heap.size=bd at *
    have z2:=hD.cell 2 _
    have zl:=hD.lt
    have HK1:=Lib.hid (fun (X:World) (hX:Below w6.heap.size w6 X)=>(show X.cell? ⟨bd,2,none⟩=some (.func (.func fn) #[] cp)∧X.cell? ⟨b1,off1+i * 3+1,none⟩=some (.string (str tx1)) from ⟨(Below.cell hX zl).trans z2,(Below.cell hX hb16).trans hx6⟩))
    have HK2:=Lib.hid (fun (X Y:World) (hX:Below w6.heap.size w6 X) (hY:But b5 X Y)=>(show Y.cell? ⟨bd,2,none⟩=some (.func (.func fn) #[] cp)∧Y.cell? ⟨b1,off1+i * 3+1,none⟩=some (.string (str tx1)) from ⟨hY.cell (HK1.out X hX).1 hbd5,hY.cell (HK1.out X hX).2 hne1⟩))
    have HST:=Lib.hid (fun (X:World) (hX:Below w6.heap.size w6 X)=>((HR6.out.next hX).fl.sto _ (List.mem_of_getElem? HFF.out.2)).call a tx1 (HR6.out.next hX).oa HTB.out (HL.out _ (HR6.out.next hX).low).u)
    unfold StO at HST
    dsimp only at HST
    obtain ⟨okb,hok⟩:∃ okb,okO o.kind key tx1=okb:=⟨_,rfl⟩
    rw [hok] at HST
    have HOK:=Lib.hid hok
    clear hw6 hD hb4 x1 y0 y1 y2 hb1 hb2 hf1 hf2 hok
    cases okb with
    | true =>
     go_region_held3 (fun W=>W.cell? ⟨bd,2,none⟩=some (.func (.func fn) #[] cp)∧W.cell? ⟨b1,off1+i * 3+1,none⟩=some (.string (str tx1))) (first | exact HK8.out | exact HK1.out _ (Below.refl _ _) | exact HK1.out _ (Below.refl _ _).drew) (first
      | (go_at_fn fn;((with_reducible refine (HST.out _ (Below.refl _ _).drew).mono ?_);rintro e w8 ⟨rfl,hbt,ho⟩);have HBT:=Lib.hid (but_undrew hbt);have HO8:=Lib.hid ho;have HK8:=Lib.hid (HK2.out _ _ (Below.refl _ _).drew hbt);clear hbt ho))
     go_wp2
     go_roundw
     case rel=>exact ⟨i+1,_,by go_num,by omega,HR6.out.turn HFF.out.1 HFF.out.2 HOK.out HBT.out HO8.out⟩
     case measure=>simp [intOf];omega
    | false =>
     have HE:=Lib.hid (show oE o=160 by unfold oE;rw [HR.out.ck.fail HAT.out HOK.out];rfl)
     go_region_held3 (fun W=>W.cell? ⟨bd,2,none⟩=some (.func (.func fn) #[] cp)∧W.cell? ⟨b1,off1+i * 3+1,none⟩=some (.string (str tx1))) (first | exact HK8.out | exact HK1.out _ (Below.refl _ _) | exact HK1.out _ (Below.refl _ _).drew) (first
      | (go_at_fn fn;((with_reducible refine (HST.out _ (Below.refl _ _).drew).mono ?_);rintro e w8 ⟨rfl,hbt,ho⟩);have HBT:=Lib.hid (but_undrew hbt);have HO8:=Lib.hid ho;have HK8:=Lib.hid (HK2.out _ _ (Below.refl _ _).drew hbt);clear hbt ho))
     go_wp2
     go_ret
     exact ⟨by rw [HE.out];rfl,HR6.out.low2 HBT.out⟩
   ·obtain rfl:i=n:=by omega
    have hck:=HR.out.ck
    rw [←HN.out] at hck
    have c0:wr.cell? ⟨w.heap.size,0,none⟩=some (.int .u8 (o.kind:Nat)):=BoxA.cell HR.out.ob 0 _
    have hlt:=HR.out.ob.lt
    have HSO:=Lib.hid (HSR.out _ HR.out.low)
    by_cases h2:o.kind=2
    ·have ha:=hck.fin2 h2
     subst ha
     have HE:=Lib.hid (chk_sub h2)
     have HA5:=Lib.hid (show OrdB wr b5 (Ord.at 2) g0 from HR.out.oa)
     rw [h2] at c0
     obtain ⟨-,-,-,-,-,-,-,-,t8,t9,t10,t11,t12,t13,t14,t15,t16,t17,t18,t19,-⟩:=ocel HR.out.ob
     have HCH:=Lib.hid (Check_slip o.slip g wr HSO.out HSW.out (HL.out _ HR.out.low))
     have HSR2:=Lib.hid (fun (X:World) (hb:Below w.heap.size w X)=>HSR.out X hb)
     obtain ⟨va,vm,vd,vu⟩:=g
     obtain ⟨pa,ca,ea,-,-⟩:=HSO.out.ca
     obtain ⟨pm,cm,em,-,-⟩:=HSO.out.cm
     obtain ⟨pd,cd,ed,-,-⟩:=HSO.out.cd
     obtain ⟨pu,cu,eu,-,-⟩:=HSO.out.cu
     dsimp only at ea em ed eu
     subst ea em ed eu
     unfold sV scs at HCH
     dsimp only at HCH t8 t9 t10 t11 t12 t13 t14 t15 t16 t17 t18 t19
     have q2:((2:Int) == 2)=true:=rfl
     have HLOW:=Lib.hid HR.out.low
     have HOB:=Lib.hid HR.out.ob
     by_cases hch:chkS o.slip=true
     ·have HSE:=Lib.hid (show sE o.slip=0 by unfold sE;rw [if_pos hch])
      rw [HSE.out] at HCH
      have HE2:=Lib.hid (show oE o=if { Ord.at 2 with slip:=o.slip }=o then 0 else 160 by
       unfold oE
       rw [HE.out,hch]
       by_cases he:{ Ord.at 2 with slip:=o.slip }=o
       ·rw [decide_eq_true he,if_pos he];rfl
       ·rw [decide_eq_false he,if_neg he];rfl)
      clear hch hck hin
      go_upto_region 15 with (go_at_call 35;((with_reducible refine HCH.out.mono ?_);rintro e w8 ⟨rfl,hb⟩);have A8:=Lib.hid hb;clear hb)
      have HL8:=Lib.hid (HLOW.out.trans (A8.out.mono HLOW.out.size))
      have HO8:=Lib.hid (HOB.out.next A8.out)
      have HA8:=Lib.hid (HA5.out.next A8.out)
      clear t8 t9 t10 t11 t12 t13 t14 t15 t16 t17 t18 t19 c0 hlt
      obtain ⟨-,-,-,-,-,-,-,-,t8,t9,t10,t11,t12,t13,t14,t15,t16,t17,t18,t19,hlt⟩:=ocel HO8.out
      obtain ⟨-,-,-,-,-,-,-,-,d8,d9,d10,d11,d12,d13,d14,d15,d16,d17,d18,d19,dlt⟩:=ocel HA8.out
      have ff:=fun j=>BoxA.free HA8.out j
      have f8:=ff 8
      have f9:=ff 9
      have f10:=ff 10
      have f11:=ff 11
      have f12:=ff 12
      have f13:=ff 13
      have f14:=ff 14
      have f15:=ff 15
      have f16:=ff 16
      have f17:=ff 17
      have f18:=ff 18
      have f19:=ff 19
      have hne:w.heap.size≠b5:=by have:=HBD.out.1;omega
      dsimp only at t8 t9 t10 t11 t12 t13 t14 t15 t16 t17 t18 t19
      clear ff
      go_upto_region 16 with fail
      have HX1:=put12_ord HA8.out o.slip ⟨.slice pa o.slip.after.length ca,.slice pm o.slip.make.length cm,.slice pd o.slip.drop.length cd,.slice pu o.slip.use.length cu⟩
      have HX2:=put12_but w8 b5 (.string (str o.slip.user)) (.int .i64 o.slip.nodes) (.int .i64 o.slip.wall) (.int .i64 o.slip.qos) (.slice pa o.slip.after.length ca) (.int .i64 o.slip.cap) (.int .i64 o.slip.inn) (.int .i64 o.slip.out) (.string (str o.slip.pool)) (.slice pm o.slip.make.length cm) (.slice pd o.slip.drop.length cd) (.slice pu o.slip.use.length cu)
      obtain ⟨X,hX⟩:∃ X,put12 w8 b5 (.string (str o.slip.user)) (.int .i64 o.slip.nodes) (.int .i64 o.slip.wall) (.int .i64 o.slip.qos) (.slice pa o.slip.after.length ca) (.int .i64 o.slip.cap) (.int .i64 o.slip.inn) (.int .i64 o.slip.out) (.string (str o.slip.pool)) (.slice pm o.slip.make.length cm) (.slice pd o.slip.drop.length cd) (.slice pu o.slip.use.length cu)=X:=⟨_,rfl⟩
      rw [hX] at HX1 HX2
      unfold put12 at hX
      rw [hX]
      have HXA:=Lib.hid (show OrdB X b5 { Ord.at 2 with slip:=o.slip } ⟨.slice pa o.slip.after.length ca,.slice pm o.slip.make.length cm,.slice pd o.slip.drop.length cd,.slice pu o.slip.use.length cu⟩ from HX1)
      have HXO:=Lib.hid (show OrdB X w.heap.size o ⟨.slice pa o.slip.after.length ca,.slice pm o.slip.make.length cm,.slice pd o.slip.drop.length cd,.slice pu o.slip.use.length cu⟩ from BoxA.but HO8.out HX2 hne)
      have HXL:=Lib.hid (HL8.out.grown HX2 HL8.out.size (fun j hj=>by cases hj;have:=HBD.out.1;omega))
      have HSM:=Lib.hid (Same_ord { Ord.at 2 with slip:=o.slip } o _ _ X (HSR2.out _ HXL.out) (HSR2.out _ HXL.out))
      unfold oV at HSM
      clear hX HX1 HX2 t8 t9 t10 t11 t12 t13 t14 t15 t16 t17 t18 t19 d8 d9 d10 d11 d12 d13 d14 d15 d16 d17 d18 d19 f8 f9 f10 f11 f12 f13 f14 f15 f16 f17 f18 f19 hlt dlt
      by_cases he:{ Ord.at 2 with slip:=o.slip }=o
      ·rw [decide_eq_true he] at HSM
       rw [if_pos he] at HE2
       clear he
       go_wp2_with (first
        | (refine wpList_load_row rfl _ _ rfl b5 rfl _ _ _ _ HXA.out Tryz.underlying29 rfl (by kernel_rfl) ?_)
        | (refine wpList_load_row rfl _ _ rfl w.heap.size rfl _ _ _ _ HXO.out Tryz.underlying29 rfl (by kernel_rfl) ?_)
        | (go_at_call 15;((with_reducible refine HSM.out.mono ?_);rintro e w9 ⟨rfl,hb⟩);have A9:=Lib.hid hb;clear hb))
       go_ret
       exact ⟨by rw [HE2.out];rfl,HXL.out.trans (A9.out.mono HXL.out.size)⟩
      ·rw [decide_eq_false he] at HSM
       rw [if_neg he] at HE2
       clear he
       go_wp2_with (first
        | (refine wpList_load_row rfl _ _ rfl b5 rfl _ _ _ _ HXA.out Tryz.underlying29 rfl (by kernel_rfl) ?_)
        | (refine wpList_load_row rfl _ _ rfl w.heap.size rfl _ _ _ _ HXO.out Tryz.underlying29 rfl (by kernel_rfl) ?_)
        | (go_at_call 15;((with_reducible refine HSM.out.mono ?_);rintro e w9 ⟨rfl,hb⟩);have A9:=Lib.hid hb;clear hb))
       go_ret
       exact ⟨by rw [HE2.out];rfl,HXL.out.trans (A9.out.mono HXL.out.size)⟩
     ·have HSE:=Lib.hid (show sE o.slip=150 by unfold sE;rw [if_neg hch])
      rw [HSE.out] at HCH
      have HE2:=Lib.hid (show oE o=160 by
       unfold oE
       rw [HE.out,show chkS o.slip=false by simpa using hch]
       rfl)
      clear hch hck hin
      go_wp2_with (go_at_call 35;((with_reducible refine HCH.out.mono ?_);rintro e w8 ⟨rfl,hb⟩);have A8:=Lib.hid hb;clear hb)
      go_ret
      exact ⟨by rw [HE2.out];rfl,HLOW.out.trans (A8.out.mono HLOW.out.size)⟩
    ·have HE:=Lib.hid (show oE o=if a=o then 0 else 160 by
      unfold oE
      rw [hck.fin HK.out h2]
      by_cases he:a=o
      ·rw [decide_eq_true he,if_pos he];rfl
      ·rw [decide_eq_false he,if_neg he];rfl)
     have q2:((o.kind:Int) == 2)=false:=by rw [beq_eq_false_iff_ne];omega
     have HSM:=Lib.hid (Same_ord a o g0 g wr (by rw [hck.sl];exact sr_zero _) HSO.out)
     unfold oV at HSM
     have HLOW:=Lib.hid HR.out.low
     have HOB:=Lib.hid HR.out.ob
     have HAB:=Lib.hid HR.out.oa
     clear hck h2 hin
     by_cases he:a=o
     ·rw [decide_eq_true he] at HSM
      rw [if_pos he] at HE
      clear he
      go_wp2_with (first
       | (refine wpList_load_row rfl _ _ rfl b5 rfl _ _ _ _ HAB.out Tryz.underlying29 rfl (by kernel_rfl) ?_)
       | (refine wpList_load_row rfl _ _ rfl w.heap.size rfl _ _ _ _ HOB.out Tryz.underlying29 rfl (by kernel_rfl) ?_)
       | (go_at_call 15;((with_reducible refine HSM.out.mono ?_);rintro e w8 ⟨rfl,hb⟩);have A8:=Lib.hid hb;clear hb))
      go_ret
      exact ⟨by rw [HE.out];rfl,HLOW.out.trans (A8.out.mono HLOW.out.size)⟩
     ·rw [decide_eq_false he] at HSM
      rw [if_neg he] at HE
      clear he
      go_wp2_with (first
       | (refine wpList_load_row rfl _ _ rfl b5 rfl _ _ _ _ HAB.out Tryz.underlying29 rfl (by kernel_rfl) ?_)
       | (refine wpList_load_row rfl _ _ rfl w.heap.size rfl _ _ _ _ HOB.out Tryz.underlying29 rfl (by kernel_rfl) ?_)
       | (go_at_call 15;((with_reducible refine HSM.out.mono ?_);rintro e w8 ⟨rfl,hb⟩);have A8:=Lib.hid hb;clear hb))
      go_ret
      exact ⟨by rw [HE.out];rfl,HLOW.out.trans (A8.out.mono HLOW.out.size)⟩
 ·have HE:=Lib.hid (show oE o=160 by unfold oE;rw [chk_kind hk];rfl)
  rw [decide_eq_false hk] at HF
  clear hk
  go_enter Tryz.func14,Tryz.ntmps14
  apply wp_seq_k
  intro K hK
  apply wp_region_lit
  refine Great.wpList_boxTo rfl _ _ rfl _ rfl w.heap.size rfl (ocs o g) rfl ?_
  rw [HWB.out]
  go_wp2_with (first
   | (go_at_call 28;((with_reducible refine HF.out.mono ?_);rintro e w1 ⟨rfl,hb⟩);have A1:=Lib.hid hb;clear hb)
   | (refine wpList_store_row rfl _ _ _ rfl w1.heap.size #[.string (str (od.wordO o.kind)),.string (str (lettersO o.kind))] rfl rfl _ _ (BoxA.new w1 _ _) (by kernel_rfl) rfl (by kernel_rfl) ?_))
  go_ret
  exact ⟨by rw [HE.out];rfl,below_setRow ((HB1.out.trans (A1.out.mono HB1.out.size)).alloc (Nat.le_trans HB1.out.size A1.out.size) _) (Nat.le_trans HB1.out.size A1.out.size) _⟩
end Go.Proofs.YtekcjfdllclphaaGreatDoor.gn
end
