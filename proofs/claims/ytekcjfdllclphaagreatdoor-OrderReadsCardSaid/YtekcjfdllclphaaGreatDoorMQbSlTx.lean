/- The contract of slip.Text. -/
import Derived.Test.YtekcjfdllclphaaGreatDoorMQbSlFi
import Derived.Test.YtekcjfdllclphaaGreatDoorMQbOrP
import Derived.Test.YtekcjfdllclphaaGreatDoorMQbOrU
import Derived.Test.YtekcjfdllclphaaGreatDoorMQbOrR
import Derived.Test.YtekcjfdllclphaaGreatDoorMQbSlDc
import Derived.Test.YtekcjfdllclphaaGreatDoorMQbDiT
import Derived.Test.YtekcjfdllclphaaGreatDoorMQbDiU
set_option linter.unusedVariables false
set_option linter.unusedSimpArgs false
section
namespace Go.Proofs.YtekcjfdllclphaaGreatDoor.gn
open Go.RowKit
open Go.Proofs.YtekcjfdllclphaaGreatDoor.un
open Go.Proofs.YtekcjfdllclphaaGreatDoor.di
open Go.Proofs.YtekcjfdllclphaaGreatDoor.sp (Slip Ok chkS chkS_iff dirsP dirsS dirsP_eq dirs_mem line1 line1_len dirs_count txtS joinC joinC_snoc join_two)
def tS (x:Slip):Tx:=if chkS x=true then txtS x else []
def STextT (x:Slip) (w:World):Ending→World→Prop:=Told (.tuple #[.string (str (tS x)),.int .i64 (sE x)]) w
def pfx (x:Slip) (L:List Dir) (k:Nat):Tx:=joinC 10 (line1 x::(L.take k).map dtx)
theorem pfx_zero (x:Slip) (L:List Dir):pfx x L 0=line1 x:=rfl
theorem pfx_succ (x:Slip) {L:List Dir} {k:Nat} {d:Dir} (hd:L[k]?=some d):pfx x L (k+1)=pfx x L k++10::dtx d:=by
 unfold pfx
 rw [take_snoc hd,List.map_append,← List.cons_append]
 exact joinC_snoc 10 _ _ (by simp)
theorem lf_str (s t:Tx):str s++(({ data:=#[10] }:ByteArray)++str t)=str (s++10::t):=by
 show str s++(str [10]++str t)=_
 rw [str_app,str_app]
 rfl
theorem sW_W {x:Slip} (h:Ok x):SW x:=by
 have a:=h.user;have b:=name_len h.user
 refine ⟨by omega,?_,by have:=h.nodes;omega,by have:=h.wall;omega,by have:=h.qos;omega,by have:=h.cap;omega,by have:=h.cap;have:=h.inn;omega,by have:=h.cap;have:=h.out;omega,fun d hd=>by have:=h.after.2.2 d hd;omega,fun d hd=>?_,fun n hn=>?_,fun n hn=>?_⟩
 ·by_cases h0:x.cap=0
  ·rw [h.pool0 h0];decide
  ·have:=name_len (h.pool1 h0);omega
 ·obtain ⟨p,q,r,s⟩:=sp.chk_name (h.make d hd).2
  exact ⟨by omega,by omega,by omega,by omega,by omega⟩
 ·have:=name_len (h.drop.2.2 n hn);omega
 ·have:=name_len (h.use.2.2 n hn);omega
theorem DW_chk {d:Dir} (h:chk d=true):DW d:=by
 obtain ⟨p,q,r,s⟩:=sp.chk_name h
 exact ⟨by omega,by omega,by omega,by omega,by omega⟩
set_option maxRecDepth 100000 in
set_option maxHeartbeats 8000000 in
theorem stext_no (x:Slip) (g:Gh) (w:World) (h:SR w x g) (hW:SW x) (hL:LaidD w) (hx:¬ chkS x=true):Calls Tryz.prog 30 #[sV x g] w (STextT x w):=by
 have HE:=Lib.hid (show sE x=150∧tS x=[] by unfold sE tS;rw [if_neg hx,if_neg hx];exact ⟨rfl,rfl⟩)
 obtain ⟨wb,hwb⟩:∃ wb,w.alloc (.cells (scs x g) 27)=wb:=⟨_,rfl⟩
 have hbx:BoxA wb w.heap.size 27 (scs x g):=by rw [←hwb];exact BoxA.new _ _ _
 have hB1:Below w.heap.size w wb:=by rw [←hwb];exact (Below.refl _ _).alloc (Nat.le_refl _) _
 have HB1:=Lib.hid hB1
 have HWB:=Lib.hid hwb
 have HCH:=Lib.hid (Check_slip x g wb (h.next hB1) hW (hL.next hB1))
 rw [HE.out.1] at HCH
 obtain ⟨c0,c1,c2,c3,c4,c5,c6,c7,c8,c9,c10,c11,clt⟩:=cel_box hbx
 clear h hW hL hx hB1 hwb hbx
 obtain ⟨va,vm,vd,vu⟩:=g
 unfold sV scs at *
 dsimp only at *
 go_enter Tryz.func30,Tryz.ntmps30
 go_upto_region 1 with fail
 rw [HWB.out]
 go_wp2_with (go_at_call 35;((with_reducible refine HCH.out.mono ?_);rintro e w1 ⟨rfl,hb⟩);have A1:=Lib.hid hb;clear hb)
 go_ret2
 exact ⟨by rw [HE.out.1,HE.out.2];rfl,HB1.out.trans (A1.out.mono HB1.out.size)⟩
set_option maxRecDepth 100000 in
set_option maxHeartbeats 8000000 in
theorem stext_yes (x:Slip) (g:Gh) (w:World) (h:SR w x g) (hL:LaidD w) (hc:chkS x=true):Calls Tryz.prog 30 #[sV x g] w (STextT x w):=by
 have HE:=Lib.hid (show sE x=0∧tS x=txtS x by unfold sE tS;rw [if_pos hc,if_pos hc];exact ⟨rfl,rfl⟩)
 have hx:=(chkS_iff x).1 hc
 have HOK:=Lib.hid hx
 have hW:=sW_W hx
 obtain ⟨wb,hwb⟩:∃ wb,w.alloc (.cells (scs x g) 27)=wb:=⟨_,rfl⟩
 have hbx:BoxA wb w.heap.size 27 (scs x g):=by rw [←hwb];exact BoxA.new _ _ _
 have hB1:Below w.heap.size w wb:=by rw [←hwb];exact (Below.refl _ _).alloc (Nat.le_refl _) _
 have HB1:=Lib.hid hB1
 have HWB:=Lib.hid hwb
 have HCE:=Lib.hid (fun (W:World) (hb:Below wb.heap.size wb W)=>cel_box (hbx.next hb))
 have HL:=Lib.hid (fun (W:World) (hb:Below wb.heap.size wb W)=>hL.next (hB1.trans (hb.mono hB1.size)))
 have HCH:=Lib.hid (Check_slip x g wb (h.next hB1) hW (hL.next hB1))
 rw [HE.out.1] at HCH
 have HFI:=Lib.hid (fun (W:World) (hb:Below wb.heap.size wb W)=>first_slip x g W ((h.next hB1).next hb) hx (HL.out W hb))
 have HDI:=Lib.hid (fun (W:World) (hb:Below wb.heap.size wb W)=>directives_any x g W ((h.next hB1).next hb) (by have:=hx.makeN.1;rw [List.length_map] at this;omega) (by have:=hx.drop.1;omega) (by have:=hx.use.1;omega))
 have HT:Hid (tS x=pfx x (dirsP x) (dirsP x).length):=by
  show tS x=_
  rw [HE.out.2]
  unfold pfx
  rw [List.take_length,dirsP_eq hx]
  rfl
 have HM:=Lib.hid (show ∀ d∈dirsP x,chk d=true∧(dtx d).length≤306 from fun d hd=>by
  rw [dirsP_eq hx] at hd
  exact ⟨(dirs_mem hx hd),(made_text (dirs_mem hx hd)).len⟩)
 have hll:=line1_len hx
 have hcn:(dirsP x).length≤15:=by rw [dirsP_eq hx];exact dirs_count hx
 have HPX:Hid (∀ k d,(dirsP x)[k]?=some d→pfx x (dirsP x) (k+1)=pfx x (dirsP x) k++10::dtx d):=fun k d hd=>pfx_succ x hd
 have HPZ:=Lib.hid (pfx_zero x (dirsP x))
 obtain ⟨c0,c1,c2,c3,c4,c5,c6,c7,c8,c9,c10,c11,clt⟩:=cel_box hbx
 unfold STextT
 generalize line1 x=L1 at *
 generalize dirsP x=L at *
 generalize pfx x L=PX at *
 generalize tS x=TX at *
 generalize sE x=se at *
 obtain ⟨n,hn⟩:∃ n,L.length=n:=⟨_,rfl⟩
 rw [hn] at HT hcn
 have HN:=Lib.hid hn
 clear h hW hL hx hB1 hwb hbx hc hn HOK
 obtain ⟨va,vm,vd,vu⟩:=g
 unfold sV scs at *
 dsimp only at *
 go_enter Tryz.func30,Tryz.ntmps30
 go_upto_region 1 with fail
 rw [HWB.out]
 go_upto_region 5 with (first
  | (go_at_call 35;((with_reducible refine HCH.out.mono ?_);rintro e w1 ⟨rfl,hb⟩);have A1:=Lib.hid (show Below wb.heap.size wb w1 from hb);obtain ⟨c0,c1,c2,c3,c4,c5,c6,c7,c8,c9,c10,c11,clt⟩:=HCE.out _ A1.out;dsimp only at c0 c1 c2 c3 c4 c5 c6 c7 c8 c9 c10 c11;clear hb)
  | (go_at_call 51;((with_reducible refine (HFI.out _ A1.out).mono ?_);rintro e w2 ⟨rfl,hb⟩);have A2:=Lib.hid (show Below wb.heap.size wb w2 from A1.out.trans (hb.mono A1.out.size));obtain ⟨c0,c1,c2,c3,c4,c5,c6,c7,c8,c9,c10,c11,clt⟩:=HCE.out _ A2.out;dsimp only at c0 c1 c2 c3 c4 c5 c6 c7 c8 c9 c10 c11;clear hb)
  | (go_at_call 52;((with_reducible refine (HDI.out _ A2.out).mono ?_);rintro e w3 ⟨v,rfl,ho,hb⟩);rw [HN.out] at ho;obtain ⟨p,c,hv⟩:=(RdC.form (ApC.rdc (.inr ho)));subst hv;have HO:=Lib.hid ho;have A3:=Lib.hid (show Below wb.heap.size wb w3 from A2.out.trans (hb.mono A2.out.size));clear ho hb))
 have HR:=Lib.hid (show RdC w3 (.slice p n c) n (flM L) from ApC.rdc (.inr HO.out))
 clear c0 c1 c2 c3 c4 c5 c6 c7 c8 c9 c10 c11 HO clt
 go_loopw [4,17] (fun s4 s17 W=>∃ (k:Nat) (t:Tx),s17=.int .i64 (k:Int)∧s4=.string (str t)∧k≤n∧t.length≤1206+307 * k∧Aside (t=PX k)∧Aside (Below w3.heap.size w3 W)) (fun _ s17 _=>n - (intOf s17).toNat)
 case atStart=>exact ⟨0,L1,rfl,rfl,Nat.zero_le _,by omega,HPZ.out.symm,Below.refl _ _⟩
 case round =>
  obtain ⟨k,t,rfl,rfl,hk,htl,ht,hbl⟩:=hrel
  have HTK:=Lib.hid (show t=PX k from ht)
  have HBL:=Lib.hid (show Below w3.heap.size w3 wr from hbl)
  have HLOW:=Lib.hid (A3.out.trans ((show Below w3.heap.size w3 wr from hbl).mono A3.out.size))
  have HTL:=Lib.hid htl
  have e1:(str t).size≤6000:=by rw [str_size];omega
  clear ht hbl htl
  by_cases hkn:k < n
  ·obtain ⟨b,off,hp,hb,hc⟩:=(HR.out.next HBL.out).at_ (size:=5) rfl (by omega)
   subst hp
   obtain ⟨d,hd⟩:∃ d,L[k]?=some d:=⟨_,List.getElem?_eq_getElem (by rw [HN.out];exact hkn)⟩
   obtain ⟨y0,y1,y2,y3,y4⟩:=cellM hc hd
   have hdm:=HM.out d (List.mem_of_getElem? hd)
   have HX:=Lib.hid hd
   clear hc hd
   go_upto_region 7 with fail
   have hD:BoxA (wr.alloc (.cells #[.int .u8 (d.kind:Nat),.string (str d.name),.string (str d.pool),.int .i64 d.size,.bool d.opn] 80)) wr.heap.size 80 #[.int .u8 (d.kind:Nat),.string (str d.name),.string (str d.pool),.int .i64 d.size,.bool d.opn]:=BoxA.new _ _ _
   have hb4:Below wr.heap.size wr (wr.alloc (.cells #[.int .u8 (d.kind:Nat),.string (str d.name),.string (str d.pool),.int .i64 d.size,.bool d.opn] 80)):=(Below.refl _ _).alloc (Nat.le_refl _) _
   generalize wr.alloc (.cells #[.int .u8 (d.kind:Nat),.string (str d.name),.string (str d.pool),.int .i64 d.size,.bool d.opn] 80)=w4 at *
   have z0:=hD.cell 0 _
   have z1:=hD.cell 1 _
   have z2:=hD.cell 2 _
   have z3:=hD.cell 3 _
   have z4:=hD.cell 4 _
   have zl:=hD.lt
   have HB4:=Lib.hid (HBL.out.trans (hb4.mono HBL.out.size))
   have HTT:=Lib.hid (Text_any d (DW_chk hdm.1) w4 (HL.out _ (HLOW.out.trans (hb4.mono HLOW.out.size))))
   have HTD:=Lib.hid (show tT d=dtx d∧cE d=0 by unfold tT cE;rw [if_pos hdm.1,if_pos hdm.1];exact ⟨rfl,rfl⟩)
   have HDL:=Lib.hid hdm.2
   have e2:(str (dtx d)).size≤306:=by rw [str_size];exact hdm.2
   generalize wr.heap.size=bd at *
   clear hD hb4 y0 y1 y2 y3 y4 hb hdm
   unfold dV dcs TextT at HTT
   rw [HTD.out.1,HTD.out.2] at HTT
   go_wp2_with (go_at_call 53;((with_reducible refine HTT.out.mono ?_);rintro e w5 ⟨rfl,hb5⟩);have HB5:=Lib.hid hb5;clear hb5)
   go_roundw
   case rel =>
    refine ⟨k+1,t++10::dtx d,by go_num,by rw [←lf_str],by omega,?_,?_,HB4.out.trans (HB5.out.mono HB4.out.size)⟩
    ·have:=HTL.out
     have:=HDL.out
     simp
     omega
    ·show _=PX (k+1)
     rw [HPX.out k d HX.out,← HTK.out]
   case measure=>simp [intOf];omega
  ·obtain rfl:k=n:=by omega
   have HTF:=Lib.hid (show t=TX by rw [HTK.out,HT.out])
   go_wp2
   go_ret2
   exact ⟨by rw [←HTF.out,HE.out.1];rfl,HB1.out.trans (HLOW.out.mono HB1.out.size)⟩
theorem sText_any (x:Slip) (g:Gh) (w:World) (h:SR w x g) (hW:SW x) (hL:LaidD w):Calls Tryz.prog 30 #[sV x g] w (STextT x w):=by
 by_cases hc:chkS x=true
 ·exact stext_yes x g w h hL hc
 ·exact stext_no x g w h hW hL hc
end Go.Proofs.YtekcjfdllclphaaGreatDoor.gn
end
section
namespace Go.Proofs.YtekcjfdllclphaaGreatDoor.gn
open Go.RowKit
open Go.Proofs.YtekcjfdllclphaaGreatDoor.un
open Go.Proofs.YtekcjfdllclphaaGreatDoor.di
open Go.Proofs.YtekcjfdllclphaaGreatDoor.sp (Slip)
theorem prt_at {w:World} {g:Nat} {L:List Tx} (h:Prts w g 0 L) {i:Nat} {y:Tx} (hi:L[i]?=some y):w.cell? ⟨g,i,none⟩=some (.string (str y)):=by
 have:=h.2 i y hi
 rwa [Nat.zero_add] at this
def zz:Array Value:=#[.string { data:=#[] },.int .i64 0,.int .i64 0,.int .i64 0,.slice none 0 0,.int .i64 0,.int .i64 0,.int .i64 0,.string { data:=#[] },.slice none 0 0,.slice none 0 0,.slice none 0 0]
def gA (v:Value):Gh:=⟨v,.slice none 0 0,.slice none 0 0,.slice none 0 0⟩
structure FX (P:Nat) (w0:World) (gp:Nat) (PL:List Tx) (x:Slip) (v:Value) (W:World):Prop where
 pr:BoxA W P 27 zz
 bx:BoxA W (P+1) 27 (scs x (gA v))
 row:W.ownsRow (P+2) 88 2 v x.after.length (flA x.after)
 low:Below P w0 W
 hz:P+2≤W.heap.size
 em:x.make=[]∧x.drop=[]∧x.use=[]
 ps:Prts W gp 0 PL
 hg:gp≠P+1
 ho:v.ownBlock≠some gp
theorem prts_same {W W':World} {g:Nat} {L:List Tx} (h:Prts W g 0 L) (hs:W.heap.size≤W'.heap.size) (hk:W'.heap[g]?=W.heap[g]?):Prts W' g 0 L :=
 ⟨Nat.lt_of_lt_of_le h.1 hs,fun i x hx=>(World.cell?_of_block (a:=⟨g,0+i,none⟩) hk).trans (h.2 i x hx)⟩
section
variable {P : Nat} {w0 : World} {gp : Nat} {PL : List Tx} {x y : Slip} {v : Value} {W W' : World}
theorem FX.next (h:FX P w0 gp PL x v W) (hb:Below W.heap.size W W'):FX P w0 gp PL x v W' :=
 ⟨h.pr.next hb,h.bx.next hb,World.ownsRow.kept h.row (grown_new hb) (by cases hv:v.ownBlock <;> simp),h.low.trans (hb.mono (by have:=h.hz;omega)),Nat.le_trans h.hz hb.size,h.em,h.ps.next hb,h.hg,h.ho⟩
theorem FX.put (h:FX P w0 gp PL x v W) (j:Nat) (u:Value) (hc:(scs x (gA v)).setIfInBounds j u=scs y (gA v)) (ha:y.after=x.after) (hm:y.make=x.make) (hd:y.drop=x.drop) (hu:y.use=x.use):FX P w0 gp PL y v (W.setCell ⟨P+1,j,none⟩ u):=by
 have hbut:But (P+1) W (W.setCell ⟨P+1,j,none⟩ u):=(But.refl _ _).setCell j u
 have hz:=h.hz
 refine ⟨h.pr.but hbut (by omega),?_,?_,h.low.trans (hbut.low (by omega) (by omega)),by rw [World.size_setCell];exact hz,?_,h.ps.but hbut h.hg,h.hg,h.ho⟩
 ·rw [←hc];exact h.bx.set j u
 ·rw [ha];exact own_same h.row fun b hb=>Below.heap_setCell _ _ _ _ (by have:=(World.ownsRow.lt h.row b hb).1;simp only;omega)
 ·rw [hm,hd,hu];exact h.em
theorem FX.push (h:FX P w0 gp PL x v W) {W1 W2:World} (hb:Below W.heap.size W W1) (hg:W1.grownBy W2 v.ownBlock) {v':Value} (d:Dep) (hr:W2.ownsRow (P+2) 88 2 v' (x.after.length+1) (flA x.after++cA d)) (hv:v'.ownBlock=v.ownBlock∨v'.ownBlock=some W1.heap.size) :
  FX P w0 gp PL { x with after:=x.after++[d] } v' (W2.setCell ⟨P+1,4,none⟩ v'):=by
 have h1:=h.next hb
 have hbut:But (P+1) W2 (W2.setCell ⟨P+1,4,none⟩ v'):=(But.refl _ _).setCell 4 v'
 have hz:=h1.hz
 have hlt:∀ b,v.ownBlock=some b→P+2≤b:=fun b hb=>(World.ownsRow.lt h1.row b hb).1
 have keep:∀ k,k < W1.heap.size→v.ownBlock≠some k→W2.heap[k]?=W1.heap[k]?:=fun k hk hne=>hg.block k hk (fun e=>hne e.symm)
 have hz2:P+2≤W2.heap.size:=Nat.le_trans hz hg.size
 have hlow2:Below P w0 W2:=h1.low.grown hg (by omega) (fun k hk=>by have:=hlt k hk;omega)
 refine ⟨?_,?_,?_,hlow2.trans (hbut.low (by omega) (by omega)),by rw [World.size_setCell];exact hz2,h.em,?_,h.hg,?_⟩
 ·exact BoxA.but (show BoxA W2 P _ zz from (keep P (by omega) (fun e=>by have:=hlt P e;omega)).trans h1.pr) hbut (by omega)
 ·have:BoxA W2 (P+1) 27 (scs x (gA v)):=(keep (P+1) (by omega) (fun e=>by have:=hlt (P+1) e;omega)).trans h1.bx
  exact this.set 4 v'
 ·rw [show ({ x with after:=x.after++[d] }:Slip).after=x.after++[d] from rfl,List.length_append,flA_app,show flA [d]=cA d by simp [flA]]
  exact own_same hr fun b hb=>Below.heap_setCell _ _ _ _ (by have:=(World.ownsRow.lt hr b hb).1;simp only;omega)
 ·exact (prts_same h1.ps hg.size (keep gp h1.ps.1 h.ho)).but hbut h.hg
 ·rcases hv with e | e
  ·rw [e];exact h.ho
  ·rw [e]
   intro e2
   have:=h1.ps.1
   simp at e2
   omega
theorem FX.sr (h:FX P w0 gp PL x v W):SR W x (gA v):=by
 have e:∀ {α:Type} (f:α→List Value),RdC W (.slice none 0 0) ([]:List α).length (([]:List α).flatMap f):=fun f=>.inl ⟨none,0,rfl,rfl,rfl,fun _=>rfl⟩
 have c0:Cp (.slice none 0 0) 0:=⟨none,0,rfl,Nat.le_refl _,Nat.zero_le _⟩
 refine ⟨ApC.rdc (.inr h.row),?_,?_,?_,cp_own h.row,?_,?_,?_⟩
 ·rw [h.em.1];exact e cM
 ·rw [h.em.2.1];exact e cS
 ·rw [h.em.2.2];exact e cS
 ·rw [h.em.1];exact c0
 ·rw [h.em.2.1];exact c0
 ·rw [h.em.2.2];exact c0
theorem FX.one (h:FX P w0 gp PL x v W):(scs x (gA v)).all (·.oneCell')=true:=scs_one h.sr
end
theorem wpl_own2 {t e:TypeId} {z:Value} {size bytes:Nat} (E:EltI t e z size bytes) {w:World} {ops:Array Oper} {rest:List Oper} {o:Oper} {a:Act} {Q:Exit→Act→World→Prop} (hgd:o.guard=none) (s x:Operand)
  (ho:o.op=.call { callee:=.builtin .append,args:=#[s,x],argTypes:=#[t,t] })
  {base n:Nat} {v:Value} {cs:List Value} (hs:a.eval s=v) (hown:w.ownsRow base e size v n cs) (ad:Addr) (ds:List Value) (hx:a.eval x=.slice (some ad) 1 1) (hc:∀ j u,ds[j]?=some u→w.cell? (ad.add j)=some u) (hd:ds.length=size)
  (h1:∀ u∈ds,u.oneCell'=true) (hlen:n≤1000000) (hby:bytes≤100) (hb:base≤w.heap.size)
  (hK:∀ g c w',w'.ownsRow base e size (.slice (some ⟨g,0,none⟩) (n+1) c) (n+1) (cs++ds)→w.grownBy w' v.ownBlock→(some g=v.ownBlock∨g=w.heap.size)→wpList Tryz.prog ops Q rest (a.put o.dst (.slice (some ⟨g,0,none⟩) (n+1) c)) w') :
  wpList Tryz.prog ops Q (o::rest) a w:=by
 refine wpList_plain hgd fun K hK2=>?_
 obtain ⟨v',w',hrun,r1,r2,r4⟩:=run_own E o.type hown hc (by rw [hd,Nat.one_mul]) h1 (show n+1≤maxLen by unfold maxLen;omega) (by have:(n+1) * bytes≤1000001 * 100:=Nat.mul_le_mul (by omega) hby;omega) hb (show 0 < 1 by decide) (c:=1)
 have hform:∃ g c,v'=.slice (some ⟨g,0,none⟩) (n+1) c:=by
  rcases r1.2 with ⟨_,h0⟩ | ⟨g,cap,cur,e,_⟩
  ·omega
  ·exact ⟨_,_,e⟩
 obtain ⟨g,c,rfl⟩:=hform
 unfold Oper.wp
 simp [execOp,ho,resolve,invoke,builtin,hs,hx,hrun,Result.andThen]
 refine hK2 _ _ (hK g c w' r1 r2 ?_)
 rcases r4 with e | e
 ·exact .inl e
 ·exact .inr (Option.some.inj e)
theorem two_zero (w:World) (t:TypeId) (cs:Array Value):∃ W,((w.alloc (.cells zz t)).alloc (.cells zz t)).setRow (w.heap.size+1) cs=W∧BoxA W w.heap.size t zz∧BoxA W (w.heap.size+1) t cs∧Below w.heap.size w W∧w.heap.size+2≤W.heap.size:=by
 have hb:BoxA ((w.alloc (.cells zz t)).alloc (.cells zz t)) (w.heap.size+1) t zz:=by
  have:=BoxA.new (w.alloc (.cells zz t)) t zz
  rwa [World.size_alloc] at this
 refine ⟨_,rfl,(setRow_other _ _ _ _ (by omega)).trans (BoxA.next (BoxA.new w t zz) ((Below.refl _ _).alloc (Nat.le_refl _) _)),setRow_heap _ _ _ _ _ _ hb,below_setRow (((Below.refl _ w).alloc (Nat.le_refl _) _).alloc (by simp) _) (by omega) _,?_⟩
 have h3:(((w.alloc (.cells zz t)).alloc (.cells zz t)).setRow (w.heap.size+1) cs).heap[w.heap.size+1]?=some (.cells cs t (0,0)):=setRow_heap _ _ _ _ _ _ hb
 have:=(Array.getElem?_eq_some_iff.1 h3).1
 omega
theorem one_byte (w:World) (c:UInt8):(convert 100 9 (.slice (some ⟨w.heap.size,0,none⟩) 1 1)).run Tryz.prog (w.alloc (.cells #[.int .u8 (c.toNat:Int)] 5))=.ok (.string (str [c])) (w.alloc (.cells #[.int .u8 (c.toNat:Int)] 5)):=by
 refine run_convert_bytes_back _ _ _ _ ⟨w.heap.size,0,none⟩ 1 [c] Tryz.underlying100 Tryz.underlying5 Tryz.underlying9 fun j hj=>?_
 have hj0:j=0:=by simp at hj;omega
 subst hj0
 have hadd:(⟨w.heap.size,0,none⟩:Addr).add 0=⟨w.heap.size,0,none⟩:=by unfold Addr.add;split <;> simp_all
 rw [hadd,World.cell?_alloc_mark]
 simp
theorem own_base {B B':Nat} {e:TypeId} {size:Nat} {w:World} {v:Value} {n:Nat} {cs:List Value} (h:w.ownsRow B e size v n cs) (hb:B'≤B):w.ownsRow B' e size v n cs:=by
 refine ⟨h.1,?_⟩
 rcases h.2 with h2 | ⟨g,cap,cur,e,hg,r⟩
 ·exact .inl h2
 ·exact .inr ⟨g,cap,cur,e,Nat.le_trans hb hg,r⟩
def FiT (l:Tx) (w:World) (e:Ending) (w':World):Prop:=∃ (x:Slip) (v:Value) (b:Bool),e=.returned (.tuple #[sV x (gA v),.bool b])∧SR w' x (gA v)∧w'.ownsRow w.heap.size 88 2 v x.after.length (flA x.after)∧(x.make=[]∧x.drop=[]∧x.use=[])∧(sp.first? l=if b=true then some x else none)∧Below w.heap.size w w'
theorem first_ret {l:Tx} {w W W':World} {tmps:Array Value} {gp:Nat} {PL:List Tx} {x:Slip} {v:Value} {b:Bool} (h:FX w.heap.size w gp PL x v W) (hW:W.setRow w.heap.size (scs x (gA v))=W') (hf:sp.first? l=if b=true then some x else none)
  (h2:tmps.getD 2 undef=.pointer (some ⟨w.heap.size,0,none⟩)) (h3:tmps.getD 3 undef=.bool b):bodyPost Tryz.prog Tryz.f41 (FiT l w) Exit.ret ⟨tmps,[]⟩ W':=by
 subst hW
 have hz:=h.hz
 have hb:BoxA (W.setRow w.heap.size (scs x (gA v))) w.heap.size 27 (scs x (gA v)):=setRow_heap _ _ _ _ _ _ h.pr
 have hs:SR (W.setRow w.heap.size (scs x (gA v))) x (gA v):=by
  have hsr:=h.sr
  have hrow:(W.setRow w.heap.size (scs x (gA v))).ownsRow (w.heap.size+2) 88 2 v x.after.length (flA x.after):=own_same h.row fun b hb=>setRow_other _ _ _ _ (by have:=(World.ownsRow.lt h.row b hb).1;omega)
  have e:∀ {α:Type} (f:α→List Value),RdC (W.setRow w.heap.size (scs x (gA v))) (.slice none 0 0) ([]:List α).length (([]:List α).flatMap f):=fun f=>.inl ⟨none,0,rfl,rfl,rfl,fun _=>rfl⟩
  refine ⟨ApC.rdc (.inr hrow),?_,?_,?_,hsr.ca,hsr.cm,hsr.cd,hsr.cu⟩
  ·rw [h.em.1];exact e cM
  ·rw [h.em.2.1];exact e cS
  ·rw [h.em.2.2];exact e cS
 refine bodyPost_ret (v:=.tuple #[sV x (gA v),.bool b]) ?_ rfl ⟨x,v,b,rfl,hs,own_base (own_same h.row fun b hb=>setRow_other _ _ _ _ (by have:=(World.ownsRow.lt h.row b hb).1;omega)) (by omega),h.em,hf,below_setRow h.low (Nat.le_refl _) _⟩
 rw [results_two rfl tmps _ _ _ _ _ _ h2 hb Tryz.underlying27 rfl (by kernel_rfl),h3]
 rfl
end Go.Proofs.YtekcjfdllclphaaGreatDoor.gn
end
section
namespace Go.Proofs.YtekcjfdllclphaaGreatDoor.sp
open Go.Proofs.YtekcjfdllclphaaGreatDoor.un
open Go.Proofs.YtekcjfdllclphaaGreatDoor.di
theorem cuts_lens (c:UInt8):∀ l:Tx,(cuts c l).length≤l.length+1∧∀ p∈cuts c l,p.length≤l.length
 | []=>by simp [cuts]
 | b::r=>by
  obtain ⟨h1,h2⟩:=cuts_lens c r
  unfold cuts
  split
  ·refine ⟨by simp;omega,fun p hp=>?_⟩
   rcases List.mem_cons.1 hp with rfl | hp
   ·simp
   ·have:=h2 p hp;simp;omega
  ·cases hr:cuts c r with
   | nil=>exact absurd hr (cuts_ne c r)
   | cons h t =>
    rw [hr] at h1 h2
    refine ⟨by simp at h1 ⊢;omega,fun p hp=>?_⟩
    rcases List.mem_cons.1 hp with rfl | hp
    ·have:=h2 h (by simp);simp;omega
    ·have:=h2 p (by simp [hp]);simp;omega
theorem cutB_lens {c:UInt8}:∀ {l k v:Tx},cutB c l=some (k,v)→k.length≤l.length∧v.length≤l.length
 | [],k,v,h=>by cases h
 | b::r,k,v,h=>by
  unfold cutB at h
  split at h
  ·cases h;simp
  ·cases hr:cutB c r with
   | none=>rw [hr] at h;cases h
   | some f =>
    obtain ⟨k2,v2⟩:=f
    rw [hr] at h
    cases h
    have:=cutB_lens hr
    simp;omega
theorem within_bd {s:Tx} {a b n:Nat} (h:within? s a b=some n):n≤b:=by
 unfold within? at h
 split at h
 ·split at h
  ·cases h;rename_i h;exact h.2
  ·cases h
 ·cases h
structure Bd (n:Nat) (x:Slip):Prop where
 user:x.user.length≤10000
 pool:x.pool.length≤1000
 nodes:0≤x.nodes∧x.nodes≤1099511627776
 wall:0≤x.wall∧x.wall≤1099511627776
 qos:0≤x.qos∧x.qos≤1099511627776
 cap:0≤x.cap∧x.cap≤1099511627776
 inn:0≤x.inn∧x.inn≤1099511627776
 out:0≤x.out∧x.out≤1099511627776
 after:x.after.length≤10001∧∀ d∈x.after,0≤d.1∧d.1≤1099511627776
 make:x.make.length≤n∧∀ d∈x.make,chk d=true
 drop:x.drop.length≤n∧∀ s∈x.drop,s.length≤1000
 use:x.use.length≤n∧∀ s∈x.use,s.length≤1000
theorem bd_zero:Bd 0 Slip.zero:=⟨by decide,by decide,by decide,by decide,by decide,by decide,by decide,by decide,⟨by decide,fun d hd=>by cases hd⟩,⟨by decide,fun d hd=>by cases hd⟩,⟨by decide,fun d hd=>by cases hd⟩,⟨by decide,fun d hd=>by cases hd⟩⟩
theorem deps_bd:∀ (L:List Tx) (A:List (Int × Bool)),L.mapM dep?=some A→A.length=L.length∧∀ d∈A,0≤d.1∧d.1≤1099511627776
 | [],A,h=>by
  simp at h
  subst h
  exact ⟨rfl,fun d hd=>by cases hd⟩
 | p::r,A,h=>by
  rw [List.mapM_cons] at h
  cases hp:dep? p with
  | none=>rw [hp] at h;cases h
  | some d =>
   rw [hp] at h
   cases hr:r.mapM dep? with
   | none=>rw [hr] at h;cases h
   | some B =>
    rw [hr] at h
    cases h
    obtain ⟨h1,h2⟩:=deps_bd r B hr
    refine ⟨by simp [h1],fun e he=>?_⟩
    rcases List.mem_cons.1 he with rfl | he
    ·unfold dep? at hp
     split at hp
     ·split at hp
      ·rename_i hw
       have:=within_bd hw
       split at hp
       ·cases hp;dsimp only;omega
       ·cases hp
      ·cases hp
     ·cases hp
    ·exact h2 e he
theorem fput_bd {x y:Slip} {k v:Tx} (h:Bd 0 x) (hv:v.length≤10000) (hp:fput x (k,v)=some y):Bd 0 y:=by
 by_cases k0:k=userK
 ·unfold fput at hp
  rw [if_pos k0] at hp
  cases hp
  exact ⟨hv,h.pool,h.nodes,h.wall,h.qos,h.cap,h.inn,h.out,h.after,h.make,h.drop,h.use⟩
 by_cases k1:k=nodesK
 ·have e:fput x (k,v)=(within? v 1 64).map fun n=>{ x with nodes:=(n:Int) }:=by unfold fput;rw [if_neg k0,if_pos k1];dsimp only;cases within? v 1 64 <;> rfl
  rw [e] at hp
  cases hw:within? v 1 64 with
  | none=>rw [hw] at hp;cases hp
  | some n =>
   rw [hw] at hp
   cases hp
   have:=within_bd hw
   exact ⟨h.user,h.pool,⟨by show (0:Int)≤(n:Int);omega,by show (n:Int)≤_;omega⟩,h.wall,h.qos,h.cap,h.inn,h.out,h.after,h.make,h.drop,h.use⟩
 by_cases k2:k=wallK
 ·have e:fput x (k,v)=(within? v 1 1048576).map fun n=>{ x with wall:=(n:Int) }:=by unfold fput;rw [if_neg k0,if_neg k1,if_pos k2];dsimp only;cases within? v 1 1048576 <;> rfl
  rw [e] at hp
  cases hw:within? v 1 1048576 with
  | none=>rw [hw] at hp;cases hp
  | some n =>
   rw [hw] at hp
   cases hp
   have:=within_bd hw
   exact ⟨h.user,h.pool,h.nodes,⟨by show (0:Int)≤(n:Int);omega,by show (n:Int)≤_;omega⟩,h.qos,h.cap,h.inn,h.out,h.after,h.make,h.drop,h.use⟩
 by_cases k3:k=qosK
 ·have e:fput x (k,v)=(within? v 0 9).map fun n=>{ x with qos:=(n:Int) }:=by unfold fput;rw [if_neg k0,if_neg k1,if_neg k2,if_pos k3];dsimp only;cases within? v 0 9 <;> rfl
  rw [e] at hp
  cases hw:within? v 0 9 with
  | none=>rw [hw] at hp;cases hp
  | some n =>
   rw [hw] at hp
   cases hp
   have:=within_bd hw
   exact ⟨h.user,h.pool,h.nodes,h.wall,⟨by show (0:Int)≤(n:Int);omega,by show (n:Int)≤_;omega⟩,h.cap,h.inn,h.out,h.after,h.make,h.drop,h.use⟩
 by_cases k4:k=afterK
 ·have e:fput x (k,v)=((cuts 44 v).mapM dep?).map fun l=>{ x with after:=l }:=by unfold fput;rw [if_neg k0,if_neg k1,if_neg k2,if_neg k3,if_pos k4]
  rw [e] at hp
  cases hw:(cuts 44 v).mapM dep? with
  | none=>rw [hw] at hp;cases hp
  | some A =>
   rw [hw] at hp
   cases hp
   obtain ⟨h1,h2⟩:=deps_bd _ A hw
   have h3:=(cuts_lens 44 v).1
   exact ⟨h.user,h.pool,h.nodes,h.wall,h.qos,h.cap,h.inn,h.out,⟨by show A.length≤10001;omega,h2⟩,h.make,h.drop,h.use⟩
 ·unfold fput at hp
  rw [if_neg k0,if_neg k1,if_neg k2,if_neg k3,if_neg k4] at hp
  cases hp
theorem frun_bd:∀ (ws:List Tx) (x:Slip) (K:List Tx) (y:Slip) (K':List Tx),Bd 0 x→(∀ w∈ws,w.length≤10000)→frun (x,K) ws=some (y,K')→Bd 0 y
 | [],x,K,y,K',h,_,he=>by
  cases he
  exact h
 | w::ws,x,K,y,K',h,hw,he=>by
  rw [frun,cut_B] at he
  cases hc:cutB 61 w with
  | none=>rw [hc] at he;cases he
  | some f =>
   obtain ⟨k,v⟩:=f
   rw [hc] at he
   dsimp only at he
   split at he
   ·cases he
   ·cases hp:fput x (k,v) with
    | none=>rw [hp] at he;cases he
    | some z =>
     rw [hp] at he
     exact frun_bd ws z _ y K' (fput_bd h (Nat.le_trans (cutB_lens hc).2 (hw w (by simp))) hp) (fun u hu=>hw u (by simp [hu])) he
theorem first_bd {l:Tx} {x:Slip} (hl:l.length≤10000) (h:first? l=some x):Bd 0 x:=by
 have hc:=(cuts_lens 32 l).2
 unfold first? at h
 cases hs:cuts 32 l with
 | nil=>exact absurd hs (cuts_ne 32 l)
 | cons j ws =>
  rw [hs] at h hc
  dsimp only at h
  split at h
  ·cases hf:frun (Slip.zero,[]) ws with
   | none=>rw [hf] at h;cases h
   | some s =>
    obtain ⟨y,K⟩:=s
    rw [hf] at h
    dsimp only at h
    split at h
    ·cases h
     exact frun_bd ws _ _ _ _ bd_zero (fun w hw=>Nat.le_trans (hc w (by simp [hw])) hl) hf
    ·cases h
  ·cases h
theorem chk_bd {d:Dir} (h:chk d=true):d.name.length≤32∧d.pool.length≤32∧0≤d.size∧d.size≤1099511627776:=by
 obtain ⟨h1,h2,h3,h4⟩:=chk_name h
 exact ⟨by omega,by omega,by omega,by omega⟩
theorem put_bd {n:Nat} {x:Slip} {d:Dir} (h:Bd n x) (hc:chk d=true):Bd (n+1) (put x d):=by
 obtain ⟨h1,h2,h3,h4⟩:=chk_bd hc
 have up:∀ {y:Slip},Bd n y→Bd (n+1) y:=fun k=>⟨k.user,k.pool,k.nodes,k.wall,k.qos,k.cap,k.inn,k.out,k.after,⟨Nat.le_succ_of_le k.make.1,k.make.2⟩,⟨Nat.le_succ_of_le k.drop.1,k.drop.2⟩,⟨Nat.le_succ_of_le k.use.1,k.use.2⟩⟩
 unfold put
 split
 ·exact up ⟨h.user,by show d.pool.length≤1000;omega,h.nodes,h.wall,h.qos,⟨h3,h4⟩,h.inn,h.out,h.after,h.make,h.drop,h.use⟩
 split
 ·exact up ⟨h.user,h.pool,h.nodes,h.wall,h.qos,h.cap,⟨h3,h4⟩,h.out,h.after,h.make,h.drop,h.use⟩
 split
 ·exact up ⟨h.user,h.pool,h.nodes,h.wall,h.qos,h.cap,h.inn,⟨h3,h4⟩,h.after,h.make,h.drop,h.use⟩
 split
 ·have k:=up h
  exact ⟨k.user,k.pool,k.nodes,k.wall,k.qos,k.cap,k.inn,k.out,k.after,⟨by show (x.make++[d]).length≤n+1;rw [List.length_append];have:=h.make.1;simp;omega,fun e he=>by
   rcases List.mem_append.1 he with he | he
   ·exact h.make.2 e he
   ·simp at he;subst he;exact hc⟩,k.drop,k.use⟩
 split
 ·have k:=up h
  exact ⟨k.user,k.pool,k.nodes,k.wall,k.qos,k.cap,k.inn,k.out,k.after,k.make,⟨by show (x.drop++[d.name]).length≤n+1;rw [List.length_append];have:=h.drop.1;simp;omega,fun e he=>by
   rcases List.mem_append.1 he with he | he
   ·exact h.drop.2 e he
   ·simp at he;subst he;omega⟩,k.use⟩
 split
 ·have k:=up h
  exact ⟨k.user,k.pool,k.nodes,k.wall,k.qos,k.cap,k.inn,k.out,k.after,k.make,k.drop,⟨by show (x.use++[d.name]).length≤n+1;rw [List.length_append];have:=h.use.1;simp;omega,fun e he=>by
   rcases List.mem_append.1 he with he | he
   ·exact h.use.2 e he
   ·simp at he;subst he;omega⟩⟩
 ·exact up h
theorem bd_mono {n m:Nat} {x:Slip} (k:Bd n x) (h:n≤m):Bd m x:=⟨k.user,k.pool,k.nodes,k.wall,k.qos,k.cap,k.inn,k.out,k.after,⟨Nat.le_trans k.make.1 h,k.make.2⟩,⟨Nat.le_trans k.drop.1 h,k.drop.2⟩,⟨Nat.le_trans k.use.1 h,k.use.2⟩⟩
theorem isD_bb {y:Tx} (h:y=[35,66,66]):isD y=true:=by subst h;decide
theorem isD_short {y:Tx} (h:y≠[35,66,66]) (hl:y.length < 4):¬ isD y=true:=by
 unfold isD
 rw [decide_eq_false (show ¬ y=bbW from h),Bool.false_or]
 intro hp
 have:=(List.isPrefixOf_iff_prefix.1 hp).length_le
 simp at this
 omega
theorem isD_long {y:Tx} (h:y≠[35,66,66]) (hl:4≤y.length):isD y=true↔y.take 4=[35,66,66,32]:=by
 unfold isD
 rw [decide_eq_false (show ¬ y=bbW from h),Bool.false_or,List.isPrefixOf_iff_prefix,List.prefix_iff_eq_take]
 exact ⟨fun e=>e.symm,fun e=>e.symm⟩
def LR (x0:Slip) (ws:List Tx) (i:Nat) (x:Slip) (S:List Nat):Prop:=lrun (x0,[]) 2 ws=lrun (x,S) (i+1) (ws.drop (i - 1))
theorem lr_start (x0:Slip) (ws:List Tx):LR x0 ws 1 x0 []:=rfl
theorem lr_split {x0:Slip} {ws:List Tx} {i:Nat} {x:Slip} {S:List Nat} {y:Tx} (h:LR x0 ws i x S) (hi:1≤i) (hy:ws[i - 1]?=some y):lrun (x0,[]) 2 ws=lrun (x,S) (i+1) (y::ws.drop i):=by
 unfold LR at h
 obtain ⟨hl,hy⟩:=List.getElem?_eq_some_iff.1 hy
 rw [h,List.drop_eq_getElem_cons hl,hy,show i - 1+1=i by omega]
theorem lr_skip {x0:Slip} {ws:List Tx} {i:Nat} {x:Slip} {S:List Nat} {y:Tx} (h:LR x0 ws i x S) (hi:1≤i) (hy:ws[i - 1]?=some y) (hd:¬ isD y=true):LR x0 ws (i+1) x S:=by
 unfold LR
 rw [lr_split h hi hy,lrun,if_neg hd,Nat.add_sub_cancel]
theorem lr_next {x0:Slip} {ws:List Tx} {i:Nat} {x:Slip} {S:List Nat} {y:Tx} (h:LR x0 ws i x S) (hi:1≤i) (hy:ws[i - 1]?=some y) (hd:isD y=true) (he:lerr y=0) {d:Dir} (hdr:ldir y=d) (hs:¬ (d.kind≤3∧d.kind∈S)):LR x0 ws (i+1) (put x d) (d.kind::S):=by
 unfold LR
 subst hdr
 rw [lr_split h hi hy,lrun,if_pos hd,if_neg (by simp [he]),if_neg hs,Nat.add_sub_cancel]
theorem lr_err {x0:Slip} {ws:List Tx} {i:Nat} {x:Slip} {S:List Nat} {y:Tx} (h:LR x0 ws i x S) (hi:1≤i) (hy:ws[i - 1]?=some y) (hd:isD y=true) (he:lerr y≠0):lrun (x0,[]) 2 ws=.error (lerr y,i+1):=by
 rw [lr_split h hi hy,lrun,if_pos hd,if_pos he]
theorem lr_twice {x0:Slip} {ws:List Tx} {i:Nat} {x:Slip} {S:List Nat} {y:Tx} (h:LR x0 ws i x S) (hi:1≤i) (hy:ws[i - 1]?=some y) (hd:isD y=true) (he:lerr y=0) {d:Dir} (hdr:ldir y=d) (hs:d.kind≤3∧d.kind∈S):lrun (x0,[]) 2 ws=.error (150,i+1):=by
 subst hdr
 rw [lr_split h hi hy,lrun,if_pos hd,if_neg (by simp [he]),if_pos hs]
theorem lr_end {x0:Slip} {ws:List Tx} {n:Nat} {x:Slip} {S:List Nat} (h:LR x0 ws n x S) (hn:n=ws.length+1):lrun (x0,[]) 2 ws=.ok (x,S):=by
 unfold LR at h
 rw [h,hn,Nat.add_sub_cancel,List.drop_length]
 rfl
end Go.Proofs.YtekcjfdllclphaaGreatDoor.sp
end
section
namespace Go.Proofs.YtekcjfdllclphaaGreatDoor.gn
open Go.RowKit
open Go.Proofs.YtekcjfdllclphaaGreatDoor.un
open Go.Proofs.YtekcjfdllclphaaGreatDoor.di
open Go.Proofs.YtekcjfdllclphaaGreatDoor.sp (Slip Bd)
def sbc (S:List Nat):Array Value:=#[.bool false,.bool (decide (1∈S)),.bool (decide (2∈S)),.bool (decide (3∈S))]
structure PX (X:Nat) (w1:World) (x:Slip) (va vm vd vu:Value) (S:List Nat) (W:World):Prop where
 bx:BoxA W X 27 (scs x ⟨va,vm,vd,vu⟩)
 sb:BoxA W (X+1) 78 (sbc S)
 m:W.ownsRow (X+2) 80 5 vm x.make.length (flM x.make)
 d:W.ownsRow (X+2) 9 1 vd x.drop.length (flS x.drop)
 u:W.ownsRow (X+2) 9 1 vu x.use.length (flS x.use)
 du:∀ b,vd.ownBlock=some b→vu.ownBlock≠some b
 low:Below X w1 W
 hz:X+2≤W.heap.size
section
variable {X : Nat} {w1 : World} {x y : Slip} {va vm vd vu : Value} {S : List Nat} {W W' : World}
theorem PX.next (h:PX X w1 x va vm vd vu S W) (hb:Below W.heap.size W W'):PX X w1 x va vm vd vu S W':=by
 have k:∀ {e:TypeId} {size:Nat} {v:Value} {n:Nat} {cs:List Value},W.ownsRow (X+2) e size v n cs→W'.ownsRow (X+2) e size v n cs:=fun {e size v n cs} ho=>World.ownsRow.kept ho (grown_new hb) (by cases hv:v.ownBlock <;> simp)
 exact ⟨h.bx.next hb,h.sb.next hb,k h.m,k h.d,k h.u,h.du,h.low.trans (hb.mono (by have:=h.hz;omega)),Nat.le_trans h.hz hb.size⟩
theorem PX.put (h:PX X w1 x va vm vd vu S W) (j:Nat) (u:Value) (hc:(scs x ⟨va,vm,vd,vu⟩).setIfInBounds j u=scs y ⟨va,vm,vd,vu⟩) (hm:y.make=x.make) (hd:y.drop=x.drop) (hu:y.use=x.use):PX X w1 y va vm vd vu S (W.setCell ⟨X,j,none⟩ u):=by
 have hbut:But X W (W.setCell ⟨X,j,none⟩ u):=(But.refl _ _).setCell j u
 have hz:=h.hz
 have k:∀ {e:TypeId} {size:Nat} {v:Value} {n:Nat} {cs:List Value},W.ownsRow (X+2) e size v n cs→(W.setCell ⟨X,j,none⟩ u).ownsRow (X+2) e size v n cs:=fun {e size v n cs} ho=>own_same ho fun b hb=>Below.heap_setCell _ _ _ _ (by have:=(World.ownsRow.lt ho b hb).1;simp only;omega)
 refine ⟨?_,h.sb.but hbut (by omega),?_,?_,?_,h.du,h.low.trans (hbut.low (Nat.le_refl _) (by omega)),by rw [World.size_setCell];exact hz⟩
 ·rw [←hc];exact h.bx.set j u
 ·rw [hm];exact k h.m
 ·rw [hd];exact k h.d
 ·rw [hu];exact k h.u
theorem PX.seen (h:PX X w1 x va vm vd vu S W) (k:Nat) (hk:k=1∨k=2∨k=3):PX X w1 x va vm vd vu (k::S) (W.setCell ⟨X+1,k,none⟩ (.bool true)):=by
 have hbut:But (X+1) W (W.setCell ⟨X+1,k,none⟩ (.bool true)):=(But.refl _ _).setCell k _
 have hz:=h.hz
 have q:∀ {e:TypeId} {size:Nat} {v:Value} {n:Nat} {cs:List Value},W.ownsRow (X+2) e size v n cs→(W.setCell ⟨X+1,k,none⟩ (.bool true)).ownsRow (X+2) e size v n cs:=fun {e size v n cs} ho=>own_same ho fun b hb=>Below.heap_setCell _ _ _ _ (by have:=(World.ownsRow.lt ho b hb).1;simp only;omega)
 refine ⟨h.bx.but hbut (by omega),?_,q h.m,q h.d,q h.u,h.du,h.low.trans (hbut.low (by omega) (by omega)),by rw [World.size_setCell];exact hz⟩
 have e:=h.sb.set k (.bool true)
 have e2:(sbc S).setIfInBounds k (.bool true)=sbc (k::S):=by
  unfold sbc
  rcases hk with rfl | rfl | rfl <;> simp
 rw [←e2]
 exact e
theorem PX.other (h:PX X w1 x va vm vd vu S W) (k:Nat) (hk:3 < k):PX X w1 x va vm vd vu (k::S) W:=by
 have e:sbc (k::S)=sbc S:=by
  unfold sbc
  have h1:decide (1∈k::S)=decide (1∈S):=decide_eq_decide.2 ⟨fun h=>(List.mem_cons.1 h).resolve_left (by omega),List.mem_cons_of_mem _⟩
  have h2:decide (2∈k::S)=decide (2∈S):=decide_eq_decide.2 ⟨fun h=>(List.mem_cons.1 h).resolve_left (by omega),List.mem_cons_of_mem _⟩
  have h3:decide (3∈k::S)=decide (3∈S):=decide_eq_decide.2 ⟨fun h=>(List.mem_cons.1 h).resolve_left (by omega),List.mem_cons_of_mem _⟩
  rw [h1,h2,h3]
 exact ⟨h.bx,by rw [e];exact h.sb,h.m,h.d,h.u,h.du,h.low,h.hz⟩
theorem PX.push_m (h:PX X w1 x va vm vd vu S W) {W1 W2:World} (hb:Below W.heap.size W W1) (hg:W1.grownBy W2 vm.ownBlock) {v':Value} (d:Dir) (hr:W2.ownsRow (X+2) 80 5 v' (x.make.length+1) (flM x.make++cM d)) (hv:v'.ownBlock=vm.ownBlock∨v'.ownBlock=some W1.heap.size) :
  PX X w1 { x with make:=x.make++[d] } va v' vd vu S (W2.setCell ⟨X,9,none⟩ v'):=by
 have h1:=h.next hb
 have hbut:But X W2 (W2.setCell ⟨X,9,none⟩ v'):=(But.refl _ _).setCell 9 v'
 have hz:=h1.hz
 have hlt:∀ b,vm.ownBlock=some b→X+2≤b:=fun b hb=>(World.ownsRow.lt h1.m b hb).1
 have keep:∀ k,k < W1.heap.size→vm.ownBlock≠some k→W2.heap[k]?=W1.heap[k]?:=fun k hk hne=>hg.block k hk (fun e=>hne e.symm)
 have hz2:X+2≤W2.heap.size:=Nat.le_trans hz hg.size
 have hlow2:Below X w1 W2:=h1.low.grown hg (by omega) (fun k hk=>by have:=hlt k hk;omega)
 have hset:∀ b,b≠X→(W2.setCell ⟨X,9,none⟩ v').heap[b]?=W2.heap[b]?:=fun b hb=>Below.heap_setCell _ _ _ _ hb
 have hrow:∀ {e:TypeId} {size:Nat} {v:Value} {n:Nat} {cs:List Value},W1.ownsRow (X+2) e size v n cs→(∀ b,v.ownBlock=some b→vm.ownBlock≠some b)→(W2.setCell ⟨X,9,none⟩ v').ownsRow (X+2) e size v n cs:=fun ho hn =>
  own_same ho fun b hb=>(hset b (by have:=(World.ownsRow.lt ho b hb).1;omega)).trans (keep b (World.ownsRow.lt ho b hb).2 (hn b hb))
 have hnew:(W2.setCell ⟨X,9,none⟩ v').ownsRow (X+2) 80 5 v' (x.make++[d]).length (flM (x.make++[d])):=by
  rw [List.length_append,flM_app,show flM [d]=cM d by simp [flM]]
  exact own_same hr fun b hb=>hset b (by have:=(World.ownsRow.lt hr b hb).1;omega)
 refine ⟨?_,?_,hnew,hrow h1.d (fun b hb e=>own_apart h1.d h1.m (by decide) hb e),hrow h1.u (fun b hb e=>own_apart h1.u h1.m (by decide) hb e),h.du,hlow2.trans (hbut.low (Nat.le_refl _) (by omega)),by rw [World.size_setCell];exact hz2⟩
 ·have:BoxA W2 X 27 (scs x ⟨va,vm,vd,vu⟩):=(keep X (by omega) (fun e=>by have:=hlt X e;omega)).trans h1.bx
  exact this.set 9 v'
 ·exact BoxA.but (show BoxA W2 (X+1) _ (sbc S) from (keep (X+1) (by omega) (fun e=>by have:=hlt (X+1) e;omega)).trans h1.sb) hbut (by omega)
theorem PX.push_d (h:PX X w1 x va vm vd vu S W) {W1 W2:World} (hb:Below W.heap.size W W1) (hg:W1.grownBy W2 vd.ownBlock) {v':Value} (d:Tx) (hr:W2.ownsRow (X+2) 9 1 v' (x.drop.length+1) (flS x.drop++cS d)) (hv:v'.ownBlock=vd.ownBlock∨v'.ownBlock=some W1.heap.size) :
  PX X w1 { x with drop:=x.drop++[d] } va vm v' vu S (W2.setCell ⟨X,10,none⟩ v'):=by
 have h1:=h.next hb
 have hbut:But X W2 (W2.setCell ⟨X,10,none⟩ v'):=(But.refl _ _).setCell 10 v'
 have hz:=h1.hz
 have hlt:∀ b,vd.ownBlock=some b→X+2≤b:=fun b hb=>(World.ownsRow.lt h1.d b hb).1
 have keep:∀ k,k < W1.heap.size→vd.ownBlock≠some k→W2.heap[k]?=W1.heap[k]?:=fun k hk hne=>hg.block k hk (fun e=>hne e.symm)
 have hz2:X+2≤W2.heap.size:=Nat.le_trans hz hg.size
 have hlow2:Below X w1 W2:=h1.low.grown hg (by omega) (fun k hk=>by have:=hlt k hk;omega)
 have hset:∀ b,b≠X→(W2.setCell ⟨X,10,none⟩ v').heap[b]?=W2.heap[b]?:=fun b hb=>Below.heap_setCell _ _ _ _ hb
 have hrow:∀ {e:TypeId} {size:Nat} {v:Value} {n:Nat} {cs:List Value},W1.ownsRow (X+2) e size v n cs→(∀ b,v.ownBlock=some b→vd.ownBlock≠some b)→(W2.setCell ⟨X,10,none⟩ v').ownsRow (X+2) e size v n cs:=fun ho hn =>
  own_same ho fun b hb=>(hset b (by have:=(World.ownsRow.lt ho b hb).1;omega)).trans (keep b (World.ownsRow.lt ho b hb).2 (hn b hb))
 have hnew:(W2.setCell ⟨X,10,none⟩ v').ownsRow (X+2) 9 1 v' (x.drop++[d]).length (flS (x.drop++[d])):=by
  rw [List.length_append,flS_app,show flS [d]=cS d by simp [flS]]
  exact own_same hr fun b hb=>hset b (by have:=(World.ownsRow.lt hr b hb).1;omega)
 refine ⟨?_,?_,hrow h1.m (fun b hb e=>own_apart h1.m h1.d (by decide) hb e),hnew,hrow h1.u (fun b hb e=>h1.du b e hb),fun b hb=>by
  rcases hv with e | e
  ·rw [e] at hb;exact h.du b hb
  ·rw [e] at hb
   cases hb
   intro e2
   have:=(World.ownsRow.lt h1.u _ e2).2
   omega,hlow2.trans (hbut.low (Nat.le_refl _) (by omega)),by rw [World.size_setCell];exact hz2⟩
 ·have:BoxA W2 X 27 (scs x ⟨va,vm,vd,vu⟩):=(keep X (by omega) (fun e=>by have:=hlt X e;omega)).trans h1.bx
  exact this.set 10 v'
 ·exact BoxA.but (show BoxA W2 (X+1) _ (sbc S) from (keep (X+1) (by omega) (fun e=>by have:=hlt (X+1) e;omega)).trans h1.sb) hbut (by omega)
theorem PX.push_u (h:PX X w1 x va vm vd vu S W) {W1 W2:World} (hb:Below W.heap.size W W1) (hg:W1.grownBy W2 vu.ownBlock) {v':Value} (d:Tx) (hr:W2.ownsRow (X+2) 9 1 v' (x.use.length+1) (flS x.use++cS d)) (hv:v'.ownBlock=vu.ownBlock∨v'.ownBlock=some W1.heap.size) :
  PX X w1 { x with use:=x.use++[d] } va vm vd v' S (W2.setCell ⟨X,11,none⟩ v'):=by
 have h1:=h.next hb
 have hbut:But X W2 (W2.setCell ⟨X,11,none⟩ v'):=(But.refl _ _).setCell 11 v'
 have hz:=h1.hz
 have hlt:∀ b,vu.ownBlock=some b→X+2≤b:=fun b hb=>(World.ownsRow.lt h1.u b hb).1
 have keep:∀ k,k < W1.heap.size→vu.ownBlock≠some k→W2.heap[k]?=W1.heap[k]?:=fun k hk hne=>hg.block k hk (fun e=>hne e.symm)
 have hz2:X+2≤W2.heap.size:=Nat.le_trans hz hg.size
 have hlow2:Below X w1 W2:=h1.low.grown hg (by omega) (fun k hk=>by have:=hlt k hk;omega)
 have hset:∀ b,b≠X→(W2.setCell ⟨X,11,none⟩ v').heap[b]?=W2.heap[b]?:=fun b hb=>Below.heap_setCell _ _ _ _ hb
 have hrow:∀ {e:TypeId} {size:Nat} {v:Value} {n:Nat} {cs:List Value},W1.ownsRow (X+2) e size v n cs→(∀ b,v.ownBlock=some b→vu.ownBlock≠some b)→(W2.setCell ⟨X,11,none⟩ v').ownsRow (X+2) e size v n cs:=fun ho hn =>
  own_same ho fun b hb=>(hset b (by have:=(World.ownsRow.lt ho b hb).1;omega)).trans (keep b (World.ownsRow.lt ho b hb).2 (hn b hb))
 have hnew:(W2.setCell ⟨X,11,none⟩ v').ownsRow (X+2) 9 1 v' (x.use++[d]).length (flS (x.use++[d])):=by
  rw [List.length_append,flS_app,show flS [d]=cS d by simp [flS]]
  exact own_same hr fun b hb=>hset b (by have:=(World.ownsRow.lt hr b hb).1;omega)
 refine ⟨?_,?_,hrow h1.m (fun b hb e=>own_apart h1.m h1.u (by decide) hb e),hrow h1.d (fun b hb e=>h1.du b hb e),hnew,fun b hb=>by
  rcases hv with e | e
  ·rw [e];exact h.du b hb
  ·rw [e]
   intro e2
   cases e2
   have:=(World.ownsRow.lt h1.d _ hb).2
   omega,hlow2.trans (hbut.low (Nat.le_refl _) (by omega)),by rw [World.size_setCell];exact hz2⟩
 ·have:BoxA W2 X 27 (scs x ⟨va,vm,vd,vu⟩):=(keep X (by omega) (fun e=>by have:=hlt X e;omega)).trans h1.bx
  exact this.set 11 v'
 ·exact BoxA.but (show BoxA W2 (X+1) _ (sbc S) from (keep (X+1) (by omega) (fun e=>by have:=hlt (X+1) e;omega)).trans h1.sb) hbut (by omega)
theorem PX.sr (h:PX X w1 x va vm vd vu S W) (hX:w1.heap.size=X) (ha:RdC w1 va x.after.length (flA x.after)) (hca:Cp va x.after.length):SR W x ⟨va,vm,vd,vu⟩ :=
 ⟨ha.next (by rw [hX];exact h.low),ApC.rdc (.inr h.m),ApC.rdc (.inr h.d),ApC.rdc (.inr h.u),hca,cp_own h.m,cp_own h.d,cp_own h.u⟩
end
theorem Bd.sw {n:Nat} {x:Slip} (h:Bd n x):SW x :=
 ⟨by have:=h.user;omega,by have:=h.pool;omega,by have:=h.nodes;omega,by have:=h.wall;omega,by have:=h.qos;omega,by have:=h.cap;omega,by have:=h.inn;omega,by have:=h.out;omega,fun d hd=>by have:=h.after.2 d hd;omega,fun d hd=>DW_chk (h.make.2 d hd),fun s hs=>by have:=h.drop.2 s hs;omega,fun s hs=>by have:=h.use.2 s hs;omega⟩
theorem Bd.mid {n:Nat} {x:Slip} (h:Bd n x) (hn:n≤100000):Mid x :=
 ⟨by have:=h.user;omega,by have:=h.pool;omega,by have:=h.after.1;omega,⟨by have:=h.make.1;omega,fun d hd=>by have:=sp.chk_bd (h.make.2 d hd);omega⟩,⟨by have:=h.drop.1;omega,fun s hs=>by have:=h.drop.2 s hs;omega⟩,⟨by have:=h.use.1;omega,fun s hs=>by have:=h.use.2 s hs;omega⟩⟩
end Go.Proofs.YtekcjfdllclphaaGreatDoor.gn
end
