/- The document's Check of a slip. (Written by gen_slDc.py.) -/
import Derived.Test.YtekcjfdllclphaaGreatDoorMQbOrB
import Derived.Test.YtekcjfdllclphaaGreatDoorMQbSlCk
import Derived.Test.YtekcjfdllclphaaGreatDoorMQbDiS
import Derived.Test.YtekcjfdllclphaaGreatDoorMQbGenLoad
import Derived.Deep.DeepCutAuto
import Derived.Deep.CutBlock
set_option linter.unusedVariables false
set_option linter.unusedSimpArgs false
section
namespace Go.Proofs.YtekcjfdllclphaaGreatDoor.gn
open Go.RowKit
open Go.Proofs.YtekcjfdllclphaaGreatDoor.un
open Go.Proofs.YtekcjfdllclphaaGreatDoor.di
open Go.Proofs.YtekcjfdllclphaaGreatDoor.sp (Slip chkS chkS_iff chk_not Ok nameL)
structure Mid (x:Slip):Prop where
 user:x.user.length≤100000
 pool:x.pool.length≤100000
 after:x.after.length≤100000
 make:x.make.length≤100000∧∀ d∈x.make,d.name.length≤1000∧d.pool.length≤1000
 drop:x.drop.length≤100000∧∀ s∈x.drop,s.length≤100000
 use:x.use.length≤100000∧∀ s∈x.use,s.length≤100000
theorem rdc_one (w:World) (y:Tx):RdC (w.alloc (.cells #[.string (str y)] 9)) (.slice (some ⟨w.heap.size,0,none⟩) 1 1) 1 (flS [y]) :=
 .inr ⟨_,0,1,rfl,(BoxA.new w 9 #[.string (str y)]).lt,fun j u hu=>by
  rw [Nat.zero_add]
  exact (BoxA.new w 9 #[.string (str y)]).cell j u (by simpa [flS,cS] using hu)⟩
set_option maxRecDepth 100000 in
set_option maxHeartbeats 32000000 in
theorem dCheck_slip (x:Slip) (g:Gh) (w:World) (h:SR w x g) (hW:SW x) (hM:Mid x):Calls Tryz.prog 43 #[sV x g] w (Told (.int .i64 (sE x)) w):=by
 obtain ⟨wb,hwb⟩:∃ wb,w.alloc (.cells (scs x g) 27)=wb:=⟨_,rfl⟩
 have hbx:BoxA wb w.heap.size 27 (scs x g):=by rw [←hwb];exact BoxA.new _ _ _
 have hB1:Below w.heap.size w wb:=by rw [←hwb];exact (Below.refl _ _).alloc (Nat.le_refl _) _
 have HWB:=Lib.hid hwb
 have HS:=Lib.hid (fun (W:World) (hb:Below wb.heap.size wb W)=>(h.next hB1).next hb)
 have HCE:=Lib.hid (fun (W:World) (hb:Below wb.heap.size wb W)=>cel_box (hbx.next hb))
 have HFIN:=Lib.hid (fun (W:World) (hb:Below wb.heap.size wb W)=>hB1.trans (hb.mono hB1.size))
 have HBAD:=Lib.hid (fun (hn:¬ Ok x)=>(show sE x=150 by unfold sE;rw [chk_not hn];rfl))
 have HGOOD:=Lib.hid (fun (ho:Ok x)=>(show sE x=0 by unfold sE;rw [(chkS_iff x).2 ho];rfl))
 have HM:=Lib.hid hM
 have HWX:=Lib.hid hW
 have HND:=Lib.hid (fun (W:World) (hb:Below wb.heap.size wb W)=>names_any x.drop g.d W ((h.next hB1).next hb).d (by have:=hM.drop.1;unfold maxLen;omega) (fun s hs=>by have:=hM.drop.2 s hs;omega))
 have HNU:=Lib.hid (fun (W:World) (hb:Below wb.heap.size wb W)=>names_any x.use g.u W ((h.next hB1).next hb).u (by have:=hM.use.1;unfold maxLen;omega) (fun s hs=>by have:=hM.use.2 s hs;omega))
 have HUS:=Lib.hid (fun W=>dname_any x.user (by have:=hM.user;omega) W)
 have HPO:=Lib.hid (fun W=>dname_any x.pool (by have:=hM.pool;omega) W)
 have lm:=hM.make.1
 have la:=hM.after
 have lu:=hM.use.1
 obtain ⟨pa,ca,ea,_,_⟩:=h.ca
 obtain ⟨pm,cm,em,_,_⟩:=h.cm
 obtain ⟨pd,cd,ed,_,_⟩:=h.cd
 obtain ⟨pu,cu,eu,_,_⟩:=h.cu
 obtain ⟨c0,c1,c2,c3,c4,c5,c6,c7,c8,c9,c10,c11,clt⟩:=cel_box hbx
 clear h hW hM hB1 hwb hbx
 obtain ⟨va,vm,vd,vu⟩:=g
 dsimp only at ea em ed eu
 subst ea em ed eu
 unfold sV scs at *
 dsimp only at *
 have HSR:=Lib.hid (fun (W:World) (hb:Below wb.heap.size wb W)=>And.intro (show RdC W (.slice pm x.make.length cm) x.make.length (flM x.make) from (HS.out W hb).m) (And.intro (show RdC W (.slice pa x.after.length ca) x.after.length (flA x.after) from (HS.out W hb).a) (show RdC W (.slice pu x.use.length cu) x.use.length (flS x.use) from (HS.out W hb).u)))
 generalize hna:x.after.length=na at *
 generalize hnm:x.make.length=nm at *
 generalize hnu:x.use.length=nu at *
 have HNA:=Lib.hid hna
 have HNM:=Lib.hid hnm
 have HNUL:=Lib.hid hnu
 clear hna hnm hnu
 go_enter Tryz.func43,Tryz.ntmps43
 go_upto_region 1 with fail
 rw [HWB.out]
 go_wp2
 go_loopw [3,4,5] (fun s3 s4 s5 wr=>∃ (i:Nat) (v3 v5:Value),s3=v3∧s4=.int .i64 (i:Int)∧s5=v5∧i≤nm∧Aside (ApC wb.heap.size 9 1 wr v3 i (flS ((x.make.take i).map (·.name)))∧(∀ d∈x.make.take i,(d.kind=4∧chk d=true)∧d.name ∉ x.use)∧Below wb.heap.size wb wr)) (fun _ s4 _ _=>nm - (intOf s4).toNat)
 case atStart=>exact ⟨0,_,_,rfl,rfl,rfl,Nat.zero_le _,.inl ⟨none,rfl,rfl,rfl⟩,by simp,Below.refl _ _⟩
 case round =>
  obtain ⟨i,v3,v5,hv3,rfl,rfl,hi,hap,hok,hb⟩:=hrel
  replace hv3:=hv3.symm
  subst hv3
  have HAP:=Lib.hid (show ApC wb.heap.size 9 1 wr v3 i (flS ((x.make.take i).map (·.name))) from hap)
  have HOK:=Lib.hid (show ∀ d∈x.make.take i,(d.kind=4∧chk d=true)∧d.name ∉ x.use from hok)
  have HB:=Lib.hid (show Below wb.heap.size wb wr from hb)
  clear hap hok hb c0 c1 c2 c3 c4 c5 c6 c7 c8 c9 c10 c11 clt
  obtain ⟨c0,c1,c2,c3,c4,c5,c6,c7,c8,c9,c10,c11,clt⟩:=HCE.out _ HB.out
  dsimp only at c0 c1 c2 c3 c4 c5 c6 c7 c8 c9 c10 c11
  by_cases hin:i < nm
  ·obtain ⟨bm,om,hpm,hbl,hcc⟩:=RdC.at_ (size:=5) (HSR.out _ HB.out).1 rfl (by omega)
   subst hpm
   obtain ⟨d,hd⟩:∃ d,x.make[i]?=some d:=⟨_,List.getElem?_eq_getElem (by rw [HNM.out];exact hin)⟩
   obtain ⟨y0,y1,y2,y3,y4⟩:=cellM hcc hd
   have HX:=Lib.hid hd
   have hdm:=HM.out.make.2 d (List.mem_of_getElem? hd)
   have hdw:=HWX.out.make d (List.mem_of_getElem? hd)
   have HCC:=Lib.hid (And.intro hcc hbl)
   have HDC:=Lib.hid (fun W=>dCheck_any d hdw hdm.1 hdm.2 W)
   unfold dV dcs at HDC
   clear hcc hd hdw hdm
   by_cases hk:d.kind=4
   rotate_left
   ·have q1:(((d.kind:Nat):Int) != 4)=true:=by simp;omega
    have HNO:=Lib.hid (show ¬ Ok x from fun h=>hk (h.make d (List.mem_of_getElem? HX.out)).1)
    clear hk
    go_wp2
    (go_ret;exact ⟨by rw [HBAD.out (HNO.out)];rfl,HFIN.out _ HB.out⟩)
   have q1:(((d.kind:Nat):Int) != 4)=false:=by simp;omega
   have HK:=Lib.hid hk
   clear hk
   by_cases hck:chk d=true
   rotate_left
   ·have HNO:=Lib.hid (show ¬ Ok x from fun h=>hck (h.make d (List.mem_of_getElem? HX.out)).2)
    rw [show cE d=140 from cE_no hck] at HDC
    clear hck
    go_wp2_with (go_at_call 77;((with_reducible refine (HDC.out _).mono ?_);rintro e w3 ⟨rfl,hb⟩);have A3:=Lib.hid (show Below wb.heap.size wb w3 from HB.out.trans (hb.mono HB.out.size));clear hb)
    (go_ret;exact ⟨by rw [HBAD.out (HNO.out)];rfl,HFIN.out _ A3.out⟩)
   rw [show cE d=0 from cE_yes hck] at HDC
   have HCK:=Lib.hid hck
   clear hck
   go_upto_region 8 with (go_at_call 77;((with_reducible refine (HDC.out _).mono ?_);rintro e w3 ⟨rfl,hb⟩);have A3:=Lib.hid (show Below wb.heap.size wb w3 from HB.out.trans (hb.mono HB.out.size));have A30:=Lib.hid (show Below wr.heap.size wr w3 from hb);clear hb)
   clear c0 c1 c2 c3 c4 c5 c6 c7 c8 c9 c10 c11 clt y0 y1 y2 y3 y4 HDC
   have HAP3:=Lib.hid (HAP.out.next A30.out)
   have HM3:=Lib.hid (fun (W:World) (hb:Below w3.heap.size w3 W)=>(Below.cell (p:=⟨bm,om+i * 5+1,none⟩) (A30.out.trans (hb.mono A30.out.size)) HCC.out.2).trans (cellM HCC.out.1 HX.out).2.1)
   go_wp2
   go_loopw [5] (fun s5 wx=>∃ k:Nat,s5=.int .i64 (k:Int)∧k≤nu∧Aside (d.name ∉ x.use.take k∧Below w3.heap.size w3 wx)) (fun s5 _=>nu - (intOf s5).toNat)
   case atStart=>exact ⟨0,rfl,Nat.zero_le _,by show d.name ∉ x.use.take 0;simp,Below.refl _ _⟩
   case round =>
    obtain ⟨k,rfl,hk,hnx,hb2⟩:=hrel
    have HXX:=Lib.hid (show d.name ∉ x.use.take k from hnx)
    have HB3:=Lib.hid (show Below w3.heap.size w3 wr from hb2)
    have HBW:=Lib.hid (A3.out.trans (HB3.out.mono A3.out.size))
    clear hnx hb2
    obtain ⟨c0,c1,c2,c3,c4,c5,c6,c7,c8,c9,c10,c11,clt⟩:=HCE.out _ HBW.out
    dsimp only at c0 c1 c2 c3 c4 c5 c6 c7 c8 c9 c10 c11
    have y1:=HM3.out _ HB3.out
    have ybl:bm < wr.heap.size:=Nat.lt_of_lt_of_le (Nat.lt_of_lt_of_le HCC.out.2 A30.out.size) HB3.out.size
    by_cases hkn:k < nu
    ·obtain ⟨bu,ou,hpu,hul,huc⟩:=RdC.at_ (size:=1) (HSR.out _ HBW.out).2.2 rfl (by omega)
     subst hpu
     obtain ⟨y,hy⟩:∃ y,x.use[k]?=some y:=⟨_,List.getElem?_eq_getElem (by rw [HNUL.out];exact hkn)⟩
     have z1:wr.cell? ⟨bu,ou+k,none⟩=some (.string (str y)):=by
      have:=huc.elt (f:=cS) (k:=1) (fun _=>rfl) (j:=0) hy (by decide) rfl
      rwa [Nat.mul_one,Nat.add_zero] at this
     have HY:=Lib.hid hy
     clear huc hy
     by_cases he:y=d.name
     ·have HNO:=Lib.hid (show ¬ Ok x from fun h=>h.apart d (List.mem_of_getElem? HX.out) (he ▸ List.mem_of_getElem? HY.out))
      obtain ⟨q2,q3⟩:=(⟨by rw [eq_str];exact decide_eq_true he,by rw [he]⟩:((str y).toList == (str d.name).toList)=true∧(str y).toList=(str d.name).toList)
      clear he
      go_wp2_with (go_quiet (fail))
      (go_ret;exact ⟨by rw [HBAD.out (HNO.out)];rfl,HFIN.out _ (HBW.out.trans ((Joins.below_draws _ _ _).mono HBW.out.size))⟩)
     ·have HNX:=Lib.hid (show d.name ∉ x.use.take (k+1) by rw [mem_take_succ HY.out];exact fun h=>h.elim HXX.out (fun e=>he e.symm))
      obtain ⟨q2,q3⟩:=(⟨by rw [eq_str];exact decide_eq_false he,fun h=>he (by rw [str_toList,str_toList] at h;exact h)⟩:((str y).toList == (str d.name).toList)=false∧¬ (str y).toList=(str d.name).toList)
      clear he
      go_wp2_with (go_quiet (fail))
      go_roundw
      case rel=>exact ⟨k+1,by go_num,by omega,HNX.out,HB3.out.trans (Joins.below_draws _ _ _)⟩
      case measure=>simp [intOf];omega
    ·obtain rfl:k=nu:=by omega
     have HNU2:=Lib.hid (show d.name ∉ x.use by
      have:=HXX.out
      rwa [List.take_of_length_le (by rw [HNUL.out];exact Nat.le_refl _)] at this)
     have HNX:=Lib.hid (show ∀ e∈x.make.take (i+1),(e.kind=4∧chk e=true)∧e.name ∉ x.use from fun e he=>by
      rcases (mem_take_succ HX.out).1 he with he | rfl
      ·exact HOK.out e he
      ·exact ⟨⟨HK.out,HCK.out⟩,HNU2.out⟩)
     have hy1:Below wr.heap.size wr (wr.alloc (.cells #[.string (str d.name)] 9)):=(Below.refl _ _).alloc (Nat.le_refl _) _
     have HAPY:=Lib.hid ((HAP3.out.next HB3.out).next hy1)
     have HYB:=Lib.hid (HBW.out.trans (hy1.mono HBW.out.size))
     have HFL:=Lib.hid (show flS ((x.make.take i).map (·.name))++flS [d.name]=flS ((x.make.take (i+1)).map (·.name)) by rw [←flS_app,take_snoc HX.out,List.map_append];rfl)
     have hi5:i+1≤100000:=by omega
     clear hy1
     go_wp2_with (at_builtin;refine wpl_ap eltS rfl _ _ rfl (base:=wb.heap.size) (v:=v3) (u:=.slice (some ⟨wr.heap.size,0,none⟩) 1 1) (n:=i) (m:=1) (cs:=flS ((x.make.take i).map (·.name))) (ds:=flS [d.name]) rfl HAPY.out rfl (rdc_one wr d.name) rfl (flS_one _) (by unfold maxLen;omega) (by omega) HYB.out.size ?_;intro p4 q4 w4 h1 h2 h3;rw [HFL.out] at h1;have H4:=Lib.hid h1;have B4:=Lib.hid (HYB.out.trans (h3.mono (Nat.le_refl _)));clear h1 h2 h3)
     go_roundw
     case rel=>exact ⟨i+1,_,_,rfl,by go_num,rfl,by omega,H4.out,HNX.out,B4.out⟩
     case measure=>simp [intOf];omega
  ·obtain rfl:i=nm:=by omega
   have HMK:=Lib.hid (show ∀ d∈x.make,(d.kind=4∧chk d=true)∧d.name ∉ x.use by
    have:=HOK.out
    rwa [List.take_of_length_le (by rw [HNM.out];exact Nat.le_refl _)] at this)
   have hml:(x.make.take i).length=i:=by rw [List.length_take,HNM.out];exact Nat.min_self _
   have hmt:x.make.take i=x.make:=List.take_of_length_le (by rw [HNM.out];exact Nat.le_refl _)
   have HNN:=Lib.hid (show ∀ W,Below wr.heap.size wr W→Calls Tryz.prog 78 #[v3] W (Told (.bool (decide (nameL (x.make.map (·.name))))) W) from fun W hb=>by
    have hr:=(ApC.rdc HAP.out).next hb
    rw [hmt] at hr
    refine names_any (x.make.map (·.name)) v3 W (by rw [List.length_map,HNM.out];exact hr) (by rw [List.length_map,HNM.out];unfold maxLen;omega) (fun s hs=>?_)
    obtain ⟨d,hd,rfl⟩:=List.mem_map.1 hs
    have:=(HM.out.make.2 d hd).1
    omega)
   clear hml hmt HOK HAP
   obtain ⟨w1,hw1⟩:∃ w1,w1=wr:=⟨_,rfl⟩
   subst hw1
   go_wp2
   go_loopw [6,7] (fun s6 s7 wx=>∃ (i:Nat) (v7:Value),s6=.int .i64 (i:Int)∧s7=v7∧i≤na∧Aside (((x.after.take i).map (·.1)).Nodup∧(∀ d∈x.after.take i,1≤d.1∧d.1≤1073741824)∧Below w1.heap.size w1 wx)) (fun s6 _ _=>na - (intOf s6).toNat)
   case atStart=>exact ⟨0,_,rfl,rfl,Nat.zero_le _,by show ((x.after.take 0).map (·.1)).Nodup;simp,by simp,Below.refl _ _⟩
   case round =>
    obtain ⟨j,v7,rfl,rfl,hj,hnd,hnm,hb⟩:=hrel
    have HX:=Lib.hid (And.intro (show ((x.after.take j).map (·.1)).Nodup from hnd) (show ∀ d∈x.after.take j,1≤d.1∧d.1≤1073741824 from hnm))
    have HBJ:=Lib.hid (show Below w1.heap.size w1 wr from hb)
    have HBW:=Lib.hid (HB.out.trans (HBJ.out.mono HB.out.size))
    clear hnd hnm hb c0 c1 c2 c3 c4 c5 c6 c7 c8 c9 c10 c11 clt
    obtain ⟨c0,c1,c2,c3,c4,c5,c6,c7,c8,c9,c10,c11,clt⟩:=HCE.out _ HBW.out
    dsimp only at c0 c1 c2 c3 c4 c5 c6 c7 c8 c9 c10 c11
    by_cases hjn:j < na
    ·obtain ⟨ba,oa,hpa,hal,hac⟩:=RdC.at_ (size:=2) (HSR.out _ HBW.out).2.1 rfl (by omega)
     subst hpa
     obtain ⟨d,hd⟩:∃ d,x.after[j]?=some d:=⟨_,List.getElem?_eq_getElem (by rw [HNA.out];exact hjn)⟩
     have HIX:=Lib.hid hd
     have HAC:=Lib.hid (And.intro hac hal)
     have HCC:=Lib.hid (fun (W:World) (hb:Below wr.heap.size wr W) (k:Nat) (e:Dep) (he:x.after[k]?=some e)=>(Below.cell (p:=⟨ba,oa+k * 2,none⟩) hb HAC.out.2).trans (HAC.out.1.elt (f:=cA) (k:=2) (fun _=>rfl) (j:=0) he (by decide) rfl))
     have y0:=HCC.out wr (Below.refl _ _) j d hd
     clear hac hd
     by_cases h1:d.1 < 1
     ·have HNO:=Lib.hid (show ¬ Ok x from fun h=>by have:=(h.after.2.2 d (List.mem_of_getElem? HIX.out)).1;omega)
      go_wp2
      (go_ret;exact ⟨by rw [HBAD.out (HNO.out)];rfl,HFIN.out _ HBW.out⟩)
     by_cases h2:1073741824 < d.1
     ·have HNO:=Lib.hid (show ¬ Ok x from fun h=>by have:=(h.after.2.2 d (List.mem_of_getElem? HIX.out)).2;omega)
      go_wp2
      (go_ret;exact ⟨by rw [HBAD.out (HNO.out)];rfl,HFIN.out _ HBW.out⟩)
     have HBD:=Lib.hid (show 1≤d.1∧d.1≤1073741824 by omega)
     go_upto_region 19 with fail
     go_wp2
     clear c0 c1 c2 c3 c4 c5 c6 c7 c8 c9 c10 c11 clt y0 h1 h2
     obtain ⟨w2,hw2⟩:∃ w2,w2=wr:=⟨_,rfl⟩
     subst hw2
     go_loopw [7] (fun s7 wx=>∃ k:Nat,s7=.int .i64 (k:Int)∧k≤j∧Aside (d.1 ∉ (x.after.take k).map (·.1)∧Below w2.heap.size w2 wx)) (fun s7 _=>j - (intOf s7).toNat)
     case atStart=>exact ⟨0,rfl,Nat.zero_le _,by show d.1 ∉ (x.after.take 0).map (·.1);simp,Below.refl _ _⟩
     case round =>
      obtain ⟨k,rfl,hk,hnx,hb2⟩:=hrel
      have HXX:=Lib.hid (show d.1 ∉ (x.after.take k).map (·.1) from hnx)
      have HB2:=Lib.hid (show Below w2.heap.size w2 wr from hb2)
      have HBX:=Lib.hid (HBW.out.trans (HB2.out.mono HBW.out.size))
      clear hnx hb2
      obtain ⟨c0,c1,c2,c3,c4,c5,c6,c7,c8,c9,c10,c11,clt⟩:=HCE.out _ HBX.out
      dsimp only at c0 c1 c2 c3 c4 c5 c6 c7 c8 c9 c10 c11
      have y0:=HCC.out wr HB2.out j d HIX.out
      have yl:ba < wr.heap.size:=Nat.lt_of_lt_of_le HAC.out.2 HB2.out.size
      by_cases hkj:k < j
      ·obtain ⟨y,hy⟩:∃ y,x.after[k]?=some y:=⟨_,List.getElem?_eq_getElem (by rw [HNA.out];omega)⟩
       have z0:=HCC.out wr HB2.out k y hy
       have hkn:k < na:=by omega
       have HY:=Lib.hid hy
       clear hy
       by_cases he:y.1=d.1
       ·have HNO:=Lib.hid (show ¬ Ok x from fun h=>not_nodup hkj (by rw [List.getElem?_map,HIX.out];rfl) (by rw [List.getElem?_map,HY.out];rfl) he.symm h.after.2.1)
        have q1:(y.1 == d.1)=true:=by rw [beq_iff_eq];exact he
        go_wp2_with (go_quiet (fail))
        (go_ret;exact ⟨by rw [HBAD.out (HNO.out)];rfl,HFIN.out _ (HBX.out.trans ((Joins.below_draws _ _ _).mono HBX.out.size))⟩)
       ·have HNX:=Lib.hid (show d.1 ∉ (x.after.take (k+1)).map (·.1) by
         rw [take_snoc HY.out,List.map_append,List.mem_append]
         exact fun h=>h.elim HXX.out (fun h=>he (by simp at h;exact h.symm)))
        have q1:(y.1 == d.1)=false:=by rw [beq_eq_false_iff_ne];exact he
        go_wp2_with (go_quiet (fail))
        go_roundw
        case rel=>exact ⟨k+1,by go_num,by omega,HNX.out,HB2.out.trans (Joins.below_draws _ _ _)⟩
        case measure=>simp [intOf];omega
      ·obtain rfl:k=j:=by omega
       have HND:=Lib.hid (show ((x.after.take (k+1)).map (·.1)).Nodup by
        rw [take_snoc HIX.out,List.map_append,List.nodup_append]
        exact ⟨HX.out.1,by simp,fun a ha b hb=>by simp at hb;subst hb;exact fun e=>HXX.out (e ▸ ha)⟩)
       have HNM2:=Lib.hid (show ∀ e∈x.after.take (k+1),1≤e.1∧e.1≤1073741824 from fun e he=>by
        rcases (mem_take_succ HIX.out).1 he with he | rfl
        ·exact HX.out.2 e he
        ·exact HBD.out)
       go_wp2
       go_roundw
       case rel=>exact ⟨k+1,_,by go_num,rfl,by omega,HND.out,HNM2.out,HBJ.out.trans (HB2.out.mono HBJ.out.size)⟩
       case measure=>simp [intOf];omega
    ·obtain rfl:j=na:=by omega
     have HAF:=Lib.hid (show (x.after.map (·.1)).Nodup∧∀ d∈x.after,1≤d.1∧d.1≤1073741824 by
      have:=HX.out
      rwa [List.take_of_length_le (by rw [HNA.out];exact Nat.le_refl _)] at this)
     clear HX
     have BAD:=Lib.hid (rfl:x=x)
     by_cases t1:8 < j
     ·have HNO:=Lib.hid (show ¬ Ok x from fun h=>by have:=h.after.1;rw [HNA.out] at this;omega)
      go_wp2
      (go_ret;exact ⟨by rw [HBAD.out (HNO.out)];rfl,HFIN.out _ HBW.out⟩)
     by_cases t2:nameL (x.make.map (·.name))
     rotate_left
     ·have HNO:=Lib.hid (show ¬ Ok x from fun h=>t2 h.makeN)
      rw [decide_eq_false t2] at HNN
      clear t2
      go_wp2_with (go_at_call 78;((with_reducible refine (HNN.out _ HBJ.out).mono ?_);rintro e w4 ⟨rfl,hb⟩);have A4:=Lib.hid (show Below wb.heap.size wb w4 from HBW.out.trans (hb.mono HBW.out.size));obtain ⟨c0,c1,c2,c3,c4,c5,c6,c7,c8,c9,c10,c11,clt⟩:=HCE.out _ A4.out;dsimp only at c0 c1 c2 c3 c4 c5 c6 c7 c8 c9 c10 c11;clear hb)
      (go_ret;exact ⟨by rw [HBAD.out (HNO.out)];rfl,HFIN.out _ A4.out⟩)
     by_cases t3:nameL x.drop
     rotate_left
     ·have HNO:=Lib.hid (show ¬ Ok x from fun h=>t3 h.drop)
      rw [decide_eq_true t2] at HNN
      rw [decide_eq_false t3] at HND
      clear t2 t3
      go_wp2_with (first
       | (go_at_call 78;((with_reducible refine (HNN.out _ HBJ.out).mono ?_);rintro e w4 ⟨rfl,hb⟩);have A4:=Lib.hid (show Below wb.heap.size wb w4 from HBW.out.trans (hb.mono HBW.out.size));obtain ⟨c0,c1,c2,c3,c4,c5,c6,c7,c8,c9,c10,c11,clt⟩:=HCE.out _ A4.out;dsimp only at c0 c1 c2 c3 c4 c5 c6 c7 c8 c9 c10 c11;clear hb)
       | (go_at_call 78;((with_reducible refine (HND.out _ A4.out).mono ?_);rintro e w5 ⟨rfl,hb⟩);have A5:=Lib.hid (show Below wb.heap.size wb w5 from A4.out.trans (hb.mono A4.out.size));obtain ⟨c0,c1,c2,c3,c4,c5,c6,c7,c8,c9,c10,c11,clt⟩:=HCE.out _ A5.out;dsimp only at c0 c1 c2 c3 c4 c5 c6 c7 c8 c9 c10 c11;clear hb))
      (go_ret;exact ⟨by rw [HBAD.out (HNO.out)];rfl,HFIN.out _ A5.out⟩)
     by_cases t4:nameL x.use
     rotate_left
     ·have HNO:=Lib.hid (show ¬ Ok x from fun h=>t4 h.use)
      rw [decide_eq_true t2] at HNN
      rw [decide_eq_true t3] at HND
      rw [decide_eq_false t4] at HNU
      clear t2 t3 t4
      go_wp2_with (first
       | (go_at_call 78;((with_reducible refine (HNN.out _ HBJ.out).mono ?_);rintro e w4 ⟨rfl,hb⟩);have A4:=Lib.hid (show Below wb.heap.size wb w4 from HBW.out.trans (hb.mono HBW.out.size));obtain ⟨c0,c1,c2,c3,c4,c5,c6,c7,c8,c9,c10,c11,clt⟩:=HCE.out _ A4.out;dsimp only at c0 c1 c2 c3 c4 c5 c6 c7 c8 c9 c10 c11;clear hb)
       | (go_at_call 78;((with_reducible refine (HND.out _ A4.out).mono ?_);rintro e w5 ⟨rfl,hb⟩);have A5:=Lib.hid (show Below wb.heap.size wb w5 from A4.out.trans (hb.mono A4.out.size));obtain ⟨c0,c1,c2,c3,c4,c5,c6,c7,c8,c9,c10,c11,clt⟩:=HCE.out _ A5.out;dsimp only at c0 c1 c2 c3 c4 c5 c6 c7 c8 c9 c10 c11;clear hb)
       | (go_at_call 78;((with_reducible refine (HNU.out _ A5.out).mono ?_);rintro e w6 ⟨rfl,hb⟩);have A6:=Lib.hid (show Below wb.heap.size wb w6 from A5.out.trans (hb.mono A5.out.size));obtain ⟨c0,c1,c2,c3,c4,c5,c6,c7,c8,c9,c10,c11,clt⟩:=HCE.out _ A6.out;dsimp only at c0 c1 c2 c3 c4 c5 c6 c7 c8 c9 c10 c11;clear hb))
      (go_ret;exact ⟨by rw [HBAD.out (HNO.out)];rfl,HFIN.out _ A6.out⟩)
     by_cases t5:isName x.user=true
     rotate_left
     ·have HNO:=Lib.hid (show ¬ Ok x from fun h=>t5 h.user)
      rw [decide_eq_true t2] at HNN
      rw [decide_eq_true t3] at HND
      rw [decide_eq_true t4] at HNU
      rw [show isName x.user=false by simpa using t5] at HUS
      clear t2 t3 t4 t5
      go_wp2_with (first
       | (go_at_call 78;((with_reducible refine (HNN.out _ HBJ.out).mono ?_);rintro e w4 ⟨rfl,hb⟩);have A4:=Lib.hid (show Below wb.heap.size wb w4 from HBW.out.trans (hb.mono HBW.out.size));obtain ⟨c0,c1,c2,c3,c4,c5,c6,c7,c8,c9,c10,c11,clt⟩:=HCE.out _ A4.out;dsimp only at c0 c1 c2 c3 c4 c5 c6 c7 c8 c9 c10 c11;clear hb)
       | (go_at_call 78;((with_reducible refine (HND.out _ A4.out).mono ?_);rintro e w5 ⟨rfl,hb⟩);have A5:=Lib.hid (show Below wb.heap.size wb w5 from A4.out.trans (hb.mono A4.out.size));obtain ⟨c0,c1,c2,c3,c4,c5,c6,c7,c8,c9,c10,c11,clt⟩:=HCE.out _ A5.out;dsimp only at c0 c1 c2 c3 c4 c5 c6 c7 c8 c9 c10 c11;clear hb)
       | (go_at_call 78;((with_reducible refine (HNU.out _ A5.out).mono ?_);rintro e w6 ⟨rfl,hb⟩);have A6:=Lib.hid (show Below wb.heap.size wb w6 from A5.out.trans (hb.mono A5.out.size));obtain ⟨c0,c1,c2,c3,c4,c5,c6,c7,c8,c9,c10,c11,clt⟩:=HCE.out _ A6.out;dsimp only at c0 c1 c2 c3 c4 c5 c6 c7 c8 c9 c10 c11;clear hb)
       | (go_at_call 55;((with_reducible refine (HUS.out _).mono ?_);rintro e w9 ⟨rfl,rfl⟩)))
      (go_ret;exact ⟨by rw [HBAD.out (HNO.out)];rfl,HFIN.out _ A6.out⟩)
     have HNM5:=Lib.hid (And.intro t2 (And.intro t3 (And.intro t4 t5)))
     rw [decide_eq_true t2] at HNN
     rw [decide_eq_true t3] at HND
     rw [decide_eq_true t4] at HNU
     rw [t5] at HUS
     clear t2 t3 t4 t5
     go_upto_region 25 with (first
      | (go_at_call 78;((with_reducible refine (HNN.out _ HBJ.out).mono ?_);rintro e w4 ⟨rfl,hb⟩);have A4:=Lib.hid (show Below wb.heap.size wb w4 from HBW.out.trans (hb.mono HBW.out.size));obtain ⟨c0,c1,c2,c3,c4,c5,c6,c7,c8,c9,c10,c11,clt⟩:=HCE.out _ A4.out;dsimp only at c0 c1 c2 c3 c4 c5 c6 c7 c8 c9 c10 c11;clear hb)
      | (go_at_call 78;((with_reducible refine (HND.out _ A4.out).mono ?_);rintro e w5 ⟨rfl,hb⟩);have A5:=Lib.hid (show Below wb.heap.size wb w5 from A4.out.trans (hb.mono A4.out.size));obtain ⟨c0,c1,c2,c3,c4,c5,c6,c7,c8,c9,c10,c11,clt⟩:=HCE.out _ A5.out;dsimp only at c0 c1 c2 c3 c4 c5 c6 c7 c8 c9 c10 c11;clear hb)
      | (go_at_call 78;((with_reducible refine (HNU.out _ A5.out).mono ?_);rintro e w6 ⟨rfl,hb⟩);have A6:=Lib.hid (show Below wb.heap.size wb w6 from A5.out.trans (hb.mono A5.out.size));obtain ⟨c0,c1,c2,c3,c4,c5,c6,c7,c8,c9,c10,c11,clt⟩:=HCE.out _ A6.out;dsimp only at c0 c1 c2 c3 c4 c5 c6 c7 c8 c9 c10 c11;clear hb)
      | (go_at_call 55;((with_reducible refine (HUS.out _).mono ?_);rintro e w9 ⟨rfl,rfl⟩)))
     by_cases k0:x.nodes < 1
     ·have HNO:=Lib.hid (show ¬ Ok x from fun h=>by have:=h.nodes.1;omega)
      go_wp2
      (go_ret;exact ⟨by rw [HBAD.out (HNO.out)];rfl,HFIN.out _ A6.out⟩)
     by_cases k1:64 < x.nodes
     ·have HNO:=Lib.hid (show ¬ Ok x from fun h=>by have:=h.nodes.2;omega)
      go_wp2
      (go_ret;exact ⟨by rw [HBAD.out (HNO.out)];rfl,HFIN.out _ A6.out⟩)
     by_cases k2:x.wall < 1
     ·have HNO:=Lib.hid (show ¬ Ok x from fun h=>by have:=h.wall.1;omega)
      go_wp2
      (go_ret;exact ⟨by rw [HBAD.out (HNO.out)];rfl,HFIN.out _ A6.out⟩)
     by_cases k3:1048576 < x.wall
     ·have HNO:=Lib.hid (show ¬ Ok x from fun h=>by have:=h.wall.2;omega)
      go_wp2
      (go_ret;exact ⟨by rw [HBAD.out (HNO.out)];rfl,HFIN.out _ A6.out⟩)
     by_cases k4:x.qos < 0
     ·have HNO:=Lib.hid (show ¬ Ok x from fun h=>by have:=h.qos.1;omega)
      go_wp2
      (go_ret;exact ⟨by rw [HBAD.out (HNO.out)];rfl,HFIN.out _ A6.out⟩)
     by_cases k5:9 < x.qos
     ·have HNO:=Lib.hid (show ¬ Ok x from fun h=>by have:=h.qos.2;omega)
      go_wp2
      (go_ret;exact ⟨by rw [HBAD.out (HNO.out)];rfl,HFIN.out _ A6.out⟩)
     by_cases k6:x.inn < 0
     ·have HNO:=Lib.hid (show ¬ Ok x from fun h=>by have:=h.inn.1;omega)
      go_wp2
      (go_ret;exact ⟨by rw [HBAD.out (HNO.out)];rfl,HFIN.out _ A6.out⟩)
     by_cases k7:x.cap < x.inn
     ·have HNO:=Lib.hid (show ¬ Ok x from fun h=>by have:=h.inn.2;omega)
      go_wp2
      (go_ret;exact ⟨by rw [HBAD.out (HNO.out)];rfl,HFIN.out _ A6.out⟩)
     by_cases k8:x.out < 0
     ·have HNO:=Lib.hid (show ¬ Ok x from fun h=>by have:=h.out.1;omega)
      go_wp2
      (go_ret;exact ⟨by rw [HBAD.out (HNO.out)];rfl,HFIN.out _ A6.out⟩)
     by_cases k9:x.cap < x.out
     ·have HNO:=Lib.hid (show ¬ Ok x from fun h=>by have:=h.out.2;omega)
      go_wp2
      (go_ret;exact ⟨by rw [HBAD.out (HNO.out)];rfl,HFIN.out _ A6.out⟩)
     have HNUM:=Lib.hid (show (1≤x.nodes∧x.nodes≤64)∧(1≤x.wall∧x.wall≤1048576)∧(0≤x.qos∧x.qos≤9)∧(0≤x.inn∧x.inn≤x.cap)∧(0≤x.out∧x.out≤x.cap) by omega)
     go_upto_region 27 with fail
     clear k0 k1 k2 k3 k4 k5 k6 k7 k8 k9
     have CPO:=Lib.hid (rfl:x=x)
     by_cases z0:x.cap=0
     ·have e0:(x.cap == 0)=true:=by rw [z0];rfl
      by_cases zp:x.pool=[]
      ·obtain ⟨q2,q3⟩:=lit_yes zp
       have HG:=Lib.hid (HGOOD.out ⟨HNM5.out.2.2.2,HNUM.out.1,HNUM.out.2.1,HNUM.out.2.2.1,⟨by rw [HNA.out];omega,HAF.out⟩,by rw [z0];decide,fun _=>zp,fun h=>absurd z0 h,HNUM.out.2.2.2.1,HNUM.out.2.2.2.2,fun d hd=>(HMK.out d hd).1,HNM5.out.1,HNM5.out.2.1,HNM5.out.2.2.1,fun d hd=>(HMK.out d hd).2⟩)
       have f1:¬ x.cap < 0:=by omega
       have f2:¬ 1099511627776 < x.cap:=by omega
       have f3:(x.cap != 0)=false:=by rw [z0];rfl
       clear zp z0
       go_wp2
       go_ret
       exact ⟨by rw [HG.out];rfl,HFIN.out _ A6.out⟩
      ·obtain ⟨q2,q3⟩:=lit_no zp
       have HNO:=Lib.hid (show ¬ Ok x from fun h=>zp (h.pool0 z0))
       clear zp z0
       go_wp2
       (go_ret;exact ⟨by rw [HBAD.out (HNO.out)];rfl,HFIN.out _ A6.out⟩)
     ·have e0:(x.cap == 0)=false:=by rw [beq_eq_false_iff_ne];exact z0
      have e1:(x.cap != 0)=true:=by simp [z0]
      have ARM:=Lib.hid (rfl:x=x)
      by_cases zp:isName x.pool=true
      ·rw [zp] at HPO
       by_cases f1:x.cap < 0
       ·have HNO:=Lib.hid (show ¬ Ok x from fun h=>by have:=h.cap.1;omega)
        go_wp2_with (go_at_call 55;((with_reducible refine (HPO.out _).mono ?_);rintro e w9 ⟨rfl,rfl⟩))
        (go_ret;exact ⟨by rw [HBAD.out (HNO.out)];rfl,HFIN.out _ A6.out⟩)
       by_cases f2:1099511627776 < x.cap
       ·have HNO:=Lib.hid (show ¬ Ok x from fun h=>by have:=h.cap.2;omega)
        go_wp2_with (go_at_call 55;((with_reducible refine (HPO.out _).mono ?_);rintro e w9 ⟨rfl,rfl⟩))
        (go_ret;exact ⟨by rw [HBAD.out (HNO.out)];rfl,HFIN.out _ A6.out⟩)
       have HG:=Lib.hid (HGOOD.out ⟨HNM5.out.2.2.2,HNUM.out.1,HNUM.out.2.1,HNUM.out.2.2.1,⟨by rw [HNA.out];omega,HAF.out⟩,by omega,fun h=>absurd h z0,fun _=>zp,HNUM.out.2.2.2.1,HNUM.out.2.2.2.2,fun d hd=>(HMK.out d hd).1,HNM5.out.1,HNM5.out.2.1,HNM5.out.2.2.1,fun d hd=>(HMK.out d hd).2⟩)
       clear zp z0
       go_wp2_with (go_at_call 55;((with_reducible refine (HPO.out _).mono ?_);rintro e w9 ⟨rfl,rfl⟩))
       go_ret
       exact ⟨by rw [HG.out];rfl,HFIN.out _ A6.out⟩
      ·have HNO:=Lib.hid (show ¬ Ok x from fun h=>zp (h.pool1 z0))
       rw [show isName x.pool=false by simpa using zp] at HPO
       clear zp z0
       go_wp2_with (go_at_call 55;((with_reducible refine (HPO.out _).mono ?_);rintro e w9 ⟨rfl,rfl⟩))
       (go_ret;exact ⟨by rw [HBAD.out (HNO.out)];rfl,HFIN.out _ A6.out⟩)
end Go.Proofs.YtekcjfdllclphaaGreatDoor.gn
end
