/- The document's Text of a slip. (Written by gen_slDt.py.) -/
import Derived.Test.YtekcjfdllclphaaGreatDoorMQaSlDc
import Derived.Test.YtekcjfdllclphaaGreatDoorMQaSlFi
import Derived.Test.YtekcjfdllclphaaGreatDoorMQaOrP
import Derived.Test.YtekcjfdllclphaaGreatDoorMQaOrF
import Derived.Test.YtekcjfdllclphaaGreatDoorMQaDiT
section
set_option linter.unusedVariables false
set_option linter.unusedSimpArgs false
namespace Go.Proofs.YtekcjfdllclphaaGreatDoor.gn
open Go.RowKit
open Go.Proofs.YtekcjfdllclphaaGreatDoor.un
open Go.Proofs.YtekcjfdllclphaaGreatDoor.di
open Go.Proofs.YtekcjfdllclphaaGreatDoor.sp (Slip Ok chkS chkS_iff hdT qosT depsT befT depT line1 line1_hd line1_len depsT_snoc jobB nodesB wallB qosB afterB dirsS dirs_mem dirs_count txtS joinC dropD useD)
theorem qos_str2 (s:Tx) (n:Int):str s++({ data:=#[32,113,111,115,61] }:ByteArray)++str (txt n)=str (s++(qosB++txt n)):=by
 show str s++str qosB++str (txt n)=_
 rw [str_app,str_app,List.append_assoc]
theorem dep_str2 (s bf:Tx) (n:Int) (b:Bool):str s++str bf++str ((if b=true then sp.anyW else sp.okW)++[58])++str (txt n)=str (s++(bf++depT (n,b))):=by
 rw [str_app,str_app,str_app]
 unfold depT
 simp
theorem lf_str3 (t y:Tx):str t++({ data:=#[10] }:ByteArray)++str y=str (t++10::y):=by
 show str t++str [10]++str y=_
 rw [str_app,str_app,List.append_assoc]
 rfl
theorem made_row (w:World) (B:Nat) (hB:B≤w.heap.size) (t:TypeId) (k:Nat):(w.alloc (.cells #[] t)).ownsRow B t k (.slice (some ⟨w.heap.size,0,none⟩) 0 0) 0 [] :=
 ⟨by simp,.inr ⟨w.heap.size,0,#[],rfl,hB,heap_alloc_new w _,Nat.le_refl _,Nat.zero_le _,by simp,by simp⟩⟩
set_option maxRecDepth 100000 in
set_option maxHeartbeats 8000000 in
theorem dtexts_no (x:Slip) (g:Gh) (w:World) (h:SR w x g) (hW:SW x) (hM:Mid x) (hx:¬ chkS x=true):Calls Tryz.prog 32 #[sV x g] w (STextT x w):=by
 have HE:=Lib.hid (show sE x=150∧tS x=[] by unfold sE tS;rw [if_neg hx,if_neg hx];exact ⟨rfl,rfl⟩)
 obtain ⟨wb,hwb⟩:∃ wb,w.alloc (.cells (scs x g) 27)=wb:=⟨_,rfl⟩
 have hbx:BoxA wb w.heap.size 27 (scs x g):=by rw [←hwb];exact BoxA.new _ _ _
 have hB1:Below w.heap.size w wb:=by rw [←hwb];exact (Below.refl _ _).alloc (Nat.le_refl _) _
 have HB1:=Lib.hid hB1
 have HWB:=Lib.hid hwb
 have HCH:=Lib.hid (dCheck_slip x g wb (h.next hB1) hW hM)
 rw [HE.out.1] at HCH
 obtain ⟨c0,c1,c2,c3,c4,c5,c6,c7,c8,c9,c10,c11,clt⟩:=cel_box hbx
 clear h hW hM hx hB1 hwb hbx
 obtain ⟨va,vm,vd,vu⟩:=g
 unfold sV scs at *
 dsimp only at *
 go_enter Tryz.func32,Tryz.ntmps32
 go_upto_region 1 with fail
 rw [HWB.out]
 go_wp2_with (go_at_call 43;((with_reducible refine HCH.out.mono ?_);rintro e w1 ⟨rfl,hb⟩);have A1:=Lib.hid hb;clear hb)
 go_ret2
 exact ⟨by rw [HE.out.1,HE.out.2];rfl,HB1.out.trans (A1.out.mono HB1.out.size)⟩
set_option maxRecDepth 100000 in
set_option maxHeartbeats 32000000 in
theorem dtexts_yes (x:Slip) (g:Gh) (w:World) (h:SR w x g) (hM:Mid x) (hc:chkS x=true):Calls Tryz.prog 32 #[sV x g] w (STextT x w):=by
 have HE:=Lib.hid (show sE x=0∧tS x=txtS x by unfold sE tS;rw [if_pos hc,if_pos hc];exact ⟨rfl,rfl⟩)
 have hx:=(chkS_iff x).1 hc
 have HOK:=Lib.hid hx
 have hW:=sW_W hx
 obtain ⟨wb,hwb⟩:∃ wb,w.alloc (.cells (scs x g) 27)=wb:=⟨_,rfl⟩
 have hbx:BoxA wb w.heap.size 27 (scs x g):=by rw [←hwb];exact BoxA.new _ _ _
 have hB1:Below w.heap.size w wb:=by rw [←hwb];exact (Below.refl _ _).alloc (Nat.le_refl _) _
 have hzb:wb.heap.size=w.heap.size+1:=by rw [←hwb];simp
 have HB1:=Lib.hid hB1
 have HWB:=Lib.hid hwb
 have hlow:=fun (W:World) (hb:Below (w.heap.size+1) wb W)=>low_next hB1 hb
 have HFIN:=Lib.hid hlow
 have HCE:=Lib.hid (fun (W:World) (hb:Below (w.heap.size+1) wb W)=>cel_box (show BoxA W w.heap.size 27 (scs x g) from (hb.block _ (Nat.lt_succ_self _)).trans hbx))
 have HSR:=Lib.hid (fun (W:World) (hb:Below (w.heap.size+1) wb W)=>h.next (hlow W hb))
 have HCH:=Lib.hid (dCheck_slip x g wb (h.next hB1) hW hM)
 rw [HE.out.1] at HCH
 have HN1:=Lib.hid (fun (w2 W:World) (hb:Below (w.heap.size+1) wb w2) (hb2:Below w2.heap.size w2 W)=>hb.trans (hb2.mono (Nat.le_trans (Nat.le_of_eq hzb.symm) hb.size)))
 have HR0:=Lib.hid (Below.refl (w.heap.size+1) wb)
 have HF:=Lib.hid (line1_hd hx.qos.1)
 have hus:x.user.length≤32:=name_len hx.user
 have hq0:=hx.qos
 have HXT:=Lib.hid hx.after
 have z1:(str x.user).size≤32:=by rw [str_size];exact hus
 have z2:(str (txt x.nodes)).size≤13:=by rw [str_size];exact txt_len _
 have z3:(str (txt x.wall)).size≤13:=by rw [str_size];exact txt_len _
 have z4:(str (txt x.qos)).size≤13:=by rw [str_size];exact txt_len _
 have HZB:=Lib.hid hzb
 obtain ⟨pa,ca,ea,_,_⟩:=h.ca
 obtain ⟨pm,cm,em,_,_⟩:=h.cm
 obtain ⟨pd,cd,ed,_,_⟩:=h.cd
 obtain ⟨pu,cu,eu,_,_⟩:=h.cu
 have HSRr:=Lib.hid (fun (W:World) (hb:Below (w.heap.size+1) wb W)=>(show RdC W (.slice pa x.after.length ca) x.after.length (flA x.after)∧RdC W (.slice pm x.make.length cm) x.make.length (flM x.make)∧RdC W (.slice pd x.drop.length cd) x.drop.length (flS x.drop)∧RdC W (.slice pu x.use.length cu) x.use.length (flS x.use) from by
  have:=HSR.out W hb
  exact ⟨by rw [←ea];exact this.a,by rw [←em];exact this.m,by rw [←ed];exact this.d,by rw [←eu];exact this.u⟩))
 obtain ⟨c0,c1,c2,c3,c4,c5,c6,c7,c8,c9,c10,c11,clt⟩:=cel_box hbx
 clear h hW hM hc hx hB1 hwb hbx hlow hus HSR hzb
 obtain ⟨va,vm,vd,vu⟩:=g
 dsimp only at ea em ed eu
 subst ea em ed eu
 unfold sV scs at *
 dsimp only at *
 generalize hna:x.after.length=na at *
 generalize hnm:x.make.length=nm at *
 generalize hnd:x.drop.length=nd at *
 generalize hnu:x.use.length=nu at *
 have HNA:=Lib.hid hna
 have HNM:=Lib.hid hnm
 have HND:=Lib.hid hnd
 have HNU:=Lib.hid hnu
 clear hna hnm hnd hnu
 go_enter Tryz.func32,Tryz.ntmps32
 go_upto_region 1 with fail
 rw [HWB.out]
 go_upto_region 3 with (go_at_call 43;((with_reducible refine HCH.out.mono ?_);rintro e w1 ⟨rfl,hb⟩);have A1:=Lib.hid (HN1.out wb w1 HR0.out hb);clear hb)
 clear c0 c1 c2 c3 c4 c5 c6 c7 c8 c9 c10 c11 clt
 obtain ⟨c0,c1,c2,c3,c4,c5,c6,c7,c8,c9,c10,c11,clt⟩:=HCE.out _ A1.out
 dsimp only at c0 c1 c2 c3 c4 c5 c6 c7 c8 c9 c10 c11
 have s0:({ data:=#[106,111,98,32,117,115,101,114,61] }:ByteArray).size≤9:=by decide
 have s1:=app_sz s0 z1
 have s2:=app_sz (n:=7) s1 (show ({ data:=#[32,110,111,100,101,115,61] }:ByteArray).size≤7 by decide)
 have s3:=app_sz s2 z2
 have s4:=app_sz (n:=6) s3 (show ({ data:=#[32,119,97,108,108,61] }:ByteArray).size≤6 by decide)
 have s5:=app_sz s4 z3
 have a1:=fun W=>add_sz (a:=({ data:=#[106,111,98,32,117,115,101,114,61] }:ByteArray)) (b:=str x.user) (by omega) (by omega) W
 have a2:=fun W=>add_sz (a:=({ data:=#[106,111,98,32,117,115,101,114,61] }:ByteArray)++str x.user) (b:=({ data:=#[32,110,111,100,101,115,61] }:ByteArray)) (by omega) (by decide) W
 have a3:=fun W=>add_sz (a:=({ data:=#[106,111,98,32,117,115,101,114,61] }:ByteArray)++str x.user++({ data:=#[32,110,111,100,101,115,61] }:ByteArray)) (b:=str (txt x.nodes)) (by omega) (by omega) W
 have a4:=fun W=>add_sz (a:=({ data:=#[106,111,98,32,117,115,101,114,61] }:ByteArray)++str x.user++({ data:=#[32,110,111,100,101,115,61] }:ByteArray)++str (txt x.nodes)) (b:=({ data:=#[32,119,97,108,108,61] }:ByteArray)) (by omega) (by decide) W
 have a5:=fun W=>add_sz (a:=({ data:=#[106,111,98,32,117,115,101,114,61] }:ByteArray)++str x.user++({ data:=#[32,110,111,100,101,115,61] }:ByteArray)++str (txt x.nodes)++({ data:=#[32,119,97,108,108,61] }:ByteArray)) (b:=str (txt x.wall)) (by omega) (by omega) W
 have HSS:=Lib.hid s5
 have HK:=Lib.hid (fun (W:World) (hb:Below w1.heap.size w1 W)=>(⟨(Below.cell hb clt).trans c0,(Below.cell hb clt).trans c1,(Below.cell hb clt).trans c2⟩:W.cell? ⟨w.heap.size,0,none⟩=some (.string (str x.user))∧W.cell? ⟨w.heap.size,1,none⟩=some (.int .i64 x.nodes)∧W.cell? ⟨w.heap.size,2,none⟩=some (.int .i64 x.wall)))
 clear s0 s1 s2 s3 s4 s5
 have HY0:=Lib.hid (drew_low w1)
 go_region_held3 (fun W=>W.cell? ⟨w.heap.size,0,none⟩=some (.string (str x.user))∧W.cell? ⟨w.heap.size,1,none⟩=some (.int .i64 x.nodes)∧W.cell? ⟨w.heap.size,2,none⟩=some (.int .i64 x.wall)) (first | exact HK.out _ HY2.out | exact HK.out _ HY1.out | exact HK.out _ HY0.out | exact HK.out _ (Below.refl _ _)) (first
  | (go_at_call 33;((with_reducible refine (dtext_any x.nodes _).mono ?_);rintro e w2 ⟨rfl,hb1⟩);have HY1:=Lib.hid (HY0.out.trans (hb1.mono HY0.out.size));clear hb1)
  | (go_at_call 33;((with_reducible refine (dtext_any x.wall _).mono ?_);rintro e w3 ⟨rfl,hb2⟩);have HY2:=Lib.hid (HY1.out.trans (hb2.mono HY1.out.size));clear hb2))
 rw [hd_str]
 have hhl:(hdT x.user (txt x.nodes) (txt x.wall)).length≤90:=by
  have:=txt_len x.nodes
  have:=txt_len x.wall
  have:x.user.length≤32:=by rw [←str_size];exact z1
  simp [hdT,jobB,nodesB,wallB]
  omega
 obtain ⟨H,hH⟩:∃ H,hdT x.user (txt x.nodes) (txt x.wall)=H:=⟨_,rfl⟩
 rw [hH] at hhl HF ⊢
 have A3:=Lib.hid (HN1.out w1 w3 A1.out HY2.out)
 clear c0 c1 c2 c3 c4 c5 c6 c7 c8 c9 c10 c11 clt
 obtain ⟨c0,c1,c2,c3,c4,c5,c6,c7,c8,c9,c10,c11,clt⟩:=HCE.out _ A3.out
 dsimp only at c0 c1 c2 c3 c4 c5 c6 c7 c8 c9 c10 c11
 have zh:(str H).size≤90:=by rw [str_size];exact hhl
 have hna8:na≤8:=by have:=HXT.out.1;have:=HNA.out;omega
 clear a1 a2 a3 a4 a5 hH
 go_upto_if 30 with fail
 go_cut [4] (fun s4 wx=>∃ t:Tx,s4=.string (str t)∧t.length≤120∧Aside (t=H++qosT x.qos∧Below (w.heap.size+1) wb wx))
 case first =>
  by_cases hq:0 < x.qos
  ·have hqd:decide (0 < x.qos)=true:=decide_eq_true hq
   have HQT:=Lib.hid (show qosT x.qos=qosB++txt x.qos by unfold qosT;rw [if_neg (by omega)])
   have HTL:=Lib.hid (txt_len x.qos)
   have HHL:=Lib.hid hhl
   go_wp2_with (go_at_call 33;((with_reducible refine (dtext_any x.qos _).mono ?_);rintro e w4 ⟨rfl,hb1⟩);have A4:=Lib.hid (HN1.out w3 w4 A3.out hb1);clear hb1)
   go_meet
   case rel=>exact ⟨H++(qosB++txt x.qos),by rw [←qos_str2],by have:=HTL.out;have:=HHL.out;simp [qosB];omega,by show _=H++qosT x.qos;rw [HQT.out],A4.out⟩
  ·have hqd:decide (0 < x.qos)=false:=decide_eq_false hq
   have HQT:=Lib.hid (show qosT x.qos=[] by unfold qosT;rw [if_pos (by omega)])
   have HHL:=Lib.hid hhl
   go_wp2
   go_meet
   case rel=>exact ⟨H,rfl,by have:=HHL.out;omega,by show _=H++qosT x.qos;rw [HQT.out,List.append_nil],A3.out⟩
 case rest =>
 obtain ⟨HQ,rfl,hql,hqe,hcut⟩:=hcut
 have A5:=Lib.hid (show Below (w.heap.size+1) wb wc from hcut)
 have HQE:=Lib.hid (show HQ=H++qosT x.qos from hqe)
 have HQL:=Lib.hid hql
 rw [←HQE.out] at HF
 clear hcut hqe hhl zh hql z1 z2 z3 z4
 clear c0 c1 c2 c3 c4 c5 c6 c7 c8 c9 c10 c11 clt
 go_wp2
 go_loopw [4,5] (fun s4 s5 wr=>∃ (k:Nat) (t:Tx),s5=.int .i64 (k:Int)∧s4=.string (str t)∧k≤na∧t.length≤120+30 * k∧Aside (t=HQ++depsT (x.after.take k)∧Below (w.heap.size+1) wb wr)) (fun _ s5 _=>na - (intOf s5).toNat)
 case atStart=>exact ⟨0,HQ,rfl,rfl,Nat.zero_le _,by have:=HQL.out;omega,by show HQ=HQ++depsT [];simp [depsT],A5.out⟩
 case round =>
  obtain ⟨k,t,rfl,rfl,hk,htl,ht,hb⟩:=hrel
  have HT:=Lib.hid (show t=HQ++depsT (x.after.take k) from ht)
  have HB:=Lib.hid (show Below (w.heap.size+1) wb wr from hb)
  have HTL:=Lib.hid htl
  clear ht hb
  have e1:(str t).size≤400:=by rw [str_size];omega
  obtain ⟨c0,c1,c2,c3,c4,c5,c6,c7,c8,c9,c10,c11,clt⟩:=HCE.out _ HB.out
  dsimp only at c0 c1 c2 c3 c4 c5 c6 c7 c8 c9 c10 c11
  by_cases hkn:k < na
  ·obtain ⟨b,off,hpa,hbz,hcc⟩:=RdC.at_ (size:=2) (HSRr.out _ HB.out).1 rfl (by omega)
   subst hpa
   obtain ⟨d,hd⟩:∃ d,x.after[k]?=some d:=⟨_,List.getElem?_eq_getElem (by rw [HNA.out];exact hkn)⟩
   have x0:wr.cell? ⟨b,off+k * 2,none⟩=some (.int .i64 d.1):=hcc.elt (f:=cA) (k:=2) (fun _=>rfl) (j:=0) hd (by decide) rfl
   have x1:wr.cell? ⟨b,off+k * 2+1,none⟩=some (.bool d.2):=hcc.elt (f:=cA) (k:=2) (fun _=>rfl) (j:=1) hd (by decide) rfl
   have HD:=Lib.hid hd
   have hlen2:(x.after.take k).length=k:=by rw [List.length_take,HNA.out];omega
   have HLEN:=Lib.hid hlen2
   have z4:(str (txt d.1)).size≤13:=by rw [str_size];exact txt_len _
   have HTD:=Lib.hid (fun (W:World)=>dtext_any d.1 W)
   clear hcc hd hlen2
   obtain ⟨n,bb⟩:=d
   dsimp only at x0 x1 z4 HTD
   have HTN:=Lib.hid (txt_len n)
   by_cases hk0:k=0
   ·have hkb:((k:Int) == 0)=true:=by rw [hk0];rfl
    have HBF:=Lib.hid (show befT k=afterB by unfold befT;rw [if_pos hk0])
    clear hk0
    cases bb with
    | true =>
     go_wp2_with (go_at_call 33;((with_reducible refine (HTD.out _).mono ?_);rintro e w5 ⟨rfl,hb5⟩);have HB5:=Lib.hid (HN1.out wr w5 HB.out hb5);clear hb5)
     go_roundw
     case rel =>
      refine ⟨k+1,t++(afterB++depT (n,true)),by go_num,?_,by omega,?_,?_,HB5.out⟩
      ·rw [←dep_str2];rfl
      ·have:=HTN.out
       have:=HTL.out
       simp [depT,sp.anyW,sp.okW,afterB]
       omega
      ·show t++(afterB++depT (n,true))=HQ++depsT (x.after.take (k+1))
       rw [take_snoc HD.out,depsT_snoc,HLEN.out,HBF.out,HT.out,List.append_assoc]
     case measure=>simp [intOf];omega
    | false =>
     go_wp2_with (go_at_call 33;((with_reducible refine (HTD.out _).mono ?_);rintro e w5 ⟨rfl,hb5⟩);have HB5:=Lib.hid (HN1.out wr w5 HB.out hb5);clear hb5)
     go_roundw
     case rel =>
      refine ⟨k+1,t++(afterB++depT (n,false)),by go_num,?_,by omega,?_,?_,HB5.out⟩
      ·rw [←dep_str2];rfl
      ·have:=HTN.out
       have:=HTL.out
       simp [depT,sp.anyW,sp.okW,afterB]
       omega
      ·show t++(afterB++depT (n,false))=HQ++depsT (x.after.take (k+1))
       rw [take_snoc HD.out,depsT_snoc,HLEN.out,HBF.out,HT.out,List.append_assoc]
     case measure=>simp [intOf];omega
   ·have hkb:((k:Int) == 0)=false:=by rw [beq_eq_false_iff_ne];omega
    have HBF:=Lib.hid (show befT k=[44] by unfold befT;rw [if_neg hk0])
    clear hk0
    cases bb with
    | true =>
     go_wp2_with (go_at_call 33;((with_reducible refine (HTD.out _).mono ?_);rintro e w5 ⟨rfl,hb5⟩);have HB5:=Lib.hid (HN1.out wr w5 HB.out hb5);clear hb5)
     go_roundw
     case rel =>
      refine ⟨k+1,t++([44]++depT (n,true)),by go_num,?_,by omega,?_,?_,HB5.out⟩
      ·rw [←dep_str2];rfl
      ·have:=HTN.out
       have:=HTL.out
       simp [depT,sp.anyW,sp.okW,afterB]
       omega
      ·show t++([44]++depT (n,true))=HQ++depsT (x.after.take (k+1))
       rw [take_snoc HD.out,depsT_snoc,HLEN.out,HBF.out,HT.out,List.append_assoc]
     case measure=>simp [intOf];omega
    | false =>
     go_wp2_with (go_at_call 33;((with_reducible refine (HTD.out _).mono ?_);rintro e w5 ⟨rfl,hb5⟩);have HB5:=Lib.hid (HN1.out wr w5 HB.out hb5);clear hb5)
     go_roundw
     case rel =>
      refine ⟨k+1,t++([44]++depT (n,false)),by go_num,?_,by omega,?_,?_,HB5.out⟩
      ·rw [←dep_str2];rfl
      ·have:=HTN.out
       have:=HTL.out
       simp [depT,sp.anyW,sp.okW,afterB]
       omega
      ·show t++([44]++depT (n,false))=HQ++depsT (x.after.take (k+1))
       rw [take_snoc HD.out,depsT_snoc,HLEN.out,HBF.out,HT.out,List.append_assoc]
     case measure=>simp [intOf];omega
  ·obtain rfl:k=na:=by omega
   have HTF:=Lib.hid (show t=line1 x by
    rw [HF.out,HT.out,List.take_of_length_le (by rw [HNA.out];exact Nat.le_refl _)])
   clear HT
   have HOKX:=HOK.out
   have hmk:=HOKX.makeN.1
   rw [List.length_map,HNM.out] at hmk
   have hdr:=HOKX.drop.1
   rw [HND.out] at hdr
   have hus:=HOKX.use.1
   rw [HNU.out] at hus
   have HSM:=Lib.hid (And.intro hmk (And.intro hdr hus))
   have F1:(if 0 < x.cap then [(⟨1,[],x.pool,x.cap,false⟩:Dir)] else []).length≤1:=by split <;> simp
   have F2:(if 0 < x.inn then [(⟨2,[],[],x.inn,false⟩:Dir)] else []).length≤1:=by split <;> simp
   have F3:(if 0 < x.out then [(⟨3,[],[],x.out,false⟩:Dir)] else []).length≤1:=by split <;> simp
   have HFEW1:=Lib.hid (show ([]:List Dir).length≤0 from Nat.le_refl _)
   have HFEW2:=Lib.hid (show ([]++(if 0 < x.cap then [(⟨1,[],x.pool,x.cap,false⟩:Dir)] else [])).length≤1 by simp only [List.length_append,List.length_nil];omega)
   have HFEW3:=Lib.hid (show ([]++(if 0 < x.cap then [(⟨1,[],x.pool,x.cap,false⟩:Dir)] else [])++(if 0 < x.inn then [(⟨2,[],[],x.inn,false⟩:Dir)] else [])).length≤2 by simp only [List.length_append,List.length_nil];omega)
   have HFEW4:=Lib.hid (show ([]++(if 0 < x.cap then [(⟨1,[],x.pool,x.cap,false⟩:Dir)] else [])++(if 0 < x.inn then [(⟨2,[],[],x.inn,false⟩:Dir)] else [])++(if 0 < x.out then [(⟨3,[],[],x.out,false⟩:Dir)] else [])).length≤3 by simp only [List.length_append,List.length_nil];omega)
   clear HOKX F1 F2 F3 hmk hdr hus
   obtain ⟨w9,hw9⟩:∃ w9,wr.alloc (.cells #[] 80)=w9:=⟨_,rfl⟩
   have hb9:Below wr.heap.size wr w9:=by rw [←hw9];exact (Below.refl _ _).alloc (Nat.le_refl _) _
   have hle:w.heap.size+1≤wr.heap.size:=Nat.le_trans (Nat.le_of_eq HZB.out.symm) HB.out.size
   have H0:=Lib.hid (show DSt w wb [] (.slice (some ⟨wr.heap.size,0,none⟩) 0 0) w9 from ⟨by rw [←hw9];exact made_row wr _ hle _ _,HN1.out wr w9 HB.out hb9,Nat.le_of_eq HZB.out.symm⟩)
   have HW9:=Lib.hid hw9
   have HLL:=Lib.hid (show t.length≤1206 by rw [HTF.out];exact line1_len HOK.out)
   clear hb9 hw9 hle
   go_upto_region 17 with fail
   rw [HW9.out]
   clear c0 c1 c2 c3 c4 c5 c6 c7 c8 c9 c10 c11 clt
   have K0:=H0.out.low
   obtain ⟨c0,c1,c2,c3,c4,c5,c6,c7,c8,c9,c10,c11,clt⟩:=HCE.out _ K0
   dsimp only at c0 c1 c2 c3 c4 c5 c6 c7 c8 c9 c10 c11
   clear K0
   go_upto_if 72 with fail
   go_cut [6] (fun s6 wx=>∃ v6,s6=v6∧Aside (DSt w wb ([]++(if 0 < x.cap then [(⟨1,[],x.pool,x.cap,false⟩:Dir)] else [])) v6 wx))
   case first =>
    by_cases h1:0 < x.cap
    ·have hd1:decide (0 < x.cap)=true:=decide_eq_true h1
     have HR:=Lib.hid (show (if 0 < x.cap then [(⟨1,[],x.pool,x.cap,false⟩:Dir)] else [])=[⟨1,[],x.pool,x.cap,false⟩] by rw [if_pos h1])
     rw [hd1]
     clear hd1 h1
     go_wp2_with (at_builtin;refine wpl_dir rfl _ _ rfl H0.out (by have:=HFEW1.out;omega) ⟨1,[],x.pool,x.cap,false⟩ rfl rfl ?_;intro gb cb w6 n6 hn6 h1;have H6:=Lib.hid h1;clear h1 hn6)
     go_meet
     case rel=>exact ⟨_,rfl,show DSt w wb _ _ _ by rw [HR.out];exact H6.out⟩
    ·have hd1:decide (0 < x.cap)=false:=decide_eq_false h1
     have HR:=Lib.hid (show (if 0 < x.cap then [(⟨1,[],x.pool,x.cap,false⟩:Dir)] else [])=[] by rw [if_neg h1])
     rw [hd1]
     clear hd1 h1
     go_wp2
     go_meet
     case rel=>exact ⟨_,rfl,show DSt w wb _ _ _ by rw [HR.out,List.append_nil];exact H0.out⟩
   case rest =>
   obtain ⟨v1,hv1,hcut⟩:=hcut
   replace hv1:=hv1.symm
   subst hv1
   have H1:=Lib.hid (show DSt w wb ([]++(if 0 < x.cap then [(⟨1,[],x.pool,x.cap,false⟩:Dir)] else [])) v1 wc from hcut)
   clear hcut
   clear c0 c1 c2 c3 c4 c5 c6 c7 c8 c9 c10 c11 clt
   obtain ⟨c0,c1,c2,c3,c4,c5,c6,c7,c8,c9,c10,c11,clt⟩:=HCE.out _ H1.out.low
   dsimp only at c0 c1 c2 c3 c4 c5 c6 c7 c8 c9 c10 c11
   go_upto_if 83 with fail
   go_cut [6] (fun s6 wx=>∃ v6,s6=v6∧Aside (DSt w wb ([]++(if 0 < x.cap then [(⟨1,[],x.pool,x.cap,false⟩:Dir)] else [])++(if 0 < x.inn then [(⟨2,[],[],x.inn,false⟩:Dir)] else [])) v6 wx))
   case first =>
    by_cases h1:0 < x.inn
    ·have hd1:decide (0 < x.inn)=true:=decide_eq_true h1
     have HR:=Lib.hid (show (if 0 < x.inn then [(⟨2,[],[],x.inn,false⟩:Dir)] else [])=[⟨2,[],[],x.inn,false⟩] by rw [if_pos h1])
     rw [hd1]
     clear hd1 h1
     go_wp2_with (at_builtin;refine wpl_dir rfl _ _ rfl H1.out (by have:=HFEW2.out;omega) ⟨2,[],[],x.inn,false⟩ rfl rfl ?_;intro gb cb w6 n6 hn6 h1;have H6:=Lib.hid h1;clear h1 hn6)
     go_meet
     case rel=>exact ⟨_,rfl,show DSt w wb _ _ _ by rw [HR.out];exact H6.out⟩
    ·have hd1:decide (0 < x.inn)=false:=decide_eq_false h1
     have HR:=Lib.hid (show (if 0 < x.inn then [(⟨2,[],[],x.inn,false⟩:Dir)] else [])=[] by rw [if_neg h1])
     rw [hd1]
     clear hd1 h1
     go_wp2
     go_meet
     case rel=>exact ⟨_,rfl,show DSt w wb _ _ _ by rw [HR.out,List.append_nil];exact H1.out⟩
   case rest =>
   obtain ⟨v2,hv2,hcut⟩:=hcut
   replace hv2:=hv2.symm
   subst hv2
   have H2:=Lib.hid (show DSt w wb ([]++(if 0 < x.cap then [(⟨1,[],x.pool,x.cap,false⟩:Dir)] else [])++(if 0 < x.inn then [(⟨2,[],[],x.inn,false⟩:Dir)] else [])) v2 wc from hcut)
   clear hcut
   clear c0 c1 c2 c3 c4 c5 c6 c7 c8 c9 c10 c11 clt
   obtain ⟨c0,c1,c2,c3,c4,c5,c6,c7,c8,c9,c10,c11,clt⟩:=HCE.out _ H2.out.low
   dsimp only at c0 c1 c2 c3 c4 c5 c6 c7 c8 c9 c10 c11
   go_upto_if 92 with fail
   go_cut [6] (fun s6 wx=>∃ v6,s6=v6∧Aside (DSt w wb ([]++(if 0 < x.cap then [(⟨1,[],x.pool,x.cap,false⟩:Dir)] else [])++(if 0 < x.inn then [(⟨2,[],[],x.inn,false⟩:Dir)] else [])++(if 0 < x.out then [(⟨3,[],[],x.out,false⟩:Dir)] else [])) v6 wx))
   case first =>
    by_cases h1:0 < x.out
    ·have hd1:decide (0 < x.out)=true:=decide_eq_true h1
     have HR:=Lib.hid (show (if 0 < x.out then [(⟨3,[],[],x.out,false⟩:Dir)] else [])=[⟨3,[],[],x.out,false⟩] by rw [if_pos h1])
     rw [hd1]
     clear hd1 h1
     go_wp2_with (at_builtin;refine wpl_dir rfl _ _ rfl H2.out (by have:=HFEW3.out;omega) ⟨3,[],[],x.out,false⟩ rfl rfl ?_;intro gb cb w6 n6 hn6 h1;have H6:=Lib.hid h1;clear h1 hn6)
     go_meet
     case rel=>exact ⟨_,rfl,show DSt w wb _ _ _ by rw [HR.out];exact H6.out⟩
    ·have hd1:decide (0 < x.out)=false:=decide_eq_false h1
     have HR:=Lib.hid (show (if 0 < x.out then [(⟨3,[],[],x.out,false⟩:Dir)] else [])=[] by rw [if_neg h1])
     rw [hd1]
     clear hd1 h1
     go_wp2
     go_meet
     case rel=>exact ⟨_,rfl,show DSt w wb _ _ _ by rw [HR.out,List.append_nil];exact H2.out⟩
   case rest =>
   obtain ⟨v3,hv3,hcut⟩:=hcut
   replace hv3:=hv3.symm
   subst hv3
   have H3:=Lib.hid (show DSt w wb ([]++(if 0 < x.cap then [(⟨1,[],x.pool,x.cap,false⟩:Dir)] else [])++(if 0 < x.inn then [(⟨2,[],[],x.inn,false⟩:Dir)] else [])++(if 0 < x.out then [(⟨3,[],[],x.out,false⟩:Dir)] else [])) v3 wc from hcut)
   clear hcut
   clear c0 c1 c2 c3 c4 c5 c6 c7 c8 c9 c10 c11 clt
   obtain ⟨c0,c1,c2,c3,c4,c5,c6,c7,c8,c9,c10,c11,clt⟩:=HCE.out _ H3.out.low
   dsimp only at c0 c1 c2 c3 c4 c5 c6 c7 c8 c9 c10 c11
   obtain ⟨L3,hL3⟩:∃ L3,[]++(if 0 < x.cap then [(⟨1,[],x.pool,x.cap,false⟩:Dir)] else [])++(if 0 < x.inn then [(⟨2,[],[],x.inn,false⟩:Dir)] else [])++(if 0 < x.out then [(⟨3,[],[],x.out,false⟩:Dir)] else [])=L3:=⟨_,rfl⟩
   rw [hL3] at H3 HFEW4
   have HL3:=Lib.hid hL3
   obtain ⟨n3,hn3⟩:∃ n,L3.length=n:=⟨_,rfl⟩
   have HN3:=Lib.hid hn3
   have HF3:=Lib.hid (show n3≤3∧L3.length≤3 from ⟨by rw [←hn3];exact HFEW4.out,HFEW4.out⟩)
   have HO8:=Lib.hid (show wc.ownsRow (w.heap.size+1) 80 5 v3 n3 (flM L3) by rw [←hn3];exact H3.out.own)
   clear hL3 hn3
   have HR8:=Lib.hid (show RdC wc (.slice pm nm cm) nm (flM x.make) from (HSRr.out _ H3.out.low).2.1)
   have HM8:=Lib.hid (show (flM x.make).length=nm * 5 by rw [flM_len,HNM.out])
   have HL8:=Lib.hid (show n3+nm≤1000000 by have:=HF3.out;have:=HSM.out;omega)
   have HZ8:=Lib.hid (Nat.le_trans H3.out.hz H3.out.low.size)
   go_upto_region 24 with (at_builtin;go_loud (refine wpl_ow eltM rfl _ _ rfl (base:=w.heap.size+1) (n:=n3) (cs:=flM (L3)) (v:=v3) rfl HO8.out rfl HR8.out HM8.out (flM_one x.make) HL8.out (by decide) HZ8.out ?_;intro p6 k6 w6 h1 h2;have H4:=Lib.hid (show DSt w wb (L3++x.make) (.slice p6 (n3+nm) k6) w6 from ⟨by rw [List.length_append,flM_app,HNM.out,HN3.out];exact h1,H3.out.low.trans h2,H3.out.hz⟩);clear h1 h2))
   clear c0 c1 c2 c3 c4 c5 c6 c7 c8 c9 c10 c11 clt
   obtain ⟨c0,c1,c2,c3,c4,c5,c6,c7,c8,c9,c10,c11,clt⟩:=HCE.out _ H4.out.low
   dsimp only at c0 c1 c2 c3 c4 c5 c6 c7 c8 c9 c10 c11
   have hnd4:nd≤4:=HSM.out.2.1
   have hnu4:nu≤4:=HSM.out.2.2
   go_wp2
   go_loopw [6,7] (fun s6 si W=>∃ (k:Nat) (v6:Value),s6=v6∧si=.int .i64 (k:Int)∧k≤nd∧Aside (DSt w wb (L3++x.make++(x.drop.take k).map dropD) v6 W)) (fun _ si _=>nd - (intOf si).toNat)
   case atStart=>exact ⟨0,_,rfl,rfl,Nat.zero_le _,show DSt w wb _ _ _ by rw [List.take_zero,List.map_nil,List.append_nil];exact H4.out⟩
   case round =>
    obtain ⟨k,v6,h6,rfl,hk,hst⟩:=hrel
    replace h6:=h6.symm
    subst h6
    have HS:=Lib.hid (show DSt w wb (L3++x.make++(x.drop.take k).map dropD) v6 wr from hst)
    clear hst
    clear c0 c1 c2 c3 c4 c5 c6 c7 c8 c9 c10 c11 clt
    obtain ⟨c0,c1,c2,c3,c4,c5,c6,c7,c8,c9,c10,c11,clt⟩:=HCE.out _ HS.out.low
    dsimp only at c0 c1 c2 c3 c4 c5 c6 c7 c8 c9 c10 c11
    by_cases hkn:k < nd
    ·obtain ⟨b,off,hp,hb,hc⟩:=RdC.at_ (size:=1) (HSRr.out _ HS.out.low).2.2.1 rfl (by omega)
     subst hp
     obtain ⟨y,hy⟩:∃ y,x.drop[k]?=some y:=⟨_,List.getElem?_eq_getElem (by rw [HND.out];exact hkn)⟩
     have y0:wr.cell? ⟨b,off+k,none⟩=some (.string (str y)):=by
      have:=hc.elt (f:=cS) (k:=1) (fun _=>rfl) (j:=0) hy (by decide) rfl
      rwa [Nat.mul_one,Nat.add_zero] at this
     have HT:=Lib.hid (take_snoc hy)
     have HLN:=Lib.hid (show (L3++x.make++(x.drop.take k).map dropD).length≤1000 by rw [List.length_append,List.length_append,List.length_map,List.length_take,HNM.out];have:=HF3.out;have:=HSM.out;omega)
     clear hc hy
     go_wp2_with (at_builtin;refine wpl_dir rfl _ _ rfl HS.out HLN.out (dropD y) rfl rfl ?_;intro gb cb w6 n6 hn6 h1;have H6:=Lib.hid h1;clear h1 hn6)
     go_roundw
     case rel=>exact ⟨k+1,_,rfl,by go_num,by omega,show DSt w wb _ _ _ by rw [HT.out,List.map_append,← List.append_assoc];exact H6.out⟩
     case measure=>simp [intOf];omega
    ·obtain rfl:k=nd:=by omega
     have H5:=Lib.hid (show DSt w wb (L3++x.make++x.drop.map dropD) v6 wr by have:=HS.out;rwa [List.take_of_length_le (by rw [HND.out];exact Nat.le_refl _)] at this)
     clear HS hk hkn
     go_wp2
     go_loopw [6,8] (fun s6 si W=>∃ (k:Nat) (v6:Value),s6=v6∧si=.int .i64 (k:Int)∧k≤nu∧Aside (DSt w wb (L3++x.make++x.drop.map dropD++(x.use.take k).map useD) v6 W)) (fun _ si _=>nu - (intOf si).toNat)
     case atStart=>exact ⟨0,_,rfl,rfl,Nat.zero_le _,show DSt w wb _ _ _ by rw [List.take_zero,List.map_nil,List.append_nil];exact H5.out⟩
     case round =>
      obtain ⟨k2,v6,h6,rfl,hk,hst⟩:=hrel
      replace h6:=h6.symm
      subst h6
      have HS:=Lib.hid (show DSt w wb (L3++x.make++x.drop.map dropD++(x.use.take k2).map useD) v6 wr from hst)
      clear hst
      clear c0 c1 c2 c3 c4 c5 c6 c7 c8 c9 c10 c11 clt
      obtain ⟨c0,c1,c2,c3,c4,c5,c6,c7,c8,c9,c10,c11,clt⟩:=HCE.out _ HS.out.low
      dsimp only at c0 c1 c2 c3 c4 c5 c6 c7 c8 c9 c10 c11
      by_cases hkn:k2 < nu
      ·obtain ⟨b,off,hp,hb,hc⟩:=RdC.at_ (size:=1) (HSRr.out _ HS.out.low).2.2.2 rfl (by omega)
       subst hp
       obtain ⟨y,hy⟩:∃ y,x.use[k2]?=some y:=⟨_,List.getElem?_eq_getElem (by rw [HNU.out];exact hkn)⟩
       have y0:wr.cell? ⟨b,off+k2,none⟩=some (.string (str y)):=by
        have:=hc.elt (f:=cS) (k:=1) (fun _=>rfl) (j:=0) hy (by decide) rfl
        rwa [Nat.mul_one,Nat.add_zero] at this
       have HT:=Lib.hid (take_snoc hy)
       have HLN:=Lib.hid (show (L3++x.make++x.drop.map dropD++(x.use.take k2).map useD).length≤1000 by rw [List.length_append,List.length_append,List.length_append,List.length_map,List.length_map,List.length_take,HNM.out,HND.out];have:=HF3.out;have:=HSM.out;omega)
       clear hc hy
       go_wp2_with (at_builtin;refine wpl_dir rfl _ _ rfl HS.out HLN.out (useD y) rfl rfl ?_;intro gb cb w6 n6 hn6 h1;have H6:=Lib.hid h1;clear h1 hn6)
       go_roundw
       case rel=>exact ⟨k2+1,_,rfl,by go_num,by omega,show DSt w wb _ _ _ by rw [HT.out,List.map_append,← List.append_assoc];exact H6.out⟩
       case measure=>simp [intOf];omega
      ·obtain rfl:k2=nu:=by omega
       have H7:=Lib.hid (show DSt w wb (dirsS x) v6 wr by
        have:=HS.out
        rw [List.take_of_length_le (by rw [HNU.out];exact Nat.le_refl _),← HL3.out,List.nil_append] at this
        exact this)
       clear HS hk hkn
       have HM:=Lib.hid (show ∀ d∈dirsS x,chk d=true∧(dtx d).length≤306 from fun d hd=>⟨dirs_mem HOK.out hd,(made_text (dirs_mem HOK.out hd)).len⟩)
       have hcn:=dirs_count HOK.out
       have HTT:=Lib.hid (show tS x=pfx x (dirsS x) (dirsS x).length by
        rw [HE.out.2]
        unfold pfx
        rw [List.take_length]
        rfl)
       have HPX:Hid (∀ k d,(dirsS x)[k]?=some d→pfx x (dirsS x) (k+1)=pfx x (dirsS x) k++10::dtx d):=fun k d hd=>pfx_succ x hd
       have HPZ:=Lib.hid (show t=pfx x (dirsS x) 0 by rw [HTF.out,pfx_zero])
       have HRR:=Lib.hid (show RdC wr v6 (dirsS x).length (flM (dirsS x)) from ApC.rdc (.inr H7.out.own))
       have HLO:=Lib.hid H7.out.low
       obtain ⟨pv,cv,hv6⟩:=(RdC.form HRR.out)
       subst hv6
       clear H7
       generalize dirsS x=L at *
       generalize pfx x L=PX at *
       obtain ⟨n,hn⟩:∃ n,L.length=n:=⟨_,rfl⟩
       rw [hn] at HTT hcn HRR
       rw [hn]
       have HN:=Lib.hid hn
       clear hn
       go_wp2
       clear c0 c1 c2 c3 c4 c5 c6 c7 c8 c9 c10 c11 clt
       obtain ⟨w10,hw10⟩:∃ w10,w10=wr:=⟨_,rfl⟩
       subst hw10
       go_loopw [4,9,10,11] (fun s4 s9 s10 s11 W=>∃ (k:Nat) (u:Tx) (v10 v11:Value),s9=.int .i64 (k:Int)∧s4=.string (str u)∧s10=v10∧s11=v11∧k≤n∧u.length≤1206+307 * k∧Aside (u=PX k∧Below w10.heap.size w10 W)) (fun _ s9 _ _ _=>n - (intOf s9).toNat)
       case atStart=>exact ⟨0,t,_,_,rfl,rfl,rfl,rfl,Nat.zero_le _,by have:=HLL.out;omega,HPZ.out,Below.refl _ _⟩
       case round =>
        obtain ⟨k,u,v10,v11,rfl,rfl,rfl,rfl,hk,htl,ht,hbl⟩:=hrel
        have HTK:=Lib.hid (show u=PX k from ht)
        have HBL:=Lib.hid (show Below w10.heap.size w10 wr from hbl)
        have HTL2:=Lib.hid htl
        have e1:(str u).size≤6000:=by rw [str_size];omega
        clear ht hbl htl
        by_cases hkn:k < n
        ·obtain ⟨b,off,hp,hb,hc⟩:=(HRR.out.next HBL.out).at_ (size:=5) rfl (by omega)
         subst hp
         obtain ⟨d,hd⟩:∃ d,L[k]?=some d:=⟨_,List.getElem?_eq_getElem (by rw [HN.out];exact hkn)⟩
         obtain ⟨y0,y1,y2,y3,y4⟩:=cellM hc hd
         have hdm:=HM.out d (List.mem_of_getElem? hd)
         have HX:=Lib.hid hd
         have HDN:=Lib.hid (sp.chk_name hdm.1)
         have HTD:=Lib.hid (show tT d=dtx d∧cE d=0 by unfold tT cE;rw [if_pos hdm.1,if_pos hdm.1];exact ⟨rfl,rfl⟩)
         have HTX:=Lib.hid (fun (W:World)=>dText_any d (DW_chk hdm.1) (by have:=HDN.out;omega) (by have:=HDN.out;omega) W)
         have HDL:=Lib.hid hdm.2
         have e2:(str (dtx d)).size≤306:=by rw [str_size];exact hdm.2
         clear hc hd hdm
         unfold dV dcs TextT at HTX
         rw [HTD.out.1,HTD.out.2] at HTX
         go_wp2_with (go_at_call 56;((with_reducible refine (HTX.out _).mono ?_);rintro e w5 ⟨rfl,hb5⟩);have HB5:=Lib.hid hb5;clear hb5)
         go_roundw
         case rel =>
          refine ⟨k+1,u++10::dtx d,_,_,by go_num,by rw [←lf_str3],rfl,rfl,by omega,?_,?_,HBL.out.trans (HB5.out.mono HBL.out.size)⟩
          ·have:=HTL2.out
           have:=HDL.out
           simp
           omega
          ·show _=PX (k+1)
           rw [HPX.out k d HX.out,← HTK.out]
         case measure=>simp [intOf];omega
        ·obtain rfl:k=n:=by omega
         have HTFI:=Lib.hid (show u=tS x by rw [HTK.out,HTT.out])
         go_wp2
         go_ret2
         exact ⟨by rw [←HTFI.out,HE.out.1];rfl,HFIN.out _ (HN1.out w10 wr HLO.out HBL.out)⟩
theorem dText_slip (x:Slip) (g:Gh) (w:World) (h:SR w x g) (hW:SW x) (hM:Mid x):Calls Tryz.prog 32 #[sV x g] w (STextT x w):=by
 by_cases hc:chkS x=true
 ·exact dtexts_yes x g w h hM hc
 ·exact dtexts_no x g w h hW hM hc
end Go.Proofs.YtekcjfdllclphaaGreatDoor.gn
end
