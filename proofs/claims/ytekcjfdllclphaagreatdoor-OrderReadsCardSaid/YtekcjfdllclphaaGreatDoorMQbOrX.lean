/- The document's Check of an order that is no submit's. (Written by gen_orW.py.) -/
import Derived.Test.YtekcjfdllclphaaGreatDoorMQbOrW
set_option linter.unusedVariables false
set_option linter.unusedSimpArgs false
section
namespace Go.Proofs.YtekcjfdllclphaaGreatDoor.gn
open Go.RowKit
open Go.Proofs.YtekcjfdllclphaaGreatDoor.un
open Go.Proofs.YtekcjfdllclphaaGreatDoor.di
open Go.Proofs.YtekcjfdllclphaaGreatDoor.sp (Slip chkS)
open Go.Proofs.YtekcjfdllclphaaGreatDoor.od (Ord OkO wordO hasJ hasN hasU hasP lo hi chkO chkO_iff chk_kind)
set_option maxRecDepth 100000 in
set_option maxHeartbeats 16000000 in
theorem dCheck_oth (o:Ord) (g:Gh) (w:World) (h:SR w o.slip g) (hW:SW o.slip) (hM:Mid o.slip) (hw:OW o) (hn:o.name.length≤100000∧o.pool.length≤100000∧o.user.length≤100000) (h2:o.kind≠2):Calls Tryz.prog 31 #[oV o g] w (Told (.int .i64 (oE o)) w):=by
 obtain ⟨wb,hwb⟩:∃ wb,w.alloc (.cells (ocs o g) 29)=wb:=⟨_,rfl⟩
 have hob:OrdB wb w.heap.size o g:=by rw [←hwb];exact BoxA.new _ _ _
 have hB1:Below w.heap.size w wb:=by rw [←hwb];exact (Below.refl _ _).alloc (Nat.le_refl _) _
 have HWB:=Lib.hid hwb
 have HB1:=Lib.hid hB1
 have HO1:=Lib.hid hob
 have HCH:=Lib.hid (fun (W:World) (hb:Below w.heap.size w W)=>dCheck_slip o.slip g W (h.next hb) hW hM)
 have HSM:=Lib.hid (fun (W:World) (hb:Below w.heap.size w W)=>dSame_slip o.slip Slip.zero g g0 W (h.next hb) (sr_zero _))
 have HKK:=Lib.hid (show o.kind≤255 from hw.kind)
 have HMO:=Lib.hid (fun W=>dmostO_any o.kind HKK.out W)
 have HJO:=Lib.hid (fun W=>djobO_any o.kind HKK.out W)
 have HNA:=Lib.hid (fun W=>dname_any o.name (by omega) W)
 have HNU:=Lib.hid (fun W=>dname_any o.user (by omega) W)
 have HNP:=Lib.hid (fun W=>dname_any o.pool (by omega) W)
 have HBAD:=Lib.hid (fun (hn:¬ OkO o)=>(show oE o=160 by unfold oE;rw [if_neg (fun hc=>hn ((chkO_iff o).1 hc))]))
 have HGOOD:=Lib.hid (fun (hn:OkO o)=>(show oE o=0 by unfold oE;rw [if_pos ((chkO_iff o).2 hn)]))
 obtain ⟨c0,c1,c2,c3,c4,c5,c6,c7,c8,c9,c10,c11,c12,c13,c14,c15,c16,c17,c18,c19,clt⟩:=ocel hob
 have kb:=HKK.out
 have H2:=Lib.hid h2
 clear hwb hob hB1 h hW hM hw hn h2
 obtain ⟨va,vm,vd,vu⟩:=g
 unfold sV scs at HCH HSM
 dsimp only at HCH HSM c12 c17 c18 c19
 by_cases k1:1≤o.kind
 rotate_left
 ·have HE:=Lib.hid (HBAD.out (fun hk=>k1 hk.kind.1))
  have d1:decide ((o.kind:Int) < 1)=true:=decide_eq_true (by omega)
  go_enter Tryz.func31,Tryz.ntmps31
  apply wp_seq_k
  intro K hK
  apply wp_region_lit
  refine Great.wpList_boxTo rfl _ _ rfl _ rfl w.heap.size rfl (ocs o ⟨va,vm,vd,vu⟩) rfl ?_
  rw [HWB.out]
  go_wp2
  go_ret
  exact ⟨by rw [HE.out];rfl,HB1.out⟩
 have d1:decide ((o.kind:Int) < 1)=false:=decide_eq_false (by omega)
 by_cases k18:o.kind≤18
 rotate_left
 ·have HE:=Lib.hid (HBAD.out (fun hk=>k18 hk.kind.2))
  have d2:decide ((18:Int) < (o.kind:Int))=true:=decide_eq_true (by omega)
  go_enter Tryz.func31,Tryz.ntmps31
  apply wp_seq_k
  intro K hK
  apply wp_region_lit
  refine Great.wpList_boxTo rfl _ _ rfl _ rfl w.heap.size rfl (ocs o ⟨va,vm,vd,vu⟩) rfl ?_
  rw [HWB.out]
  go_wp2
  go_ret
  exact ⟨by rw [HE.out];rfl,HB1.out⟩
 have d2:decide ((18:Int) < (o.kind:Int))=false:=decide_eq_false (by omega)
 have HK:=Lib.hid (And.intro k1 k18)
 go_enter Tryz.func31,Tryz.ntmps31
 apply wp_seq_k
 intro K hK
 apply wp_region_lit
 refine Great.wpList_boxTo rfl _ _ rfl _ rfl w.heap.size rfl (ocs o ⟨va,vm,vd,vu⟩) rfl ?_
 rw [HWB.out]
 go_upto_region 4 with fail
 clear d1 d2
 have h2:=H2.out
 have q2:((o.kind:Int) == 2)=false:=by rw [beq_eq_false_iff_ne];omega
 have HCB:=Lib.hid (show Calls Tryz.prog 26 _ wb _ from HSM.out wb HB1.out)
 by_cases hc:o.slip=Slip.zero
 rotate_left
 ·have HE:=Lib.hid (HBAD.out (fun hk=>hc (hk.slip0 h2)))
  rw [decide_eq_false hc] at HCB
  clear hc h2
  go_wp2_with (go_at_call 26;((refine HCB.out.mono ?_);rintro e w3 ⟨rfl,hb⟩);have A3:=Lib.hid (HB1.out.trans (hb.mono HB1.out.size));have HO3:=Lib.hid (HO1.out.next hb);clear hb)
  go_ret
  exact ⟨by rw [HE.out];rfl,A3.out⟩
 rw [decide_eq_true hc] at HCB
 have HS1:=Lib.hid (fun (h:o.kind=2)=>(show sp.Ok o.slip from absurd h h2))
 have HS0:=Lib.hid (fun (_:o.kind≠2)=>hc)
 clear hc h2
 go_upto_region 9 with (go_at_call 26;((refine HCB.out.mono ?_);rintro e w3 ⟨rfl,hb⟩);have A3:=Lib.hid (HB1.out.trans (hb.mono HB1.out.size));have HO3:=Lib.hid (HO1.out.next hb);clear hb)
 clear c0 c1 c2 c3 c4 c5 c6 c7 c8 c9 c10 c11 c12 c13 c14 c15 c16 c17 c18 c19 clt HCB HCH HSM q2
 obtain ⟨c0,c1,c2,c3,c4,c5,c6,c7,-,-,-,-,-,-,-,-,-,-,-,-,clt⟩:=ocel HO3.out
 go_upto_region 10 with (go_at_call 34;((with_reducible refine (HMO.out _).mono ?_);rintro e w9 ⟨rfl,rfl⟩))
 go_cut [54] (fun s54 wx=>s54=.bool (decide (¬ BN o))∧w3=wx)
 case first =>
  as_aux_lemma =>
   cases hb:hasN o.kind with
   | true =>
    obtain ⟨hm,hm0⟩:=most_yes hb
    have d1:decide (mostT o.kind < 0)=false:=decide_eq_false (by omega)
    have d2:decide (0≤mostT o.kind)=true:=decide_eq_true (by omega)
    by_cases hl:o.n < (lo o.kind:Int)
    ·have d3:decide (o.n < (lo o.kind:Int))=true:=decide_eq_true hl
     have HX:=Lib.hid (show ¬ BN o from fun hh=>by have:=(hh.1 hb).1;omega)
     generalize mostT o.kind=mt at *
     clear hb hm hl
     go_wp2
     go_meet
     case rel=>exact ⟨congrArg Value.bool (decide_eq_true (p:=¬ BN o) HX.out).symm,rfl⟩
    have d3:decide (o.n < (lo o.kind:Int))=false:=decide_eq_false hl
    by_cases hu:mostT o.kind < o.n
    ·have d4:decide (mostT o.kind < o.n)=true:=decide_eq_true hu
     have HX:=Lib.hid (show ¬ BN o from fun hh=>by have:=(hh.1 hb).2;omega)
     generalize mostT o.kind=mt at *
     clear hb hm hl hu
     go_wp2
     go_meet
     case rel=>exact ⟨congrArg Value.bool (decide_eq_true (p:=¬ BN o) HX.out).symm,rfl⟩
    have d4:decide (mostT o.kind < o.n)=false:=decide_eq_false hu
    have HX:=Lib.hid (show ¬ ¬ BN o from fun hh=>hh ⟨fun _=>by omega,fun he=>by rw [hb] at he;cases he⟩)
    generalize mostT o.kind=mt at *
    clear hb hm hl hu
    go_wp2
    go_meet
    case rel=>exact ⟨congrArg Value.bool (decide_eq_false (p:=¬ BN o) HX.out).symm,rfl⟩
   | false =>
    obtain ⟨hm,hm0⟩:=most_no hb
    have d1:decide (mostT o.kind < 0)=true:=decide_eq_true (by omega)
    have d2:decide (0≤mostT o.kind)=false:=decide_eq_false (by omega)
    generalize mostT o.kind=mt at *
    by_cases hz:o.n=0
    ·have d3:(o.n != 0)=false:=by rw [hz];rfl
     have HX:=Lib.hid (show ¬ ¬ BN o from fun hh=>hh ⟨fun he=>by (rw [hb] at he;cases he),fun _=>hz⟩)
     clear hb hm hm0 hz
     go_wp2
     go_meet
     case rel=>exact ⟨congrArg Value.bool (decide_eq_false (p:=¬ BN o) HX.out).symm,rfl⟩
    have d3:(o.n != 0)=true:=by rw [bne_iff_ne];exact hz
    have HX:=Lib.hid (show ¬ BN o from fun hh=>hz (hh.2 hb))
    clear hb hm hm0 hz
    go_wp2
    go_meet
    case rel=>exact ⟨congrArg Value.bool (decide_eq_true (p:=¬ BN o) HX.out).symm,rfl⟩
 case rest =>
 obtain ⟨rfl,rfl⟩:=hcut
 by_cases hb1:¬ BN o
 ·have HE:=Lib.hid (HBAD.out (fun hk=>hb1 ⟨hk.n1,hk.n0⟩))
  rw [decide_eq_true hb1]
  clear hb1
  go_wp2
  go_ret
  exact ⟨by rw [HE.out];rfl,A3.out⟩
 rw [decide_eq_false hb1]
 have HX1:=Lib.hid (Decidable.not_not.1 hb1)
 clear hb1
 go_upto_region 12 with fail
 go_cut [70] (fun s70 wx=>s70=.bool (decide (¬ BJ o))∧∃ nd,wx=w3.drewN nd)
 case first =>
  as_aux_lemma =>
   obtain ⟨bj,hb⟩:∃ b,hasJ o.kind=b:=⟨_,rfl⟩
   rw [hb] at HJO
   by_cases hz:o.job=0
   ·have d1:(o.job != 0)=false:=by rw [hz];rfl
    have d2:decide (o.job < 0)=false:=decide_eq_false (by omega)
    have d3:decide (1073741824 < o.job)=false:=decide_eq_false (by omega)
    cases bj with
    | true =>
     have HX:=Lib.hid (show ¬ BJ o from fun hh=>by have:=(hh.1 hb).1;omega)
     clear hb hz
     go_quiet ((go_at_call 54;exact Calls.quiet_of_same ((HJO.out _).mono fun _ _ h=>⟨h.1,h.2.symm⟩)))
     go_wp2
     go_meet
     case rel=>exact ⟨congrArg Value.bool (decide_eq_true (p:=¬ BJ o) HX.out).symm,⟨_,rfl⟩⟩
    | false =>
     have HX:=Lib.hid (show ¬ ¬ BJ o from fun hh=>hh ⟨fun he=>by (rw [hb] at he;cases he),fun _=>hz⟩)
     clear hb hz
     go_quiet ((go_at_call 54;exact Calls.quiet_of_same ((HJO.out _).mono fun _ _ h=>⟨h.1,h.2.symm⟩)))
     go_wp2
     go_meet
     case rel=>exact ⟨congrArg Value.bool (decide_eq_false (p:=¬ BJ o) HX.out).symm,⟨_,rfl⟩⟩
   have d1:(o.job != 0)=true:=by rw [bne_iff_ne];exact hz
   cases bj with
   | false =>
    have HX:=Lib.hid (show ¬ BJ o from fun hh=>hz (hh.2 hb))
    clear hb hz
    go_quiet ((go_at_call 54;exact Calls.quiet_of_same ((HJO.out _).mono fun _ _ h=>⟨h.1,h.2.symm⟩)))
    go_wp2
    go_meet
    case rel=>exact ⟨congrArg Value.bool (decide_eq_true (p:=¬ BJ o) HX.out).symm,⟨_,rfl⟩⟩
   | true =>
    by_cases hl:o.job < 0
    ·have d2:decide (o.job < 0)=true:=decide_eq_true hl
     have HX:=Lib.hid (show ¬ BJ o from fun hh=>by have:=(hh.1 hb).1;omega)
     clear hb hz hl
     go_quiet ((go_at_call 54;exact Calls.quiet_of_same ((HJO.out _).mono fun _ _ h=>⟨h.1,h.2.symm⟩)))
     go_wp2
     go_meet
     case rel=>exact ⟨congrArg Value.bool (decide_eq_true (p:=¬ BJ o) HX.out).symm,⟨_,rfl⟩⟩
    have d2:decide (o.job < 0)=false:=decide_eq_false hl
    by_cases hu:1073741824 < o.job
    ·have d3:decide (1073741824 < o.job)=true:=decide_eq_true hu
     have HX:=Lib.hid (show ¬ BJ o from fun hh=>by have:=(hh.1 hb).2;omega)
     clear hb hz hl hu
     go_quiet ((go_at_call 54;exact Calls.quiet_of_same ((HJO.out _).mono fun _ _ h=>⟨h.1,h.2.symm⟩)))
     go_wp2
     go_meet
     case rel=>exact ⟨congrArg Value.bool (decide_eq_true (p:=¬ BJ o) HX.out).symm,⟨_,rfl⟩⟩
    have d3:decide (1073741824 < o.job)=false:=decide_eq_false hu
    have HX:=Lib.hid (show ¬ ¬ BJ o from fun hh=>hh ⟨fun _=>by omega,fun he=>by (rw [hb] at he;cases he)⟩)
    clear hb hz hl hu
    go_quiet ((go_at_call 54;exact Calls.quiet_of_same ((HJO.out _).mono fun _ _ h=>⟨h.1,h.2.symm⟩)))
    go_wp2
    go_meet
    case rel=>exact ⟨congrArg Value.bool (decide_eq_false (p:=¬ BJ o) HX.out).symm,⟨_,rfl⟩⟩
 case rest =>
 obtain ⟨rfl,nd,rfl⟩:=hcut
 have hdd:Below w3.heap.size w3 (w3.drewN nd):=⟨rfl,rfl,rfl,Nat.le_refl _,fun _ _=>rfl⟩
 have A4:=Lib.hid (A3.out.trans (hdd.mono A3.out.size))
 have HO4:=Lib.hid (HO3.out.next hdd)
 clear c0 c1 c2 c3 c4 c5 c6 c7 clt hdd
 generalize w3.drewN nd=w4 at *
 obtain ⟨c0,c1,c2,c3,c4,c5,c6,c7,-,-,-,-,-,-,-,-,-,-,-,-,clt⟩:=ocel HO4.out
 by_cases hb2:¬ BJ o
 ·have HE:=Lib.hid (HBAD.out (fun hk=>hb2 ⟨hk.job1,hk.job0⟩))
  rw [decide_eq_true hb2]
  clear hb2
  go_wp2
  go_ret
  exact ⟨by rw [HE.out];rfl,A4.out⟩
 rw [decide_eq_false hb2]
 have HX2:=Lib.hid (Decidable.not_not.1 hb2)
 clear hb2
 go_upto_region 14 with fail
 go_cut [6] (fun s6 wx=>s6=.bool (hasU o.kind)∧w4=wx)
 case first =>
  as_aux_lemma =>
   by_cases h15:o.kind=15
   ·have HX:=Lib.hid (show hasU o.kind=true from decide_eq_true (.inl h15))
    have d1:((o.kind:Int) == 15)=true:=by rw [h15];rfl
    clear h15
    go_wp2
    go_meet
    case rel=>exact ⟨by rw [HX.out],rfl⟩
   have d1:((o.kind:Int) == 15)=false:=by rw [beq_eq_false_iff_ne];omega
   by_cases h16:o.kind=16
   ·have HX:=Lib.hid (show hasU o.kind=true from decide_eq_true (.inr h16))
    have d2:((o.kind:Int) == 16)=true:=by rw [h16];rfl
    clear h15 h16
    go_wp2
    go_meet
    case rel=>exact ⟨by rw [HX.out],rfl⟩
   have d2:((o.kind:Int) == 16)=false:=by rw [beq_eq_false_iff_ne];omega
   have HX:=Lib.hid (show hasU o.kind=false from decide_eq_false (by omega))
   clear h15 h16
   go_wp2
   go_meet
   case rel=>exact ⟨by rw [HX.out],rfl⟩
 case rest =>
 obtain ⟨rfl,rfl⟩:=hcut
 go_upto_region 15 with fail
 go_cut [7] (fun s7 wx=>s7=.bool (hasP o.kind)∧w4=wx)
 case first =>
  as_aux_lemma =>
   by_cases h18:o.kind=18
   ·have HX:=Lib.hid (show hasP o.kind=true from decide_eq_true (.inr h18))
    have d1:((o.kind:Int) == 18)=true:=by rw [h18];rfl
    have d2:decide ((13:Int)≤(o.kind:Int))=true:=decide_eq_true (by omega)
    have d3:decide ((o.kind:Int)≤15)=false:=decide_eq_false (by omega)
    clear h18
    go_wp2
    go_meet
    case rel=>exact ⟨by rw [HX.out],rfl⟩
   have d1:((o.kind:Int) == 18)=false:=by rw [beq_eq_false_iff_ne];omega
   by_cases h13:13≤o.kind
   ·have d2:decide ((13:Int)≤(o.kind:Int))=true:=decide_eq_true (by omega)
    by_cases h15:o.kind≤15
    ·have HX:=Lib.hid (show hasP o.kind=true from decide_eq_true (.inl ⟨h13,h15⟩))
     have d3:decide ((o.kind:Int)≤15)=true:=decide_eq_true (by omega)
     clear h13 h15 h18
     go_wp2
     go_meet
     case rel=>exact ⟨by rw [HX.out],rfl⟩
    ·have HX:=Lib.hid (show hasP o.kind=false from decide_eq_false (by omega))
     have d3:decide ((o.kind:Int)≤15)=false:=decide_eq_false (by omega)
     clear h13 h15 h18
     go_wp2
     go_meet
     case rel=>exact ⟨by rw [HX.out],rfl⟩
   have d2:decide ((13:Int)≤(o.kind:Int))=false:=decide_eq_false (by omega)
   have HX:=Lib.hid (show hasP o.kind=false from decide_eq_false (by omega))
   clear h13 h18
   go_wp2
   go_meet
   case rel=>exact ⟨by rw [HX.out],rfl⟩
 case rest =>
 obtain ⟨rfl,rfl⟩:=hcut
 go_upto_region 16 with fail
 obtain ⟨bu,hbu⟩:∃ b,hasU o.kind=b:=⟨_,rfl⟩
 obtain ⟨bp,hbp⟩:∃ b,hasP o.kind=b:=⟨_,rfl⟩
 rw [hbu,hbp]
 have HBUP:=Lib.hid (And.intro hbu hbp)
 clear hbu hbp
 go_cut [132] (fun s132 wx=>s132=.bool (decide (¬ BW o))∧w4=wx)
 case first =>
  as_aux_lemma =>
   obtain ⟨n1,hn1⟩:∃ b,isName o.name=b:=⟨_,rfl⟩
   obtain ⟨n2,hn2⟩:∃ b,isName o.user=b:=⟨_,rfl⟩
   obtain ⟨n3,hn3⟩:∃ b,isName o.pool=b:=⟨_,rfl⟩
   have HX0:=Lib.hid (show BW o↔((bu=true→n1=true∧n2=true)∧(bu=false→o.name=[]∧o.user=[])∧(bp=true→n3=true)∧(bp=false→o.pool=[])) by unfold BW;rw [HBUP.out.1,HBUP.out.2,hn1,hn2,hn3])
   rw [hn1] at HNA
   rw [hn2] at HNU
   rw [hn3] at HNP
   have HNIL:=Lib.hid (fun (e:o.name=[])=>(show n1=false by rw [←hn1,e];rfl))
   have HNIL2:=Lib.hid (fun (e:o.user=[])=>(show n2=false by rw [←hn2,e];rfl))
   have HNIL3:=Lib.hid (fun (e:o.pool=[])=>(show n3=false by rw [←hn3,e];rfl))
   clear hn1 hn2 hn3
   cases bu with
   | true =>
    cases n1 with
    | false =>
     have HX:=Lib.hid (show ¬ BW o from fun hh=>by have hh:=HX0.out.1 hh;exact absurd (hh.1 rfl).1 (by decide))
     clear HX0
     go_wp2_with (first | (go_at_call 55;((with_reducible refine (HNA.out _).mono ?_);rintro e w9 ⟨rfl,rfl⟩)) | (go_at_call 55;((with_reducible refine (HNU.out _).mono ?_);rintro e w9 ⟨rfl,rfl⟩)) | (go_at_call 55;((with_reducible refine (HNP.out _).mono ?_);rintro e w9 ⟨rfl,rfl⟩)))
     go_meet
     case rel=>exact ⟨congrArg Value.bool (decide_eq_true (p:=¬ BW o) HX.out).symm,rfl⟩
    | true =>
     cases n2 with
     | false =>
      have HX:=Lib.hid (show ¬ BW o from fun hh=>by have hh:=HX0.out.1 hh;exact absurd (hh.1 rfl).2 (by decide))
      clear HX0
      go_wp2_with (first | (go_at_call 55;((with_reducible refine (HNA.out _).mono ?_);rintro e w9 ⟨rfl,rfl⟩)) | (go_at_call 55;((with_reducible refine (HNU.out _).mono ?_);rintro e w9 ⟨rfl,rfl⟩)) | (go_at_call 55;((with_reducible refine (HNP.out _).mono ?_);rintro e w9 ⟨rfl,rfl⟩)))
      go_meet
      case rel=>exact ⟨congrArg Value.bool (decide_eq_true (p:=¬ BW o) HX.out).symm,rfl⟩
     | true =>
      cases bp with
      | true =>
       cases n3 with
       | false =>
        have HX:=Lib.hid (show ¬ BW o from fun hh=>by have hh:=HX0.out.1 hh;exact absurd (hh.2.2.1 rfl) (by decide))
        clear HX0
        go_wp2_with (first | (go_at_call 55;((with_reducible refine (HNA.out _).mono ?_);rintro e w9 ⟨rfl,rfl⟩)) | (go_at_call 55;((with_reducible refine (HNU.out _).mono ?_);rintro e w9 ⟨rfl,rfl⟩)) | (go_at_call 55;((with_reducible refine (HNP.out _).mono ?_);rintro e w9 ⟨rfl,rfl⟩)))
        go_meet
        case rel=>exact ⟨congrArg Value.bool (decide_eq_true (p:=¬ BW o) HX.out).symm,rfl⟩
       | true =>
        have HX:=Lib.hid (show ¬ ¬ BW o from fun hh=>hh (HX0.out.2 ⟨fun _=>⟨rfl,rfl⟩,(by intro h;cases h),fun _=>rfl,(by intro h;cases h)⟩))
        clear HX0
        go_wp2_with (first | (go_at_call 55;((with_reducible refine (HNA.out _).mono ?_);rintro e w9 ⟨rfl,rfl⟩)) | (go_at_call 55;((with_reducible refine (HNU.out _).mono ?_);rintro e w9 ⟨rfl,rfl⟩)) | (go_at_call 55;((with_reducible refine (HNP.out _).mono ?_);rintro e w9 ⟨rfl,rfl⟩)))
        go_meet
        case rel=>exact ⟨congrArg Value.bool (decide_eq_false (p:=¬ BW o) HX.out).symm,rfl⟩
      | false =>
       by_cases ep:o.pool=[]
       rotate_left
       ·obtain ⟨q5,q6⟩:=lit_no (a:=o.pool) (c:=[]) ep
        cases n3
        all_goals
         have HX:=Lib.hid (show ¬ BW o from fun hh=>by have hh:=HX0.out.1 hh;exact ep (hh.2.2.2 rfl))
         clear HX0
         go_wp2_with (first | (go_at_call 55;((with_reducible refine (HNA.out _).mono ?_);rintro e w9 ⟨rfl,rfl⟩)) | (go_at_call 55;((with_reducible refine (HNU.out _).mono ?_);rintro e w9 ⟨rfl,rfl⟩)) | (go_at_call 55;((with_reducible refine (HNP.out _).mono ?_);rintro e w9 ⟨rfl,rfl⟩)))
         go_meet
         case rel=>exact ⟨congrArg Value.bool (decide_eq_true (p:=¬ BW o) HX.out).symm,rfl⟩
       obtain ⟨q5,q6⟩:=lit_yes (a:=o.pool) (c:=[]) ep
       have EP:=Lib.hid ep
       clear ep
       obtain rfl:n3=false:=HNIL3.out EP.out
       have HX:=Lib.hid (show ¬ ¬ BW o from fun hh=>hh (HX0.out.2 ⟨fun _=>⟨rfl,rfl⟩,(by intro h;cases h),(by intro h;cases h),fun _=>EP.out⟩))
       clear HX0
       go_wp2_with (first | (go_at_call 55;((with_reducible refine (HNA.out _).mono ?_);rintro e w9 ⟨rfl,rfl⟩)) | (go_at_call 55;((with_reducible refine (HNU.out _).mono ?_);rintro e w9 ⟨rfl,rfl⟩)) | (go_at_call 55;((with_reducible refine (HNP.out _).mono ?_);rintro e w9 ⟨rfl,rfl⟩)))
       go_meet
       case rel=>exact ⟨congrArg Value.bool (decide_eq_false (p:=¬ BW o) HX.out).symm,rfl⟩
   | false =>
    by_cases en:o.name=[]
    rotate_left
    ·obtain ⟨rn1,rn2⟩:=lit_no (a:=o.name) (c:=[]) en
     cases n1
     all_goals
      have HX:=Lib.hid (show ¬ BW o from fun hh=>by have hh:=HX0.out.1 hh;exact en (hh.2.1 rfl).1)
      clear HX0
      go_wp2_with (first | (go_at_call 55;((with_reducible refine (HNA.out _).mono ?_);rintro e w9 ⟨rfl,rfl⟩)) | (go_at_call 55;((with_reducible refine (HNU.out _).mono ?_);rintro e w9 ⟨rfl,rfl⟩)) | (go_at_call 55;((with_reducible refine (HNP.out _).mono ?_);rintro e w9 ⟨rfl,rfl⟩)))
      go_meet
      case rel=>exact ⟨congrArg Value.bool (decide_eq_true (p:=¬ BW o) HX.out).symm,rfl⟩
    obtain ⟨rn1,rn2⟩:=lit_yes (a:=o.name) (c:=[]) en
    obtain rfl:n1=false:=HNIL.out en
    have EN:=Lib.hid en
    clear en
    by_cases eu:o.user=[]
    rotate_left
    ·obtain ⟨ru1,ru2⟩:=lit_no (a:=o.user) (c:=[]) eu
     cases n2
     all_goals
      have HX:=Lib.hid (show ¬ BW o from fun hh=>by have hh:=HX0.out.1 hh;exact eu (hh.2.1 rfl).2)
      clear HX0
      go_wp2_with (first | (go_at_call 55;((with_reducible refine (HNA.out _).mono ?_);rintro e w9 ⟨rfl,rfl⟩)) | (go_at_call 55;((with_reducible refine (HNU.out _).mono ?_);rintro e w9 ⟨rfl,rfl⟩)) | (go_at_call 55;((with_reducible refine (HNP.out _).mono ?_);rintro e w9 ⟨rfl,rfl⟩)))
      go_meet
      case rel=>exact ⟨congrArg Value.bool (decide_eq_true (p:=¬ BW o) HX.out).symm,rfl⟩
    obtain ⟨ru1,ru2⟩:=lit_yes (a:=o.user) (c:=[]) eu
    obtain rfl:n2=false:=HNIL2.out eu
    have EU:=Lib.hid eu
    clear eu
    cases bp with
    | true =>
     cases n3 with
     | false =>
      have HX:=Lib.hid (show ¬ BW o from fun hh=>by have hh:=HX0.out.1 hh;exact absurd (hh.2.2.1 rfl) (by decide))
      clear HX0
      go_wp2_with (first | (go_at_call 55;((with_reducible refine (HNA.out _).mono ?_);rintro e w9 ⟨rfl,rfl⟩)) | (go_at_call 55;((with_reducible refine (HNU.out _).mono ?_);rintro e w9 ⟨rfl,rfl⟩)) | (go_at_call 55;((with_reducible refine (HNP.out _).mono ?_);rintro e w9 ⟨rfl,rfl⟩)))
      go_meet
      case rel=>exact ⟨congrArg Value.bool (decide_eq_true (p:=¬ BW o) HX.out).symm,rfl⟩
     | true =>
      have HX:=Lib.hid (show ¬ ¬ BW o from fun hh=>hh (HX0.out.2 ⟨(by intro h;cases h),fun _=>⟨EN.out,EU.out⟩,fun _=>rfl,(by intro h;cases h)⟩))
      clear HX0
      go_wp2_with (first | (go_at_call 55;((with_reducible refine (HNA.out _).mono ?_);rintro e w9 ⟨rfl,rfl⟩)) | (go_at_call 55;((with_reducible refine (HNU.out _).mono ?_);rintro e w9 ⟨rfl,rfl⟩)) | (go_at_call 55;((with_reducible refine (HNP.out _).mono ?_);rintro e w9 ⟨rfl,rfl⟩)))
      go_meet
      case rel=>exact ⟨congrArg Value.bool (decide_eq_false (p:=¬ BW o) HX.out).symm,rfl⟩
    | false =>
     by_cases ep:o.pool=[]
     rotate_left
     ·obtain ⟨q5,q6⟩:=lit_no (a:=o.pool) (c:=[]) ep
      cases n3
      all_goals
       have HX:=Lib.hid (show ¬ BW o from fun hh=>by have hh:=HX0.out.1 hh;exact ep (hh.2.2.2 rfl))
       clear HX0
       go_wp2_with (first | (go_at_call 55;((with_reducible refine (HNA.out _).mono ?_);rintro e w9 ⟨rfl,rfl⟩)) | (go_at_call 55;((with_reducible refine (HNU.out _).mono ?_);rintro e w9 ⟨rfl,rfl⟩)) | (go_at_call 55;((with_reducible refine (HNP.out _).mono ?_);rintro e w9 ⟨rfl,rfl⟩)))
       go_meet
       case rel=>exact ⟨congrArg Value.bool (decide_eq_true (p:=¬ BW o) HX.out).symm,rfl⟩
     obtain ⟨q5,q6⟩:=lit_yes (a:=o.pool) (c:=[]) ep
     have EP:=Lib.hid ep
     clear ep
     obtain rfl:n3=false:=HNIL3.out EP.out
     have HX:=Lib.hid (show ¬ ¬ BW o from fun hh=>hh (HX0.out.2 ⟨(by intro h;cases h),fun _=>⟨EN.out,EU.out⟩,(by intro h;cases h),fun _=>EP.out⟩))
     clear HX0
     go_wp2_with (first | (go_at_call 55;((with_reducible refine (HNA.out _).mono ?_);rintro e w9 ⟨rfl,rfl⟩)) | (go_at_call 55;((with_reducible refine (HNU.out _).mono ?_);rintro e w9 ⟨rfl,rfl⟩)) | (go_at_call 55;((with_reducible refine (HNP.out _).mono ?_);rintro e w9 ⟨rfl,rfl⟩)))
     go_meet
     case rel=>exact ⟨congrArg Value.bool (decide_eq_false (p:=¬ BW o) HX.out).symm,rfl⟩
 case rest =>
 obtain ⟨rfl,rfl⟩:=hcut
 by_cases hb3:¬ BW o
 ·have HE:=Lib.hid (HBAD.out (fun hk=>hb3 ⟨hk.name1,hk.name0,hk.pool1,hk.pool0⟩))
  rw [decide_eq_true hb3]
  clear hb3
  go_wp2
  go_ret
  exact ⟨by rw [HE.out];rfl,A4.out⟩
 rw [decide_eq_false hb3]
 have HX3:=Lib.hid (Decidable.not_not.1 hb3)
 clear hb3
 go_upto_region 18 with fail
 go_cut [160] (fun s160 wx=>s160=.bool (decide (¬ BS o))∧w4=wx)
 case first =>
  as_aux_lemma =>
   by_cases h15:o.kind=15
   ·have d1:((o.kind:Int) == 15)=true:=by rw [h15];rfl
    have d0:((o.kind:Int) != 15)=false:=by rw [h15];rfl
    have d7:((o.kind:Int) != 7)=true:=by rw [h15];rfl
    by_cases hp:0 < o.size
    rotate_left
    ·have d2:decide (0 < o.size)=false:=decide_eq_false hp
     have HX:=Lib.hid (show ¬ BS o from fun hh=>by have:=(hh.1 h15).1;omega)
     clear h15 hp
     go_wp2
     go_meet
     case rel=>exact ⟨congrArg Value.bool (decide_eq_true (p:=¬ BS o) HX.out).symm,rfl⟩
    have d2:decide (0 < o.size)=true:=decide_eq_true hp
    have d3:decide (o.size < 0)=false:=decide_eq_false (by omega)
    by_cases hu:1099511627776 < o.size
    ·have d4:decide (1099511627776 < o.size)=true:=decide_eq_true hu
     have HX:=Lib.hid (show ¬ BS o from fun hh=>by have:=(hh.1 h15).2;omega)
     clear h15 hp hu
     go_wp2
     go_meet
     case rel=>exact ⟨congrArg Value.bool (decide_eq_true (p:=¬ BS o) HX.out).symm,rfl⟩
    have d4:decide (1099511627776 < o.size)=false:=decide_eq_false hu
    have HX:=Lib.hid (show ¬ ¬ BS o from fun hh=>hh ⟨fun _=>by omega,fun h=>absurd h15 h,fun _ h=>absurd h15 h⟩)
    clear h15 hp hu
    generalize o.yes=by_ at *
    cases by_
    all_goals
     go_wp2
     go_meet
     case rel=>exact ⟨congrArg Value.bool (decide_eq_false (p:=¬ BS o) HX.out).symm,rfl⟩
   have d1:((o.kind:Int) == 15)=false:=by rw [beq_eq_false_iff_ne];omega
   have d0:((o.kind:Int) != 15)=true:=by rw [bne_iff_ne];omega
   by_cases hp:0 < o.size
   ·have d2:decide (0 < o.size)=true:=decide_eq_true hp
    have HX:=Lib.hid (show ¬ BS o from fun hh=>by have:=hh.2.1 h15;omega)
    clear h15 hp
    go_wp2
    go_meet
    case rel=>exact ⟨congrArg Value.bool (decide_eq_true (p:=¬ BS o) HX.out).symm,rfl⟩
   have d2:decide (0 < o.size)=false:=decide_eq_false hp
   by_cases hl:o.size < 0
   ·have d3:decide (o.size < 0)=true:=decide_eq_true hl
    have HX:=Lib.hid (show ¬ BS o from fun hh=>by have:=hh.2.1 h15;omega)
    clear h15 hp hl
    go_wp2
    go_meet
    case rel=>exact ⟨congrArg Value.bool (decide_eq_true (p:=¬ BS o) HX.out).symm,rfl⟩
   have d3:decide (o.size < 0)=false:=decide_eq_false hl
   have d4:decide (1099511627776 < o.size)=false:=decide_eq_false (by omega)
   by_cases h7:o.kind=7
   ·have d7:((o.kind:Int) != 7)=false:=by rw [h7];rfl
    have HX:=Lib.hid (show ¬ ¬ BS o from fun hh=>hh ⟨fun h=>absurd h h15,fun _=>by omega,fun h=>absurd h7 h⟩)
    clear h15 hp hl h7
    generalize o.yes=by_ at *
    cases by_
    all_goals
     go_wp2
     go_meet
     case rel=>exact ⟨congrArg Value.bool (decide_eq_false (p:=¬ BS o) HX.out).symm,rfl⟩
   have d7:((o.kind:Int) != 7)=true:=by rw [bne_iff_ne];omega
   have HX0:=Lib.hid (show BS o↔o.yes=false from ⟨fun hh=>hh.2.2 h7 h15,fun hh=>⟨fun h=>absurd h h15,fun _=>by omega,fun _ _=>hh⟩⟩)
   clear h15 hp hl h7
   generalize o.yes=by_ at *
   cases by_ with
   | true =>
    have HX:=Lib.hid (show ¬ BS o from fun hh=>absurd (HX0.out.1 hh) (by decide))
    clear HX0
    go_wp2
    go_meet
    case rel=>exact ⟨congrArg Value.bool (decide_eq_true (p:=¬ BS o) HX.out).symm,rfl⟩
   | false =>
    have HX:=Lib.hid (show ¬ ¬ BS o from fun hh=>hh (HX0.out.2 rfl))
    clear HX0
    go_wp2
    go_meet
    case rel=>exact ⟨congrArg Value.bool (decide_eq_false (p:=¬ BS o) HX.out).symm,rfl⟩
 case rest =>
 obtain ⟨rfl,rfl⟩:=hcut
 by_cases hb4:¬ BS o
 ·have HE:=Lib.hid (HBAD.out (fun hk=>hb4 ⟨hk.size1,hk.size0,hk.yes0⟩))
  rw [decide_eq_true hb4]
  clear hb4
  go_wp2
  go_ret
  exact ⟨by rw [HE.out];rfl,A4.out⟩
 rw [decide_eq_false hb4]
 have HX4:=Lib.hid (Decidable.not_not.1 hb4)
 clear hb4
 have HE:=Lib.hid (HGOOD.out ⟨HK.out,HS1.out,HS0.out,HX1.out.1,HX1.out.2,HX2.out.1,HX2.out.2,HX3.out.1,HX3.out.2.1,HX3.out.2.2.1,HX3.out.2.2.2,HX4.out.1,HX4.out.2.1,HX4.out.2.2⟩)
 go_wp2
 go_ret
 exact ⟨by rw [HE.out];rfl,A4.out⟩
end Go.Proofs.YtekcjfdllclphaaGreatDoor.gn
end
