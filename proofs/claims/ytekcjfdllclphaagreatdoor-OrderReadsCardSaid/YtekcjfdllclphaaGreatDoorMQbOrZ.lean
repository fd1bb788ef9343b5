/- The document's Text of an order. (Written by gen_orZ.py.) -/
import Derived.Test.YtekcjfdllclphaaGreatDoorMQbOrX
import Derived.Test.YtekcjfdllclphaaGreatDoorMQbOrV
import Derived.Test.YtekcjfdllclphaaGreatDoorMQbSlDc
import Derived.Test.YtekcjfdllclphaaGreatDoorMQbSlFi
import Derived.Test.YtekcjfdllclphaaGreatDoorMQbSlTx
import Derived.Test.YtekcjfdllclphaaGreatDoorMQbOrU
import Derived.Test.YtekcjfdllclphaaGreatDoorMQbDiT
import Derived.Deep.DeepCutAuto
set_option linter.unusedVariables false
set_option linter.unusedSimpArgs false
section
namespace Go.Proofs.YtekcjfdllclphaaGreatDoor.gn
open Go.RowKit
open Go.Proofs.YtekcjfdllclphaaGreatDoor.un
open Go.Proofs.YtekcjfdllclphaaGreatDoor.di
open Go.Proofs.YtekcjfdllclphaaGreatDoor.sp (Slip chkS chkS_iff txtS joinC joinC_cons jobW userK okW)
open Go.Proofs.YtekcjfdllclphaaGreatDoor.od (Ord OkO fsO chkO chkO_iff txtO wordO hasJ hasN hasU hasP nK resK badW)
def spc (L:List Fl):Tx:=L.flatMap fun f=>32::wtx f
theorem spc_nil:spc []=[]:=rfl
theorem spc_one (k v:Tx):spc [(k,v)]=32::(k++61::v):=by simp [spc,wtx]
theorem spc_two (k v k' v':Tx):spc [(k,v),(k',v')]=32::(k++61::v)++32::(k'++61::v'):=by simp [spc,wtx]
theorem spc_app (L M:List Fl):spc (L++M)=spc L++spc M:=by simp [spc]
theorem join_spc (a:Tx):∀ L:List Fl,joinC 32 (a::L.map wtx)=a++spc L
 | []=>by simp [joinC,spc]
 | f::L=>by
  rw [List.map_cons,joinC_cons 32 a (by simp),join_spc (wtx f) L]
  simp [spc]
def fJ (o:Ord):List Fl:=if hasJ o.kind then [(jobW,txt o.job)] else []
def fN (o:Ord):List Fl:=if hasN o.kind then [(nK,txt o.n)] else []
def fR (o:Ord):List Fl:=if o.kind=7 then [(resK,if o.yes then okW else badW)] else []
def fU (o:Ord):List Fl:=if hasU o.kind then [(userK,o.user),(nameK,o.name)] else []
def fC (o:Ord):List Fl:=if o.kind=15 then [(capK,stxt o.size)] else []
def fP (o:Ord):List Fl:=if hasP o.kind then [(poolK,o.pool)] else []
def fA (o:Ord):List Fl:=if o.kind=15 then [(accK,if o.yes then pubV else priV)] else []
theorem fsO_eq (o:Ord):fsO o=fJ o++fN o++fR o++fU o++fC o++fP o++fA o:=rfl
theorem txt_spc (o:Ord) (h2:o.kind≠2):txtO o=wordO o.kind++spc (fJ o)++spc (fN o)++spc (fR o)++spc (fU o)++spc (fC o)++spc (fP o)++spc (fA o):=by
 unfold txtO
 rw [if_neg h2,join_spc,fsO_eq]
 simp only [spc_app,List.append_assoc]
set_option maxRecDepth 100000 in
set_option maxHeartbeats 8000000 in
theorem dotext_no (o:Ord) (g:Gh) (w:World) (h:SR w o.slip g) (hch:∀ X:World,SR X o.slip g→Calls Tryz.prog 31 #[oV o g] X (Told (.int .i64 (oE o)) X)) (hx:¬ chkO o=true):Calls Tryz.prog 13 #[oV o g] w (OTextT o w):=by
 have HE:=Lib.hid (show oE o=160∧oT o=[] by unfold oE oT;rw [if_neg hx,if_neg hx];exact ⟨rfl,rfl⟩)
 obtain ⟨wb,hwb⟩:∃ wb,w.alloc (.cells (ocs o g) 29)=wb:=⟨_,rfl⟩
 have hob:OrdB wb w.heap.size o g:=by rw [←hwb];exact BoxA.new _ _ _
 have hB1:Below w.heap.size w wb:=by rw [←hwb];exact (Below.refl _ _).alloc (Nat.le_refl _) _
 have HB1:=Lib.hid hB1
 have HWB:=Lib.hid hwb
 have HOB:=Lib.hid hob
 have HCH:=Lib.hid (hch wb (h.next hB1))
 rw [HE.out.1] at HCH
 unfold oV at HCH
 clear h hch hx hB1 hwb hob
 go_enter Tryz.func13,Tryz.ntmps13
 apply wp_seq_k
 intro K hK
 apply wp_region_lit
 refine Great.wpList_boxTo rfl _ _ rfl _ rfl w.heap.size rfl (ocs o g) rfl ?_
 rw [HWB.out]
 go_wp2_with (first
  | (refine wpList_load_row rfl _ _ rfl w.heap.size rfl _ _ _ _ HOB.out Tryz.underlying29 rfl (by kernel_rfl) ?_)
  | (go_at_call 31;((with_reducible refine HCH.out.mono ?_);rintro e w1 ⟨rfl,hb⟩);have A1:=Lib.hid hb;clear hb))
 go_ret2
 exact ⟨by rw [HE.out.1,HE.out.2];rfl,HB1.out.trans (A1.out.mono HB1.out.size)⟩
theorem add_str (t k v:Tx):str t++str (32::(k++[61]))++str v=str (t++32::(k++61::v)):=by
 rw [str_app,str_app];simp
theorem add_str2 (t k v k' v':Tx):str t++str (32::(k++[61]))++str v++str (32::(k'++[61]))++str v'=str (t++(32::(k++61::v))++32::(k'++61::v')):=by
 rw [add_str,add_str]
set_option maxRecDepth 100000 in
set_option maxHeartbeats 32000000 in
theorem dotext_oth (o:Ord) (g:Gh) (w:World) (h:SR w o.slip g) (hW:SW o.slip) (hM:Mid o.slip) (hc:chkO o=true) (h2:o.kind≠2):Calls Tryz.prog 13 #[oV o g] w (OTextT o w):=by
 have HE:=Lib.hid (show oE o=0∧oT o=txtO o by unfold oE oT;rw [if_pos hc,if_pos hc];exact ⟨rfl,rfl⟩)
 have hok:=(chkO_iff o).1 hc
 have hw:=OW_ok hok
 have HTX:=Lib.hid (txt_spc o h2)
 have HOK:=Lib.hid hok
 have HLN:=Lib.hid (show o.name.length≤32∧o.user.length≤32∧o.pool.length≤32 from ⟨by
  cases hh:od.hasU o.kind with
  | true=>exact name_len (hok.name1 hh).1
  | false=>rw [(hok.name0 hh).1];exact Nat.zero_le _,by
  cases hh:od.hasU o.kind with
  | true=>exact name_len (hok.name1 hh).2
  | false=>rw [(hok.name0 hh).2];exact Nat.zero_le _,by
  cases hh:od.hasP o.kind with
  | true=>exact name_len (hok.pool1 hh)
  | false=>rw [hok.pool0 hh];exact Nat.zero_le _⟩)
 obtain ⟨wb,hwb⟩:∃ wb,w.alloc (.cells (ocs o g) 29)=wb:=⟨_,rfl⟩
 have hob:OrdB wb w.heap.size o g:=by rw [←hwb];exact BoxA.new _ _ _
 have hB1:Below w.heap.size w wb:=by rw [←hwb];exact (Below.refl _ _).alloc (Nat.le_refl _) _
 have HB1:=Lib.hid hB1
 have HWB:=Lib.hid hwb
 have HOB:=Lib.hid hob
 have HCH:=Lib.hid (dCheck_oth o g wb (h.next hB1) hW hM hw (by have:=HLN.out;omega) h2)
 have HWD:=Lib.hid (fun X=>dwordO_any o.kind hw.kind X)
 have HMO:=Lib.hid (fun X=>dmostO_any o.kind hw.kind X)
 have HWL:=Lib.hid (show (wordO o.kind).length≤7 from (od.word_plain hok.kind).2.2)
 have HKB:=Lib.hid (show o.kind≤255 from hw.kind)
 rw [HE.out.1] at HCH
 unfold oV at HCH
 have q2:((o.kind:Int) == 2)=false:=by rw [beq_eq_false_iff_ne];omega
 clear h hW hM hw hc hB1 hwb hob hok h2
 go_enter Tryz.func13,Tryz.ntmps13
 apply wp_seq_k
 intro K hK
 apply wp_region_lit
 refine Great.wpList_boxTo rfl _ _ rfl _ rfl w.heap.size rfl (ocs o g) rfl ?_
 rw [HWB.out]
 go_upto_region 3 with (first
  | (refine wpList_load_row rfl _ _ rfl w.heap.size rfl _ _ _ _ HOB.out Tryz.underlying29 rfl (by kernel_rfl) ?_)
  | (go_at_call 31;((with_reducible refine HCH.out.mono ?_);rintro e w1 ⟨rfl,hb⟩);have A1:=Lib.hid (HB1.out.trans (hb.mono HB1.out.size));have HO1:=Lib.hid (HOB.out.next hb);clear hb))
 obtain ⟨c0,c1,c2,c3,c4,c5,c6,c7,-,-,-,-,-,-,-,-,-,-,-,-,clt⟩:=ocel HO1.out
 go_upto_region 4 with (go_at_call 21;((with_reducible refine (HWD.out _).mono ?_);rintro e w2 ⟨rfl,hb⟩);have A2:=Lib.hid (A1.out.trans (hb.mono A1.out.size));have HO2:=Lib.hid (HO1.out.next hb);clear hb)
 clear c0 c1 c2 c3 c4 c5 c6 c7 clt HWD HCH
 obtain ⟨c0,c1,c2,c3,c4,c5,c6,c7,-,-,-,-,-,-,-,-,-,-,-,-,clt⟩:=ocel HO2.out
 obtain ⟨t0,ht0⟩:∃ t,wordO o.kind=t:=⟨_,rfl⟩
 have z0:(str t0).size≤7:=by rw [str_size,← ht0];exact HWL.out
 have HT0:=Lib.hid (show t0=wordO o.kind from ht0.symm)
 rw [ht0]
 clear ht0
 go_upto_if 30 with fail
 go_cut [4] (fun s4 wx=>∃ t:Tx,s4=.string (str t)∧t.length≤30∧Aside (t=wordO o.kind++spc (fJ o)∧Below w.heap.size w wx∧OrdB wx w.heap.size o g))
 case first =>
  as_aux_lemma =>
   have HZ:=Lib.hid (show t0.length≤7 by rw [←str_size];exact z0)
   cases hj:hasJ o.kind with
   | true =>
    have hjb:=HOK.out.job1 hj
    have HF:=Lib.hid (show fJ o=[(jobW,txt o.job)] by unfold fJ;rw [if_pos hj])
    have d:decide (0 < o.job)=true:=decide_eq_true (by omega)
    have HTL:=Lib.hid (txt_len o.job)
    have y1:(str (txt o.job)).size≤13:=by rw [str_size];exact txt_len o.job
    rw [d]
    clear hj hjb d
    go_wp2_with (go_at_call 33;((with_reducible refine (dtext_any o.job _).mono ?_);rintro e w7 ⟨rfl,hb⟩);have A7:=Lib.hid (A2.out.trans (hb.mono A2.out.size));have HO7:=Lib.hid (HO2.out.next hb);clear hb)
    go_meet
    case rel=>exact ⟨t0++32::(jobW++61::txt o.job),(congrArg Value.string (add_str t0 jobW (txt o.job))),(by have:=HZ.out;have:=HTL.out;simp [jobW];omega),by rw [HF.out,HT0.out];rw [spc_one],A7.out,HO7.out⟩
   | false =>
    have hjb:=HOK.out.job0 hj
    have HF:=Lib.hid (show fJ o=[] by unfold fJ;rw [if_neg (by rw [hj];decide)])
    have d:decide (0 < o.job)=false:=decide_eq_false (by omega)
    rw [d]
    clear hj hjb d
    go_wp2
    go_meet
    case rel=>exact ⟨t0,rfl,(by have:=HZ.out;omega),by rw [HF.out,HT0.out];rw [spc_nil,List.append_nil],A2.out,HO2.out⟩
 case rest =>
 obtain ⟨t1,rfl,hl,hcut⟩:=hcut
 have HT1:=Lib.hid (show t1=wordO o.kind++spc (fJ o) from hcut.1)
 have A3:=Lib.hid (show Below w.heap.size w wc from hcut.2.1)
 have HO3:=Lib.hid (show OrdB wc w.heap.size o g from hcut.2.2)
 have z1:(str t1).size≤30:=by rw [str_size];exact hl
 clear hcut hl c0 c1 c2 c3 c4 c5 c6 c7 clt z0
 obtain ⟨c0,c1,c2,c3,c4,c5,c6,c7,-,-,-,-,-,-,-,-,-,-,-,-,clt⟩:=ocel HO3.out
 go_upto_if 44 with (go_at_call 34;((with_reducible refine (HMO.out _).mono ?_);rintro e w9 ⟨rfl,rfl⟩))
 go_cut [4] (fun s4 wx=>∃ t:Tx,s4=.string (str t)∧t.length≤50∧Aside (t=wordO o.kind++spc (fJ o)++spc (fN o)∧Below w.heap.size w wx∧OrdB wx w.heap.size o g))
 case first =>
  as_aux_lemma =>
   have HZ:=Lib.hid (show t1.length≤30 by rw [←str_size];exact z1)
   cases hj:hasN o.kind with
   | true =>
    have HF:=Lib.hid (show fN o=[(nK,txt o.n)] by unfold fN;rw [if_pos hj])
    have d:decide (0≤mostT o.kind)=true:=decide_eq_true (most_yes hj).2
    have HTL:=Lib.hid (txt_len o.n)
    have y1:(str (txt o.n)).size≤13:=by rw [str_size];exact txt_len o.n
    rw [d]
    clear hj d
    go_wp2_with (go_at_call 33;((with_reducible refine (dtext_any o.n _).mono ?_);rintro e w7 ⟨rfl,hb⟩);have A7:=Lib.hid (A3.out.trans (hb.mono A3.out.size));have HO7:=Lib.hid (HO3.out.next hb);clear hb)
    go_meet
    case rel=>exact ⟨t1++32::(nK++61::txt o.n),(congrArg Value.string (add_str t1 nK (txt o.n))),(by have:=HZ.out;have:=HTL.out;simp [nK];omega),by rw [HF.out,HT1.out];rw [spc_one],A7.out,HO7.out⟩
   | false =>
    have HF:=Lib.hid (show fN o=[] by unfold fN;rw [if_neg (by rw [hj];decide)])
    have d:decide (0≤mostT o.kind)=false:=decide_eq_false (by rw [(most_no hj).1];decide)
    rw [d]
    clear hj d
    go_wp2
    go_meet
    case rel=>exact ⟨t1,rfl,(by have:=HZ.out;omega),by rw [HF.out,HT1.out];rw [spc_nil,List.append_nil],A3.out,HO3.out⟩
 case rest =>
 obtain ⟨t2,rfl,hl,hcut⟩:=hcut
 have HT2:=Lib.hid (show t2=wordO o.kind++spc (fJ o)++spc (fN o) from hcut.1)
 have A4:=Lib.hid (show Below w.heap.size w wc from hcut.2.1)
 have HO4:=Lib.hid (show OrdB wc w.heap.size o g from hcut.2.2)
 have z2:(str t2).size≤50:=by rw [str_size];exact hl
 clear hcut hl c0 c1 c2 c3 c4 c5 c6 c7 clt z1
 obtain ⟨c0,c1,c2,c3,c4,c5,c6,c7,-,-,-,-,-,-,-,-,-,-,-,-,clt⟩:=ocel HO4.out
 go_upto_region 12 with fail
 go_cut [57] (fun s wx=>s=.bool (decide (o.kind=7) && o.yes)∧wc=wx)
 case first =>
  by_cases hk:o.kind=7
  ·have q:((o.kind:Int) == 7)=true:=by rw [hk];rfl
   have HQ:=Lib.hid (decide_eq_true hk)
   clear hk
   go_wp2
   go_meet
   case rel=>exact ⟨by rw [HQ.out];rfl,rfl⟩
  ·have q:((o.kind:Int) == 7)=false:=by rw [beq_eq_false_iff_ne];omega
   have HQ:=Lib.hid (decide_eq_false hk)
   clear hk
   go_wp2
   go_meet
   case rel=>exact ⟨by rw [HQ.out];rfl,rfl⟩
 case rest =>
 obtain ⟨rfl,rfl⟩:=hcut
 go_upto_if 57 with fail
 go_cut [4] (fun s4 wx=>∃ t:Tx,s4=.string (str t)∧t.length≤70∧Aside (t=wordO o.kind++spc (fJ o)++spc (fN o)++spc (fR o)∧Below w.heap.size w wx∧OrdB wx w.heap.size o g))
 case first =>
  as_aux_lemma =>
   have HZ:=Lib.hid (show t2.length≤50 by rw [←str_size];exact z2)
   by_cases h7:o.kind=7
   ·have q:((o.kind:Int) == 7)=true:=by rw [h7];rfl
    cases hy:o.yes with
    | true =>
     have HF:=Lib.hid (show fR o=[(resK,okW)] by unfold fR;rw [if_pos h7,hy];rfl)
     rw [decide_eq_true h7,Bool.true_and]
     clear h7 hy
     go_wp2
     go_meet
     case rel=>exact ⟨t2++32::(resK++61::okW),(congrArg Value.string (str_app t2 (32::(resK++61::okW)))),(by have:=HZ.out;simp [resK,okW,badW];omega),by rw [HF.out,HT2.out];rw [spc_one],A4.out,HO4.out⟩
    | false =>
     have HF:=Lib.hid (show fR o=[(resK,badW)] by unfold fR;rw [if_pos h7,hy];rfl)
     rw [decide_eq_true h7,Bool.true_and]
     clear h7 hy
     go_wp2
     go_meet
     case rel=>exact ⟨t2++32::(resK++61::badW),(congrArg Value.string (str_app t2 (32::(resK++61::badW)))),(by have:=HZ.out;simp [resK,okW,badW];omega),by rw [HF.out,HT2.out];rw [spc_one],A4.out,HO4.out⟩
   have q:((o.kind:Int) == 7)=false:=by rw [beq_eq_false_iff_ne];omega
   have HF:=Lib.hid (show fR o=[] by unfold fR;rw [if_neg h7])
   rw [decide_eq_false h7,Bool.false_and]
   clear h7
   go_wp2
   go_meet
   case rel=>exact ⟨t2,rfl,(by have:=HZ.out;omega),by rw [HF.out,HT2.out];rw [spc_nil,List.append_nil],A4.out,HO4.out⟩
 case rest =>
 obtain ⟨t3,rfl,hl,hcut⟩:=hcut
 have HT3:=Lib.hid (show t3=wordO o.kind++spc (fJ o)++spc (fN o)++spc (fR o) from hcut.1)
 have A5:=Lib.hid (show Below w.heap.size w wc from hcut.2.1)
 have HO5:=Lib.hid (show OrdB wc w.heap.size o g from hcut.2.2)
 have z3:(str t3).size≤70:=by rw [str_size];exact hl
 clear hcut hl c0 c1 c2 c3 c4 c5 c6 c7 clt z2
 obtain ⟨c0,c1,c2,c3,c4,c5,c6,c7,-,-,-,-,-,-,-,-,-,-,-,-,clt⟩:=ocel HO5.out
 go_upto_if 67 with fail
 go_cut [4] (fun s4 wx=>∃ t:Tx,s4=.string (str t)∧t.length≤150∧Aside (t=wordO o.kind++spc (fJ o)++spc (fN o)++spc (fR o)++spc (fU o)∧Below w.heap.size w wx∧OrdB wx w.heap.size o g))
 case first =>
  as_aux_lemma =>
   have HZ:=Lib.hid (show t3.length≤70 by rw [←str_size];exact z3)
   cases hj:hasU o.kind with
   | true =>
    have hb:=HOK.out.name1 hj
    have HF:=Lib.hid (show fU o=[(userK,o.user),(nameK,o.name)] by unfold fU;rw [if_pos hj])
    have hne:¬ o.user=[]:=fun e=>by (have:=hb.2;rw [e] at this;cases this)
    have r1:(!(str o.user).toList.isEmpty)=true:=by rw [str_toList,List.isEmpty_eq_false_iff.2 hne];rfl
    rw [r1]
    have y1:(str o.user).size≤32:=by rw [str_size];exact HLN.out.2.1
    have y2:(str o.name).size≤32:=by rw [str_size];exact HLN.out.1
    clear hj hb hne
    go_wp2
    go_meet
    case rel=>exact ⟨t3++(32::(userK++61::o.user))++32::(nameK++61::o.name),(congrArg Value.string (add_str2 t3 userK o.user nameK o.name)),(by have:=HZ.out;have:=HLN.out;simp [userK,nameK];omega),by rw [HF.out,HT3.out];rw [spc_two,List.append_assoc],A5.out,HO5.out⟩
   | false =>
    have HF:=Lib.hid (show fU o=[] by unfold fU;rw [if_neg (by rw [hj];decide)])
    have r1:(!(str o.user).toList.isEmpty)=false:=by rw [str_toList,(HOK.out.name0 hj).2];rfl
    rw [r1]
    clear hj
    go_wp2
    go_meet
    case rel=>exact ⟨t3,rfl,(by have:=HZ.out;omega),by rw [HF.out,HT3.out];rw [spc_nil,List.append_nil],A5.out,HO5.out⟩
 case rest =>
 obtain ⟨t4,rfl,hl,hcut⟩:=hcut
 have HT4:=Lib.hid (show t4=wordO o.kind++spc (fJ o)++spc (fN o)++spc (fR o)++spc (fU o) from hcut.1)
 have A6:=Lib.hid (show Below w.heap.size w wc from hcut.2.1)
 have HO6:=Lib.hid (show OrdB wc w.heap.size o g from hcut.2.2)
 have z4:(str t4).size≤150:=by rw [str_size];exact hl
 clear hcut hl c0 c1 c2 c3 c4 c5 c6 c7 clt z3
 obtain ⟨c0,c1,c2,c3,c4,c5,c6,c7,-,-,-,-,-,-,-,-,-,-,-,-,clt⟩:=ocel HO6.out
 go_upto_if 79 with fail
 go_cut [4] (fun s4 wx=>∃ t:Tx,s4=.string (str t)∧t.length≤180∧Aside (t=wordO o.kind++spc (fJ o)++spc (fN o)++spc (fR o)++spc (fU o)++spc (fC o)∧Below w.heap.size w wx∧OrdB wx w.heap.size o g))
 case first =>
  as_aux_lemma =>
   have HZ:=Lib.hid (show t4.length≤150 by rw [←str_size];exact z4)
   by_cases hj:o.kind=15
   ·have hb:=HOK.out.size1 hj
    have HF:=Lib.hid (show fC o=[(capK,stxt o.size)] by unfold fC;rw [if_pos hj])
    have d:decide (0 < o.size)=true:=decide_eq_true (by omega)
    have HTL:=Lib.hid (stxt_len o.size)
    have y1:(str (stxt o.size)).size≤16:=by rw [str_size];exact stxt_len o.size
    rw [d]
    clear hj hb d
    go_wp2_with (go_at_call 25;((with_reducible refine (dstext_any o.size _).mono ?_);rintro e w7 ⟨rfl,hb⟩);have A7:=Lib.hid (A6.out.trans (hb.mono A6.out.size));have HO7:=Lib.hid (HO6.out.next hb);clear hb)
    go_meet
    case rel=>exact ⟨t4++32::(capK++61::stxt o.size),(congrArg Value.string (add_str t4 capK (stxt o.size))),(by have:=HZ.out;have:=HTL.out;simp [capK];omega),by rw [HF.out,HT4.out];rw [spc_one],A7.out,HO7.out⟩
   have hb:=HOK.out.size0 hj
   have HF:=Lib.hid (show fC o=[] by unfold fC;rw [if_neg hj])
   have d:decide (0 < o.size)=false:=decide_eq_false (by omega)
   rw [d]
   clear hj hb d
   go_wp2
   go_meet
   case rel=>exact ⟨t4,rfl,(by have:=HZ.out;omega),by rw [HF.out,HT4.out];rw [spc_nil,List.append_nil],A6.out,HO6.out⟩
 case rest =>
 obtain ⟨t5,rfl,hl,hcut⟩:=hcut
 have HT5:=Lib.hid (show t5=wordO o.kind++spc (fJ o)++spc (fN o)++spc (fR o)++spc (fU o)++spc (fC o) from hcut.1)
 have A7:=Lib.hid (show Below w.heap.size w wc from hcut.2.1)
 have HO7:=Lib.hid (show OrdB wc w.heap.size o g from hcut.2.2)
 have z5:(str t5).size≤180:=by rw [str_size];exact hl
 clear hcut hl c0 c1 c2 c3 c4 c5 c6 c7 clt z4
 obtain ⟨c0,c1,c2,c3,c4,c5,c6,c7,-,-,-,-,-,-,-,-,-,-,-,-,clt⟩:=ocel HO7.out
 go_upto_if 88 with fail
 go_cut [4] (fun s4 wx=>∃ t:Tx,s4=.string (str t)∧t.length≤220∧Aside (t=wordO o.kind++spc (fJ o)++spc (fN o)++spc (fR o)++spc (fU o)++spc (fC o)++spc (fP o)∧Below w.heap.size w wx∧OrdB wx w.heap.size o g))
 case first =>
  as_aux_lemma =>
   have HZ:=Lib.hid (show t5.length≤180 by rw [←str_size];exact z5)
   cases hj:hasP o.kind with
   | true =>
    have hb:=HOK.out.pool1 hj
    have HF:=Lib.hid (show fP o=[(poolK,o.pool)] by unfold fP;rw [if_pos hj])
    have hne:¬ o.pool=[]:=fun e=>by (rw [e] at hb;cases hb)
    have r1:(!(str o.pool).toList.isEmpty)=true:=by rw [str_toList,List.isEmpty_eq_false_iff.2 hne];rfl
    rw [r1]
    have y1:(str o.pool).size≤32:=by rw [str_size];exact HLN.out.2.2
    clear hj hb hne
    go_wp2
    go_meet
    case rel=>exact ⟨t5++32::(poolK++61::o.pool),(congrArg Value.string (add_str t5 poolK o.pool)),(by have:=HZ.out;have:=HLN.out;simp [poolK];omega),by rw [HF.out,HT5.out];rw [spc_one],A7.out,HO7.out⟩
   | false =>
    have HF:=Lib.hid (show fP o=[] by unfold fP;rw [if_neg (by rw [hj];decide)])
    have r1:(!(str o.pool).toList.isEmpty)=false:=by rw [str_toList,(HOK.out.pool0 hj)];rfl
    rw [r1]
    clear hj
    go_wp2
    go_meet
    case rel=>exact ⟨t5,rfl,(by have:=HZ.out;omega),by rw [HF.out,HT5.out];rw [spc_nil,List.append_nil],A7.out,HO7.out⟩
 case rest =>
 obtain ⟨t6,rfl,hl,hcut⟩:=hcut
 have HT6:=Lib.hid (show t6=wordO o.kind++spc (fJ o)++spc (fN o)++spc (fR o)++spc (fU o)++spc (fC o)++spc (fP o) from hcut.1)
 have A8:=Lib.hid (show Below w.heap.size w wc from hcut.2.1)
 have HO8:=Lib.hid (show OrdB wc w.heap.size o g from hcut.2.2)
 have z6:(str t6).size≤220:=by rw [str_size];exact hl
 clear hcut hl c0 c1 c2 c3 c4 c5 c6 c7 clt z5
 obtain ⟨c0,c1,c2,c3,c4,c5,c6,c7,-,-,-,-,-,-,-,-,-,-,-,-,clt⟩:=ocel HO8.out
 go_upto_region 22 with fail
 go_cut [100] (fun s wx=>s=.bool (decide (o.kind=15) && o.yes)∧wc=wx)
 case first =>
  by_cases hk:o.kind=15
  ·have q:((o.kind:Int) == 15)=true:=by rw [hk];rfl
   have HQ:=Lib.hid (decide_eq_true hk)
   clear hk
   go_wp2
   go_meet
   case rel=>exact ⟨by rw [HQ.out];rfl,rfl⟩
  ·have q:((o.kind:Int) == 15)=false:=by rw [beq_eq_false_iff_ne];omega
   have HQ:=Lib.hid (decide_eq_false hk)
   clear hk
   go_wp2
   go_meet
   case rel=>exact ⟨by rw [HQ.out];rfl,rfl⟩
 case rest =>
 obtain ⟨rfl,rfl⟩:=hcut
 by_cases h7:o.kind=15
 ·have q:((o.kind:Int) == 15)=true:=by rw [h7];rfl
  cases hy:o.yes with
  | true =>
   have HF:=Lib.hid (show fA o=[(accK,pubV)] by unfold fA;rw [if_pos h7,hy];rfl)
   rw [decide_eq_true h7,Bool.true_and]
   clear h7 hy
   go_wp2
   go_ret2
   exact ⟨by rw [HE.out.1,HE.out.2,HTX.out,← HT6.out,HF.out,spc_one,← str_app];rfl,A8.out⟩
  | false =>
   have HF:=Lib.hid (show fA o=[(accK,priV)] by unfold fA;rw [if_pos h7,hy];rfl)
   rw [decide_eq_true h7,Bool.true_and]
   clear h7 hy
   go_wp2
   go_ret2
   exact ⟨by rw [HE.out.1,HE.out.2,HTX.out,← HT6.out,HF.out,spc_one,← str_app];rfl,A8.out⟩
 have q:((o.kind:Int) == 15)=false:=by rw [beq_eq_false_iff_ne];omega
 have HF:=Lib.hid (show fA o=[] by unfold fA;rw [if_neg h7])
 rw [decide_eq_false h7,Bool.false_and]
 clear h7
 go_wp2
 go_ret2
 exact ⟨by rw [HE.out.1,HE.out.2,HTX.out,← HT6.out,HF.out,spc_nil,List.append_nil];rfl,A8.out⟩
theorem dText_oth (o:Ord) (g:Gh) (w:World) (h:SR w o.slip g) (hW:SW o.slip) (hM:Mid o.slip) (hw:OW o) (hn:o.name.length≤100000∧o.pool.length≤100000∧o.user.length≤100000) (h2:o.kind≠2):Calls Tryz.prog 13 #[oV o g] w (OTextT o w):=by
 by_cases hc:chkO o=true
 ·exact dotext_oth o g w h hW hM hc h2
 ·exact dotext_no o g w h (fun X hX=>dCheck_oth o g X hX hW hM hw hn h2) hc
end Go.Proofs.YtekcjfdllclphaaGreatDoor.gn
end
