/- The document's word, most, job, value. (Written by gen_orV.py.) -/
import Derived.Test.YtekcjfdllclphaaGreatDoorMQbOrI
import Derived.Test.YtekcjfdllclphaaGreatDoorMQbOrE
import Derived.Test.YtekcjfdllclphaaGreatDoorMQbDiL
import Derived.Test.YtekcjfdllclphaaGreatDoorMQbSlCk
import Derived.Test.YtekcjfdllclphaaGreatDoorMQbOrC
import Derived.Test.YtekcjfdllclphaaGreatDoorMQbSlFr
import Derived.Test.YtekcjfdllclphaaGreatDoorMQbUnI
import Derived.Test.YtekcjfdllclphaaGreatDoorMQbOrK
import Derived.Test.YtekcjfdllclphaaGreatDoorMQbSlTx
set_option linter.unusedVariables false
set_option linter.unusedSimpArgs false
section
namespace Go.Proofs.YtekcjfdllclphaaGreatDoor.gn
open Go.RowKit
open Go.Proofs.YtekcjfdllclphaaGreatDoor.un
open Go.Proofs.YtekcjfdllclphaaGreatDoor.di
open Go.Proofs.YtekcjfdllclphaaGreatDoor.od (Ord wordO hasJ hasN hasU hasP lo hi)
def wordsV:Array Value:=#[.string { data:=#[] },.string { data:=#[116,105,99,107] },.string { data:=#[115,117,98,109,105,116] },.string { data:=#[99,97,110,99,101,108] },.string { data:=#[104,111,108,100] },.string { data:=#[114,101,108,101,97,115,101] },.string { data:=#[113,111,115] },.string { data:=#[101,110,100] },.string { data:=#[102,97,117,108,116] },.string { data:=#[102,97,105,108] },.string { data:=#[117,112] },.string { data:=#[100,114,97,105,110] },.string { data:=#[114,101,115,117,109,101] },.string { data:=#[99,108,111,115,101] },.string { data:=#[111,112,101,110] },.string { data:=#[109,97,107,101] },.string { data:=#[100,114,111,112] },.string { data:=#[115,116,97,116,117,115] },.string { data:=#[112,111,111,108] }]
theorem wordsV_at {k:Nat} (h:k < 19):wordsV[k]?=some (.string (str (wordO k))):=by
 rcases nineteen h with rfl | rfl | rfl | rfl | rfl | rfl | rfl | rfl | rfl | rfl | rfl | rfl | rfl | rfl | rfl | rfl | rfl | rfl | rfl <;> rfl
set_option maxRecDepth 100000 in
set_option maxHeartbeats 3200000 in
theorem dwordO_any (k:Nat) (hk:k≤255) (w:World):Calls Tryz.prog 21 #[.int .u8 (k:Nat)] w (Told (.string (str (wordO k))) w):=by
 obtain ⟨W,hW⟩:∃ W,w.alloc (.cells wordsV 9)=W:=⟨_,rfl⟩
 have hb:BoxA W w.heap.size 9 wordsV:=by rw [←hW];exact BoxA.new _ _ _
 have hl:Below w.heap.size w W:=by rw [←hW];exact (Below.refl _ _).alloc (Nat.le_refl _) _
 have HL:=Lib.hid hl
 have HW:=Lib.hid hW
 unfold wordsV at HW
 by_cases h19:k < 19
 ·have hc:W.cell? ⟨w.heap.size,k,none⟩=some (.string (str (wordO k))):=hb.cell k _ (wordsV_at h19)
  have hlt:=hb.lt
  generalize wordO k=x at *
  clear hb hl hW
  go_enter Tryz.func21,Tryz.ntmps21
  go_upto_region 2 with fail
  rw [HW.out]
  go_wp2
  go_ret
  exact ⟨rfl,HL.out⟩
 ·have hn:wordO k=[]:=(no_word (by omega)).1
  rw [hn]
  clear hb hl hW
  go_enter Tryz.func21,Tryz.ntmps21
  go_upto_region 2 with fail
  rw [HW.out]
  go_wp2
  go_ret
  exact ⟨rfl,HL.out⟩
def mostT (k:Nat):Int:=if k=1 then 1000 else if k=6 then 9 else if 9≤k∧k≤12 then 63 else -1
theorem most_yes {k:Nat} (h:hasN k=true):mostT k=hi k∧0≤mostT k:=by
 unfold hasN at h
 have h:=of_decide_eq_true h
 unfold mostT hi
 rcases h with rfl | rfl | h
 ·exact ⟨rfl,by decide⟩
 ·exact ⟨rfl,by decide⟩
 ·rw [if_neg (by omega),if_neg (by omega),if_pos h,if_neg (by omega),if_neg (by omega)]
  exact ⟨rfl,by decide⟩
theorem most_no {k:Nat} (h:hasN k=false):mostT k=-1∧lo k=0:=by
 unfold hasN at h
 have h:=of_decide_eq_false h
 unfold mostT lo
 rw [if_neg (by omega),if_neg (by omega),if_neg (by omega),if_neg (by omega)]
 exact ⟨rfl,rfl⟩
set_option maxRecDepth 100000 in
theorem dmostO_any (k:Nat) (hk:k≤255) (w:World):Calls Tryz.prog 34 #[.int .u8 (k:Nat)] w (fun e w'=>e=.returned (.tuple #[.int .i64 (lo k:Nat),.int .i64 (mostT k)])∧w=w'):=by
 by_cases h1:k=1
 ·subst h1
  go_enter Tryz.func34,Tryz.ntmps34
  go_wp2
  go_ret2
  exact ⟨rfl,rfl⟩
 have q1:((k:Int) == 1)=false:=by rw [beq_eq_false_iff_ne];omega
 by_cases h6:k=6
 ·subst h6
  go_enter Tryz.func34,Tryz.ntmps34
  go_wp2
  go_ret2
  exact ⟨rfl,rfl⟩
 have q6:((k:Int) == 6)=false:=by rw [beq_eq_false_iff_ne];omega
 have HLO:=Lib.hid (show lo k=0 by unfold lo;rw [if_neg h1])
 by_cases h9:9≤k
 ·by_cases h12:k≤12
  ·have HM:=Lib.hid (show mostT k=63 by unfold mostT;rw [if_neg h1,if_neg h6,if_pos ⟨h9,h12⟩])
   have d1:decide ((9:Int)≤(k:Int))=true:=decide_eq_true (by omega)
   have d2:decide ((k:Int)≤12)=true:=decide_eq_true (by omega)
   go_enter Tryz.func34,Tryz.ntmps34
   go_wp2
   go_ret2
   exact ⟨by rw [HM.out,HLO.out];rfl,rfl⟩
  ·have HM:=Lib.hid (show mostT k=-1 by unfold mostT;rw [if_neg h1,if_neg h6,if_neg (by omega)])
   have d1:decide ((9:Int)≤(k:Int))=true:=decide_eq_true (by omega)
   have d2:decide ((k:Int)≤12)=false:=decide_eq_false (by omega)
   go_enter Tryz.func34,Tryz.ntmps34
   go_wp2
   go_ret2
   exact ⟨by rw [HM.out,HLO.out];rfl,rfl⟩
 ·have HM:=Lib.hid (show mostT k=-1 by unfold mostT;rw [if_neg h1,if_neg h6,if_neg (by omega)])
  have d1:decide ((9:Int)≤(k:Int))=false:=decide_eq_false (by omega)
  go_enter Tryz.func34,Tryz.ntmps34
  go_wp2
  go_ret2
  exact ⟨by rw [HM.out,HLO.out];rfl,rfl⟩
set_option maxRecDepth 100000 in
theorem djobO_any (k:Nat) (hk:k≤255) (w:World):Calls Tryz.prog 54 #[.int .u8 (k:Nat)] w (fun e w'=>e=.returned (.bool (hasJ k))∧w=w'):=by
 by_cases h3:3≤k
 ·by_cases h8:k≤8
  ·have HJ:=Lib.hid (show hasJ k=true from decide_eq_true (.inl ⟨h3,h8⟩))
   have d1:decide ((3:Int)≤(k:Int))=true:=decide_eq_true (by omega)
   have d2:decide ((k:Int)≤8)=true:=decide_eq_true (by omega)
   go_enter Tryz.func54,Tryz.ntmps54
   go_wp2
   go_ret
   exact ⟨by rw [HJ.out];rfl,rfl⟩
  ·have d1:decide ((3:Int)≤(k:Int))=true:=decide_eq_true (by omega)
   have d2:decide ((k:Int)≤8)=false:=decide_eq_false (by omega)
   by_cases h17:k=17
   ·subst h17
    go_enter Tryz.func54,Tryz.ntmps54
    go_wp2
    go_ret
    exact ⟨rfl,rfl⟩
   ·have q1:((k:Int) == 17)=false:=by rw [beq_eq_false_iff_ne];omega
    have HJ:=Lib.hid (show hasJ k=false from decide_eq_false (by omega))
    go_enter Tryz.func54,Tryz.ntmps54
    go_wp2
    go_ret
    exact ⟨by rw [HJ.out];rfl,rfl⟩
 ·have d1:decide ((3:Int)≤(k:Int))=false:=decide_eq_false (by omega)
  have q1:((k:Int) == 17)=false:=by rw [beq_eq_false_iff_ne];omega
  have HJ:=Lib.hid (show hasJ k=false from decide_eq_false (by omega))
  go_enter Tryz.func54,Tryz.ntmps54
  go_wp2
  go_ret
  exact ⟨by rw [HJ.out];rfl,rfl⟩
def valV (x:Tx):Value:=match cut x with
 | some f=>.tuple #[.string (str f.2),.bool true]
 | none=>.tuple #[.string (str []),.bool false]
theorem cut_key {x:Tx} {f:Tx × Tx} (h:cut x=some f):x.takeWhile (fun c=>c≠61)=f.1:=by
 obtain ⟨h1,h2⟩:=cut_some x f.1 f.2 h
 rw [h1,List.takeWhile_append_of_pos (fun c hc=>by simp;intro e;exact h2 (e ▸ hc))]
 simp
theorem key_none {x:Tx} (h:cut x=none):x.takeWhile (fun c=>c≠61)=x:=by
 have:=cut_none x h
 have h2:=List.takeWhile_append_of_pos (l₁:=x) (l₂:=[]) (p:=fun c:UInt8=>decide (c≠61)) (fun c hc=>by simp;intro e;exact this (e ▸ hc))
 simpa using h2
theorem str_idx (a b:Tx):∃ h:(str a).size < (str (a++61::b)).size,((str (a++61::b))[(str a).size]'h)=61:=by
 refine ⟨by rw [str_size,str_size];simp,?_⟩
 have h1:=str_size a
 show (a++61::b).toArray[(str a).size]'_=61
 simp [h1]
set_option maxRecDepth 100000 in
set_option maxHeartbeats 3200000 in
theorem dvalue_any (x:Tx) (hx:x.length≤100000) (w:World):Calls Tryz.prog 22 #[.string (str x),.string (str (x.takeWhile (fun c=>c≠61)))] w (Told (valV x) w):=by
 cases hc:cut x with
 | none =>
  have HV:=Lib.hid (show valV x=.tuple #[.string (str []),.bool false] by unfold valV;rw [hc])
  rw [key_none hc]
  have hz:(str x).size≤100000:=by rw [str_size];exact hx
  generalize str x=X at *
  have d1:decide ((X.size:Int) < (X.size:Int)+1)=true:=decide_eq_true (by omega)
  clear hc
  go_enter Tryz.func22,Tryz.ntmps22
  go_wp2
  go_ret2
  exact ⟨by rw [HV.out];rfl,Below.refl _ _⟩
 | some f =>
  obtain ⟨a,b⟩:=f
  have HV:=Lib.hid (show valV x=.tuple #[.string (str b),.bool true] by unfold valV;rw [hc])
  rw [cut_key hc]
  obtain ⟨rfl,-⟩:=cut_some x a b hc
  dsimp only
  have hz:(str a).size+1≤(str (a++61::b)).size:=by rw [str_size,str_size];simp
  have hz2:(str (a++61::b)).size≤100000:=by rw [str_size];exact hx
  have q1:(((str (a++61::b)).extract 0 (str a).size).toList == (str a).toList)=true:=by rw [str_size,str_take];simp
  obtain ⟨q0,q2⟩:=str_idx a b
  have HR:=Lib.hid (show (str (a++61::b)).extract ((str a).size+1) (str (a++61::b)).size=str b by rw [str_drop,str_size];simp)
  generalize str (a++61::b)=X at *
  generalize str a=A at *
  have d1:decide ((X.size:Int) < (A.size:Int)+1)=false:=decide_eq_false (by omega)
  have d2:(((X[A.size]'q0).toNat:Int) != 61)=false:=by rw [q2];rfl
  clear hc hx
  go_enter Tryz.func22,Tryz.ntmps22
  go_wp2
  go_ret2
  exact ⟨by rw [HV.out,← HR.out];rfl,Below.refl _ _⟩
end Go.Proofs.YtekcjfdllclphaaGreatDoor.gn
end
section
namespace Go.Proofs.YtekcjfdllclphaaGreatDoor.gn
open Go.RowKit
open Go.Proofs.YtekcjfdllclphaaGreatDoor.un
open Go.Proofs.YtekcjfdllclphaaGreatDoor.di
open Go.Proofs.YtekcjfdllclphaaGreatDoor.sp (Slip chkS chkS_iff txtS txtS_len)
open Go.Proofs.YtekcjfdllclphaaGreatDoor.od (Ord OkO okO stO fsO keysO chkO chkO_iff txtO pfO pfO_zero pfO_succ pfO_all wordO fs_len)
def oT (o:Ord):Tx:=if chkO o=true then txtO o else []
def OTextT (o:Ord) (w:World):Ending→World→Prop:=Told (.tuple #[.string (str (oT o)),.int .i64 (oE o)]) w
theorem sp_str (t k v:Tx):str t++((({ data:=#[32] }:ByteArray)++str k++{ data:=#[61] })++str v)=str (t++32::(k++61::v)):=by
 show str t++(str [32]++str k++str [61]++str v)=_
 rw [str_app,str_app,str_app,str_app]
 simp
theorem OW_ok {o:Ord} (h:OkO o):OW o:=by
 have hj:-9223372036854775808≤o.job∧o.job≤9223372036854775807:=by
  cases hh:od.hasJ o.kind with
  | true=>have:=h.job1 hh;omega
  | false=>have:=h.job0 hh;omega
 have hn:-9223372036854775808≤o.n∧o.n≤9223372036854775807:=by
  cases hh:od.hasN o.kind with
  | true=>have:=h.n1 hh;have:=od.hi_top o.kind;omega
  | false=>have:=h.n0 hh;omega
 have hs:-9223372036854775808≤o.size∧o.size≤9223372036854775807:=by
  by_cases hh:o.kind=15
  ·have:=h.size1 hh;omega
  ·have:=h.size0 hh;omega
 have hu:o.name.length≤32∧o.user.length≤32:=by
  cases hh:od.hasU o.kind with
  | true=>exact ⟨name_len (h.name1 hh).1,name_len (h.name1 hh).2⟩
  | false=>rw [(h.name0 hh).1,(h.name0 hh).2];exact ⟨Nat.zero_le _,Nat.zero_le _⟩
 have hp:o.pool.length≤32:=by
  cases hh:od.hasP o.kind with
  | true=>exact name_len (h.pool1 hh)
  | false=>rw [h.pool0 hh];exact Nat.zero_le _
 exact ⟨hj,hn,hs,by omega,by omega,by omega,by have:=h.kind;omega⟩
set_option maxRecDepth 100000 in
set_option maxHeartbeats 8000000 in
theorem otext_no (o:Ord) (g:Gh) (w:World) (h:SR w o.slip g) (hW:SW o.slip) (hw:OW o) (hL:LaidD w) (hx:¬ chkO o=true):Calls Tryz.prog 12 #[oV o g] w (OTextT o w):=by
 have HE:=Lib.hid (show oE o=160∧oT o=[] by unfold oE oT;rw [if_neg hx,if_neg hx];exact ⟨rfl,rfl⟩)
 obtain ⟨wb,hwb⟩:∃ wb,w.alloc (.cells (ocs o g) 29)=wb:=⟨_,rfl⟩
 have hob:OrdB wb w.heap.size o g:=by rw [←hwb];exact BoxA.new _ _ _
 have hB1:Below w.heap.size w wb:=by rw [←hwb];exact (Below.refl _ _).alloc (Nat.le_refl _) _
 have HB1:=Lib.hid hB1
 have HWB:=Lib.hid hwb
 have HOB:=Lib.hid hob
 have HCH:=Lib.hid (Check_ord o g wb (h.next hB1) hW hw (hL.next hB1))
 rw [HE.out.1] at HCH
 unfold oV at HCH
 clear h hW hw hL hx hB1 hwb hob
 go_enter Tryz.func12,Tryz.ntmps12
 apply wp_seq_k
 intro K hK
 apply wp_region_lit
 refine Great.wpList_boxTo rfl _ _ rfl _ rfl w.heap.size rfl (ocs o g) rfl ?_
 rw [HWB.out]
 go_wp2_with (first
  | (refine wpList_load_row rfl _ _ rfl w.heap.size rfl _ _ _ _ HOB.out Tryz.underlying29 rfl (by kernel_rfl) ?_)
  | (go_at_call 14;((with_reducible refine HCH.out.mono ?_);rintro e w1 ⟨rfl,hb⟩);have A1:=Lib.hid hb;clear hb))
 go_ret2
 exact ⟨by rw [HE.out.1,HE.out.2];rfl,HB1.out.trans (A1.out.mono HB1.out.size)⟩
structure TS (w:World) (B:Nat) (o:Ord) (g:Gh) (v:Value) (L:List FE) (i:Nat) (t:Tx) (W:World):Prop where
 tx:t=pfO o i
 own:W.ownsRow B 67 3 v L.length (flF L)
 ob:OrdB W w.heap.size o g
 low:Below w.heap.size w W
theorem TS.next {w W W':World} {B:Nat} {o:Ord} {g:Gh} {v:Value} {L:List FE} {i:Nat} {t:Tx} (h:TS w B o g v L i t W) (hb:Below W.heap.size W W'):TS w B o g v L i t W' :=
 ⟨h.tx,own_same h.own fun b hb2=>hb.block b (World.ownsRow.lt h.own b hb2).2,h.ob.next hb,h.low.trans (hb.mono h.low.size)⟩
set_option maxRecDepth 100000 in
set_option maxHeartbeats 16000000 in
theorem otext_yes (o:Ord) (g:Gh) (w:World) (h:SR w o.slip g) (hW:SW o.slip) (hL:LaidD w) (hc:chkO o=true):Calls Tryz.prog 12 #[oV o g] w (OTextT o w):=by
 have HE:=Lib.hid (show oE o=0∧oT o=txtO o by unfold oE oT;rw [if_pos hc,if_pos hc];exact ⟨rfl,rfl⟩)
 have hok:=(chkO_iff o).1 hc
 have hw:=OW_ok hok
 have HOK:=Lib.hid hok
 have HKD:=Lib.hid hok.kind
 obtain ⟨wb,hwb⟩:∃ wb,w.alloc (.cells (ocs o g) 29)=wb:=⟨_,rfl⟩
 have hob:OrdB wb w.heap.size o g:=by rw [←hwb];exact BoxA.new _ _ _
 have hB1:Below w.heap.size w wb:=by rw [←hwb];exact (Below.refl _ _).alloc (Nat.le_refl _) _
 have HB1:=Lib.hid hB1
 have HWB:=Lib.hid hwb
 have HOB:=Lib.hid hob
 have HL:=Lib.hid (fun (X:World) (hb:Below w.heap.size w X)=>hL.next hb)
 have HSR:=Lib.hid (fun (X:World) (hb:Below w.heap.size w X)=>h.next hb)
 have HOW:=Lib.hid hw
 have HSW:=Lib.hid hW
 have HCH:=Lib.hid (Check_ord o g wb (h.next hB1) hW hw (hL.next hB1))
 have HF:=Lib.hid (fun (X:World)=>ofind_any o.kind hw.kind X)
 unfold FindO rowV2 at HF
 rw [decide_eq_true hok.kind] at HF
 rw [HE.out.1] at HCH
 unfold oV at HCH
 have hpl:=(od.word_plain hok.kind).2.2
 clear h hW hw hL hc hB1 hwb hob hok
 go_enter Tryz.func12,Tryz.ntmps12
 apply wp_seq_k
 intro K hK
 apply wp_region_lit
 refine Great.wpList_boxTo rfl _ _ rfl _ rfl w.heap.size rfl (ocs o g) rfl ?_
 rw [HWB.out]
 go_upto_region 3 with (first
  | (refine wpList_load_row rfl _ _ rfl w.heap.size rfl _ _ _ _ HOB.out Tryz.underlying29 rfl (by kernel_rfl) ?_)
  | (go_at_call 14;((with_reducible refine HCH.out.mono ?_);rintro e w1 ⟨rfl,hb⟩);have A1:=Lib.hid hb;have HO1:=Lib.hid (HOB.out.next hb);have hlt:=HO1.out.lt;have c0:w1.cell? ⟨w.heap.size,0,none⟩=some (.int .u8 (o.kind:Nat)):=BoxA.cell HO1.out 0 _;clear hb))
 go_upto_region 4 with (first
  | (go_at_call 28;((with_reducible refine (HF.out _).mono ?_);rintro e w2 ⟨rfl,hb⟩);have A2:=Lib.hid hb;clear hb)
  | (refine wpList_store_row rfl _ _ _ rfl w2.heap.size #[.string (str (wordO o.kind)),.string (str (lettersO o.kind))] rfl rfl _ _ (BoxA.new w2 _ _) (by kernel_rfl) rfl (by kernel_rfl) ?_))
 obtain ⟨w3,hw3,hrow,hl3⟩:=box_end w2 #[.string { data:=#[] },.string { data:=#[] }] #[.string (str (wordO o.kind)),.string (str (lettersO o.kind))] 60
 rw [hw3]
 have HO3:=Lib.hid ((HO1.out.next A2.out).next hl3)
 have HLOW3:=Lib.hid ((HB1.out.trans (A1.out.mono HB1.out.size)).trans ((A2.out.trans (hl3.mono A2.out.size)).mono (Nat.le_trans HB1.out.size A1.out.size)))
 have r0:=hrow.cell 0 _
 have rl:=hrow.lt
 clear hw3 hrow hl3 c0 hlt
 generalize w2.heap.size=R at *
 have HF1:=Lib.hid (ofields_any w.heap.size o g w3 HO3.out HOW.out (HL.out _ HLOW3.out).u)
 unfold FieldsT at HF1
 go_upto_region 6 with (go_at_call 29;((with_reducible refine HF1.out.mono ?_);rintro e w4 ⟨v,L,rfl,hfl,hown,hb⟩);obtain ⟨p,c,hv⟩:=(RdC.form (ApC.rdc (.inr hown)));have HM:=Lib.hid hfl.map;have HTS0:=Lib.hid (show TS w w3.heap.size o g v L 0 (wordO o.kind) w4 from ⟨(pfO_zero o).symm,hown,HO3.out.next hb,HLOW3.out.trans (hb.mono HLOW3.out.size)⟩);subst hv;clear hfl hown hb)
 obtain ⟨n,hn⟩:∃ n,L.length=n:=⟨_,rfl⟩
 have HN:=Lib.hid hn
 have hn5:n≤8:=by
  have:=od.fs_count o
  rw [←HM.out,List.length_map] at this
  omega
 rw [hn] at HTS0 ⊢
 clear hn r0 rl
 go_loopw [6,24] (fun s6 s24 W=>∃ (i:Nat) (t:Tx),s6=.string (str t)∧s24=.int .i64 (i:Int)∧i≤n∧t.length≤7+46 * i∧Aside (TS w w3.heap.size o g (.slice p n c) L i t W)) (fun _ s24 _=>n - (intOf s24).toNat)
 case atStart=>exact ⟨0,_,rfl,rfl,Nat.zero_le _,by omega,HTS0.out⟩
 case round =>
  obtain ⟨i,t,rfl,rfl,hi,htl,hts⟩:=hrel
  have HR:=Lib.hid (show TS w w3.heap.size o g (.slice p n c) L i t wr from hts)
  have e1:(str t).size≤500:=by rw [str_size];omega
  clear hts HTS0
  by_cases hin:i < n
  ·have hrd:=ApC.rdc (.inr HR.out.own)
   rw [HN.out] at hrd
   obtain ⟨b,off,hp,hb,hcc⟩:=RdC.at_ (size:=3) hrd rfl (by omega)
   subst hp
   obtain ⟨f,hf⟩:∃ f,L[i]?=some f:=⟨_,List.getElem?_eq_getElem (by rw [HN.out];exact hin)⟩
   obtain ⟨y0,y1,y2⟩:=cellF hcc hf
   have hat:(fsO o)[i]?=some (f.key,f.text):=by rw [←HM.out,List.getElem?_map,hf];rfl
   have HPS:=Lib.hid (pfO_succ hat)
   have hlf:=fs_len HOK.out (List.mem_of_getElem? hat)
   have hle:f.key.length+1+f.text.length≤45:=by
    have e:(di.wtx (f.key,f.text)).length=f.key.length+1+f.text.length:=by
     show (f.key++61::f.text).length=_
     rw [List.length_append,List.length_cons];omega
    rw [←e];exact hlf
   clear hrd hcc hf hat hlf
   obtain ⟨key,tx,fn,cp⟩:=f
   dsimp only at y0 y1 y2 HPS hle
   have HLE:=Lib.hid hle
   have e2:(str key).size≤45:=by rw [str_size];omega
   have e3:(str tx).size≤45:=by rw [str_size];omega
   go_upto_region 8 with (refine wpList_store_row rfl _ _ _ rfl wr.heap.size #[.string (str key),.string (str tx),.func (.func fn) #[] cp] rfl rfl _ _ (BoxA.new wr _ _) (by kernel_rfl) rfl (by kernel_rfl) ?_)
   obtain ⟨w5,hw5,hD,hb4⟩:=box_end wr #[.string { data:=#[] },.string { data:=#[] },.nilFunc] #[.string (str key),.string (str tx),.func (.func fn) #[] cp] 67
   rw [hw5]
   have HR5:=Lib.hid (HR.out.next hb4)
   generalize wr.heap.size=bd at *
   have z0:=hD.cell 0 _
   have z1:=hD.cell 1 _
   have zl:=hD.lt
   clear hw5 hD hb4 y0 y1 y2 hb
   go_wp2
   go_roundw
   case rel=>exact ⟨i+1,t++32::(key++61::tx),by rw [←sp_str],by go_num,by omega,by have:=HLE.out;simp;omega,⟨by rw [HPS.out,← HR5.out.tx];rfl,HR5.out.own,HR5.out.ob,HR5.out.low⟩⟩
   case measure=>simp [intOf];omega
  ·obtain rfl:i=n:=by omega
   have htx:=HR.out.tx
   have hnf:(fsO o).length=i:=by rw [←HM.out,List.length_map,HN.out]
   rw [←hnf] at htx
   have HTX:=Lib.hid htx
   have c0:wr.cell? ⟨w.heap.size,0,none⟩=some (.int .u8 (o.kind:Nat)):=BoxA.cell HR.out.ob 0 _
   have hlt:=HR.out.ob.lt
   by_cases h2:o.kind=2
   ·have HTO:=Lib.hid ((pfO_all (o:=o)).1 h2)
    have hsl:=HOK.out.slip1 h2
    have HCHK:=Lib.hid ((chkS_iff _).2 hsl)
    obtain ⟨-,-,-,-,-,-,-,-,t8,t9,t10,t11,t12,t13,t14,t15,t16,t17,t18,t19,-⟩:=ocel HR.out.ob
    have HST:=Lib.hid (sText_any o.slip g wr (HSR.out _ HR.out.low) HSW.out (HL.out _ HR.out.low))
    unfold STextT at HST
    rw [show tS o.slip=txtS o.slip by unfold tS;rw [if_pos HCHK.out],show sE o.slip=0 by unfold sE;rw [if_pos HCHK.out]] at HST
    have e4:(str (txtS o.slip)).size≤6000:=by rw [str_size];have:=txtS_len hsl;omega
    rw [h2] at c0
    obtain ⟨va,vm,vd,vu⟩:=g
    unfold sV scs at HST
    dsimp only at HST t8 t9 t10 t11 t12 t13 t14 t15 t16 t17 t18 t19
    clear htx hnf hsl h2
    generalize txtS o.slip=ts at *
    go_wp2_with (go_at_call 30;((with_reducible refine HST.out.mono ?_);rintro e w8 ⟨rfl,hb⟩);have A8:=Lib.hid hb;clear hb)
    go_ret2
    exact ⟨by rw [HE.out.1,HE.out.2,HTO.out,← HTX.out,← lf_str];rfl,HR.out.low.trans (A8.out.mono HR.out.low.size)⟩
   ·have HTO:=Lib.hid ((pfO_all (o:=o)).2 h2)
    have q2:((o.kind:Int) == 2)=false:=by rw [beq_eq_false_iff_ne];omega
    have q3:¬ o.kind=2:=h2
    clear htx hnf h2
    go_wp2
    go_ret2
    exact ⟨by rw [HE.out.1,HE.out.2,HTO.out,← HTX.out];rfl,HR.out.low⟩
theorem Text_ord (o:Ord) (g:Gh) (w:World) (h:SR w o.slip g) (hW:SW o.slip) (hw:OW o) (hL:LaidD w):Calls Tryz.prog 12 #[oV o g] w (OTextT o w):=by
 by_cases hc:chkO o=true
 ·exact otext_yes o g w h hW hL hc
 ·exact otext_no o g w h hW hw hL hc
end Go.Proofs.YtekcjfdllclphaaGreatDoor.gn
end
