/- The contract of the reader's job. -/
import Derived.Test.YtekcjfdllclphaaGreatDoorMQbOrO
set_option linter.unusedVariables false
set_option linter.unusedSimpArgs false
section
namespace Go.Proofs.YtekcjfdllclphaaGreatDoor.gn
open Go.RowKit
open Go.Proofs.YtekcjfdllclphaaGreatDoor.un
open Go.Proofs.YtekcjfdllclphaaGreatDoor.di
open Go.Proofs.YtekcjfdllclphaaGreatDoor.sp (Slip cuts cutB within? dep? fput frun first? userK nodesK wallK qosK afterK okW anyW jobW pput pline pread chkS Ok shortP soundP waitsP storedP apartP dirsP dropD useD capD innD outD txtS line1 dirsS sread fldB fldB_len cutB_lib cuts_len cuts_mem_len countB_cuts splitB_cuts cuts_ne)
theorem get_empty (L:List (Tx × Value)):(∀ j,fi.get j L=none)↔L.length=0:=by
 constructor
 ·intro h
  cases L with
  | nil=>rfl
  | cons a r =>
   have:=h a.1
   unfold fi.get at this
   simp at this
 ·intro h j
  have:L=[]:=List.eq_nil_of_length_eq_zero h
  subst this
  rfl
theorem left_none {R:Nat} {seen:List Tx} {L:List (Tx × Value)} (hg:∀ j,fi.get j L=if j=afterK∨j=qosK then none else if j∈seen then none else mth R j):L.length=0↔userK∈seen∧nodesK∈seen∧wallK∈seen:=by
 rw [←get_empty]
 constructor
 ·intro h
  have key:∀ j,¬ (j=afterK∨j=qosK)→mth R j≠none→j∈seen:=fun j h1 h2=>by
   have:=h j
   rw [hg,if_neg h1] at this
   by_cases h3:j∈seen
   ·exact h3
   ·rw [if_neg h3] at this;exact absurd this h2
  refine ⟨key _ (by decide) ?_,key _ (by decide) ?_,key _ (by decide) ?_⟩
  ·unfold mth
   rw [if_neg (by decide),if_neg (by decide),if_neg (by decide),if_neg (by decide),if_pos rfl]
   exact Option.some_ne_none _
  ·unfold mth
   rw [if_neg (by decide),if_neg (by decide),if_neg (by decide),if_pos rfl]
   exact Option.some_ne_none _
  ·unfold mth
   rw [if_neg (by decide),if_neg (by decide),if_pos rfl]
   exact Option.some_ne_none _
 ·rintro ⟨h1,h2,h3⟩ j
  rw [hg]
  by_cases h4:j=afterK∨j=qosK
  ·rw [if_pos h4]
  rw [if_neg h4]
  by_cases h5:j∈seen
  ·rw [if_pos h5]
  rw [if_neg h5]
  unfold mth
  rw [if_neg (fun h=>h4 (.inl h)),if_neg (fun h=>h4 (.inr h)),if_neg (fun e=>h5 (by rw [e];exact h3)),if_neg (fun e=>h5 (by rw [e];exact h2)),if_neg (fun e=>h5 (by rw [e];exact h1))]
theorem zeroFn (W:World):(zeroValue 111).run Tryz.prog W=.ok .nilFunc W:=by kernel_rfl
def JobT (R:Nat) (g:Gh) (l:Tx) (line:Int) (w:World) (e:Ending) (w':World):Prop:=StoT2 R g (first? l) line w e w'
theorem JobT.no {R:Nat} {g:Gh} {l:Tx} {line:Int} {w w':World} (h:first? l=none) (hb:Lk R g w w'):JobT R g l line w (.panicked (pnc 150 line)) w':=by
 unfold JobT
 rw [h]
 exact ⟨rfl,hb⟩
set_option maxRecDepth 100000 in
set_option maxHeartbeats 16000000 in
theorem job_any {w:World} {R:Nat} {line:Int} {g:Gh} (h:Rdr w R Slip.zero line g) (l:Tx) (hl:l.length≤20000) (hL:LaidB R w) :
  Calls Tryz.prog 67 #[.pointer (some ⟨R,0,none⟩),.string (str l)] w (JobT R g l line w):=by
 have HR:=Lib.hid h
 have hRw:=h.box.lt
 have HLB:=Lib.hid hL
 have HSP:=Lib.hid (split_c 32 l (by omega) w hL.here)
 have hll:=cuts_mem_len 32 l
 have hnl:=cuts_len 32 l
 cases hc:cuts 32 l with
 | nil=>exact absurd hc (cuts_ne 32 l)
 | cons j ws =>
 have HC:=Lib.hid hc
 rw [hc] at HSP hll hnl
 obtain ⟨n,hn⟩:∃ n,ws.length=n:=⟨_,rfl⟩
 rw [List.length_cons,hn] at HSP hnl
 have HNL:=Lib.hid hn
 have HLL:=Lib.hid hll
 have hn2:n≤20001:=by omega
 have HLX:=Lib.hid hl
 clear h hL hn hnl hll hc hl
 by_cases hj:j=jobW
 ·have HW:=Lib.hid (show cuts 32 l=jobW::ws by rw [HC.out,hj])
  obtain ⟨q1,q2⟩:=lit_yes hj
  unfold jobW at q1 q2
  clear hj
  go_enter Tryz.func67,Tryz.ntmps67
  go_upto_region 1 with (go_at_call 107;((with_reducible refine HSP.out.mono ?_);rintro e w1 ⟨rfl,hp,hb⟩);have HP:=Lib.hid hp;have HB:=Lib.hid hb;clear hp hb)
  have c0:=HP.out.2 0 j rfl
  rw [Nat.zero_add] at c0
  have hpz:w.heap.size < w1.heap.size:=HP.out.1
  have HMY:=Lib.hid (fun (W:World) (hb:Below w1.heap.size w1 W)=>must_yes ((HR.out.next HB.out).next hb))
  obtain ⟨o,hpo,hsl⟩:=slice_one (nl:=n+1) (HP.out.drop 1) (by rw [Nat.add_sub_cancel];exact HNL.out.symm) (by omega)
  rw [Nat.add_sub_cancel] at hsl
  have HPO:=Lib.hid (show Prts w1 w.heap.size o ws from hpo)
  have hlt0:(0:Int) < (n:Int)+1:=by omega
  clear HSP hpo
  go_upto_region 3 with (first
   | (go_at_call 70;((with_reducible refine (HMY.out _ (Below.refl _ _)).mono ?_);rintro e w2 ⟨rfl,rfl⟩))
   | (go_at_call 108;((with_reducible refine (fields_any R _).mono ?_);rintro e w3 ⟨Lm,rfl,hm,hg,hb⟩);have HM:=Lib.hid hm;have HG:=Lib.hid hg;have HB3:=Lib.hid hb;clear hm hg hb))
  have HS0:=Lib.hid (show JbS w w.heap.size o w1.heap.size R line g ws 0 Slip.zero [] g Lm w3 from
   ⟨rfl,(HR.out.next HB.out).next HB3.out,(Kp.of g HB.out (Nat.le_of_lt hRw)).trans (Kp.of g HB3.out (Nat.le_trans (Nat.le_of_lt hRw) HB.out.size)),HPO.out.next HB3.out,fun hm=>by have:=(HR.out.lM hm).2.1;omega,HM.out,fun j=>by rw [HG.out];rfl,
    fun hm=>by have:=(HR.out.lM hm).2.1;omega,by omega,fun _=>rfl,Nat.le_of_lt hpz,hRw⟩)
  clear HMY HM HG HB3 HPO HP HB c0 q1 q2
  generalize w1.heap.size=mB at *
  generalize w.heap.size=pB at *
  clear hpz
  go_upto_region 4 with fail
  go_loopw [26] (fun s26 W=>∃ (k:Nat) (y:Slip) (seen:List Tx) (g':Gh) (L:List (Tx × Value)),s26=.int .i64 k∧k≤n∧Aside (JbS w pB o mB R line g ws k y seen g' L W)) (fun s26 _=>n - (intOf s26).toNat)
  case atStart=>exact ⟨0,_,_,_,_,rfl,Nat.zero_le _,HS0.out⟩
  case round =>
   clear HS0
   obtain ⟨k,y,seen,g',L,rfl,hk,hst⟩:=hrel
   have HA:=Lib.hid (show JbS w pB o mB R line g ws k y seen g' L wr from hst)
   clear hst
   have hRz:R < wr.heap.size:=HA.out.r.box.lt
   have HLD:=Lib.hid (HLB.out.next HA.out.kp.low)
   by_cases hkn:k < n
   ·have hkl:k < ws.length:=by rw [HNL.out];exact hkn
    obtain ⟨x,hx⟩:∃ x,ws[k]?=some x:=⟨_,List.getElem?_eq_getElem hkl⟩
    have hc0:=HA.out.p.2 k x hx
    have hpz:pB < wr.heap.size:=HA.out.p.1
    have hxl:x.length≤20000:=Nat.le_trans (HLL.out x (List.mem_cons_of_mem _ (List.mem_of_getElem? hx))) HLX.out
    obtain ⟨kl1,kl2⟩:=fld_len x
    have HKW:=Lib.hid (show ∀ kv,cut x=some kv→fld x=kv from fun kv h=>by unfold fld;rw [h];rfl)
    obtain ⟨key,hkey⟩:∃ key,(fld x).1=key:=⟨_,rfl⟩
    obtain ⟨v,hv⟩:∃ v,(fld x).2=v:=⟨_,rfl⟩
    have HKV:=Lib.hid (show fld x=(key,v) by rw [←hkey,← hv])
    have HCUT:=Lib.hid (show Calls Tryz.prog 16 #[.string (str x),.string { data:=#[61] }] wr (Told (.tuple #[.string (str key),.string (str v),.bool (cut x).isSome]) wr) from by
     rw [←hkey,← hv];exact cut_any x (by omega) wr HLD.out.here)
    have HKL:=Lib.hid (show key.length≤maxLen by rw [←hkey];unfold maxLen;omega)
    have HVL:=Lib.hid (show v.length≤20000 by rw [←hv];omega)
    have HX:=Lib.hid hx
    have HMY:=Lib.hid (fun (W:World) (hb:Below wr.heap.size wr W)=>must_yes (HA.out.r.next hb))
    have HMN:=Lib.hid (fun (W:World) (hb:Below wr.heap.size wr W)=>must_no (HA.out.r.next hb))
    have HBAD:=Lib.hid (fun (h:frun (y,seen) [x]=none)=>(show first? l=none from first_bad HW.out (frun_bad (k:=k+1) (by rw [frun_take HA.out.hm HX.out,h]))))
    have HLK:=Lib.hid HA.out.kp
    clear hx hxl kl1 kl2 hkey hv hkl
    have CUTA:=True.intro
    cases hcx:cut x with
    | none =>
     have HF:=Lib.hid (HBAD.out (by have h9:=frun_one (y,seen) x;rw [hcx] at h9;exact h9))
     rw [hcx] at HCUT
     clear hcx
     cases hgt:fi.get key L with
     | none =>
      have HGT:=Lib.hid hgt
      clear hgt
      go_wp2_with (first
       | (go_at_call 16;((with_reducible refine HCUT.out.mono ?_);rintro e w4 ⟨rfl,hb⟩);have HB4:=Lib.hid hb;clear hb)
       | (at_lookup;refine wpList_look_no _ rfl _ _ 143 _ rfl Tryz.underlying143 zeroFn mB L rfl (HA.out.next HB4.out).m key rfl HKL.out HGT.out ?_)
       | (go_at_call 70;((with_reducible refine (HMN.out _ HB4.out).mono ?_);rintro e w5 ⟨rfl,rfl⟩)))
      exact ⟨rfl,JobT.no HF.out (HLK.out.lk (Lk.of g' HB4.out (Nat.le_of_lt hRz)))⟩
     | some m =>
      have HGT:=Lib.hid hgt
      clear hgt
      go_wp2_with (first
       | (go_at_call 16;((with_reducible refine HCUT.out.mono ?_);rintro e w4 ⟨rfl,hb⟩);have HB4:=Lib.hid hb;clear hb)
       | (at_lookup;refine wpList_look_yes _ rfl _ _ 143 _ rfl Tryz.underlying143 zeroFn mB L rfl (HA.out.next HB4.out).m key rfl HKL.out _ HGT.out ?_)
       | (go_at_call 70;((with_reducible refine (HMN.out _ HB4.out).mono ?_);rintro e w5 ⟨rfl,rfl⟩)))
      exact ⟨rfl,JobT.no HF.out (HLK.out.lk (Lk.of g' HB4.out (Nat.le_of_lt hRz)))⟩
    | some kv =>
     obtain rfl:kv=(key,v):=(HKW.out kv hcx).symm.trans HKV.out
     have HCX:=Lib.hid hcx
     rw [hcx] at HCUT
     clear hcx
     have hone:frun (y,seen) [x]=if key∈seen then none else match fput y (key,v) with
       | none=>none
       | some y2=>some (y2,seen++[key]):=by have h9:=frun_one (y,seen) x;rw [HCX.out] at h9;exact h9
     cases hgt:fi.get key L with
     | none =>
      have HF:=Lib.hid (HBAD.out (by
       rw [hone]
       have:=HA.out.get key
       rw [hgt] at this
       by_cases hs:key∈seen
       ·rw [if_pos hs]
       ·rw [if_neg hs] at this
        rw [if_neg hs,mth_none this.symm]))
      have HGT:=Lib.hid hgt
      clear hgt hone
      go_wp2_with (first
       | (go_at_call 16;((with_reducible refine HCUT.out.mono ?_);rintro e w4 ⟨rfl,hb⟩);have HB4:=Lib.hid hb;clear hb)
       | (at_lookup;refine wpList_look_no _ rfl _ _ 143 _ rfl Tryz.underlying143 zeroFn mB L rfl (HA.out.next HB4.out).m key rfl HKL.out HGT.out ?_)
       | (go_at_call 70;((with_reducible refine (HMN.out _ HB4.out).mono ?_);rintro e w5 ⟨rfl,rfl⟩)))
      exact ⟨rfl,JobT.no HF.out (HLK.out.lk (Lk.of g' HB4.out (Nat.le_of_lt hRz)))⟩
     | some m =>
      have hgm:mth R key=some m∧key ∉ seen:=by
       have:=HA.out.get key
       rw [hgt] at this
       by_cases hs:key∈seen
       ·rw [if_pos hs] at this;cases this
       ·rw [if_neg hs] at this;exact ⟨this.symm,hs⟩
      have HNS:=Lib.hid hgm.2
      obtain ⟨q,rfl,hgo,hdo⟩:=mth_call hgm.1
      unfold meth at hgt
      have HGT:=Lib.hid hgt
      have HDO:=Lib.hid (fun (W:World) (hb:Below wr.heap.size wr W)=>hdo v HVL.out W y line g' (HA.out.r.next hb) (fun e=>HA.out.af (by rw [←e];exact HNS.out)) (HLD.out.next (hb.mono (Nat.le_of_lt hRz))))
      rw [if_neg HNS.out] at hone
      clear hgt hgm hdo
      cases hp:fput y (key,v) with
      | none =>
       rw [hp] at hone HDO
       have HF:=Lib.hid (HBAD.out hone)
       clear hone hp
       go_wp2_with (first
        | (go_at_call 16;((with_reducible refine HCUT.out.mono ?_);rintro e w4 ⟨rfl,hb⟩);have HB4:=Lib.hid hb;clear hb)
        | (at_lookup;refine wpList_look_yes _ rfl _ _ 143 _ rfl Tryz.underlying143 zeroFn mB L rfl (HA.out.next HB4.out).m key rfl HKL.out _ HGT.out ?_)
        | (go_at_call 70;((with_reducible refine (HMY.out _ HB4.out).mono ?_);rintro e w5 ⟨rfl,rfl⟩))
        | (go_at_fn q;refine (HDO.out _ HB4.out).mono ?_;rintro e w6 ⟨rfl,hb6⟩;have HB6:=Lib.hid hb6;clear hb6))
       exact ⟨rfl,JobT.no HF.out ((HLK.out.trans (Kp.of g' HB4.out (Nat.le_of_lt hRz))).lk HB6.out)⟩
      | some y2 =>
       rw [hp] at HDO
       have HPP:=Lib.hid hp
       clear hone hp
       go_wp2_with (first
        | (go_at_call 16;((with_reducible refine HCUT.out.mono ?_);rintro e w4 ⟨rfl,hb⟩);have HB4:=Lib.hid hb;clear hb)
        | (at_lookup;refine wpList_look_yes _ rfl _ _ 143 _ rfl Tryz.underlying143 zeroFn mB L rfl (HA.out.next HB4.out).m key rfl HKL.out _ HGT.out ?_)
        | (go_at_call 70;((with_reducible refine (HMY.out _ HB4.out).mono ?_);rintro e w5 ⟨rfl,rfl⟩))
        | (go_at_fn q;refine (HDO.out _ HB4.out).mono ?_;rintro e w6 ⟨rfl,g2,hr6,hk6⟩;have HR6:=Lib.hid hr6;have HK6:=Lib.hid hk6;have HM6:=Lib.hid (show MapV w6 mB L from (HA.out.next HB4.out).m.kept (hk6.same mB (HA.out.next HB4.out).m.lt (HA.out.next HB4.out).nm));clear hr6 hk6)
        | (at_delete;refine wpList_del_map _ rfl _ _ 143 _ rfl Tryz.underlying143 mB L rfl HM6.out key rfl HKL.out ?_;intro w7 hm7 hb7;have HM7:=Lib.hid hm7;have HB7:=Lib.hid hb7;clear hm7 hb7))
       go_roundw
       case rel=>exact ⟨k+1,y2,_,g2,_,by go_num,by omega,(HA.out.next HB4.out).del HX.out HCX.out HNS.out HPP.out HR6.out HK6.out HM7.out HB7.out⟩
       case measure=>simp [intOf];omega
   ·obtain rfl:k=n:=by omega
    have hfr:frun (Slip.zero,[]) ws=some (y,seen):=by
     have:=HA.out.hm
     rwa [List.take_of_length_le (by rw [HNL.out];exact Nat.le_refl _)] at this
    have HEND:=Lib.hid (first_end HW.out hfr)
    have HLOW:=Lib.hid HA.out.kp.low
    have HMm:=Lib.hid HA.out.m
    clear hfr hk hkn
    have HND:=Lib.hid (And.intro HA.out.nm (Nat.le_trans (Nat.le_of_lt HA.out.rw_) HA.out.hw))
    have HWM:=Lib.hid HA.out.hw
    have HGET:=Lib.hid (show ∀ j,fi.get j (fi.del afterK (fi.del qosK L))=if j=afterK∨j=qosK then none else if j∈seen then none else mth R j from fun j=>by
     rw [get_del,get_del,HA.out.get]
     by_cases h1:j=afterK
     ·rw [if_pos h1,if_pos (.inl h1)]
     ·by_cases h2:j=qosK
      ·rw [if_neg h1,if_pos h2,if_pos (.inr h2)]
      ·rw [if_neg h1,if_neg h2,if_neg (show ¬ (j=afterK∨j=qosK) from fun h=>h.elim h1 h2)])
    have HR1:=Lib.hid HA.out.r
    have HKP:=Lib.hid HA.out.kp
    clear HA
    obtain ⟨D,hD⟩:∃ D,fi.del qosK L=D:=⟨_,rfl⟩
    obtain ⟨D2,hD2⟩:∃ D2,fi.del afterK D=D2:=⟨_,rfl⟩
    rw [hD,hD2] at HGET
    have HD:=Lib.hid hD
    have HD2:=Lib.hid hD2
    clear hD hD2
    have HLN:=Lib.hid (left_none HGET.out)
    obtain ⟨m,hm⟩:∃ m,D2.length=m:=⟨_,rfl⟩
    rw [hm] at HLN
    have HM2:=Lib.hid hm
    clear hm
    have bnd:∀ W,But mB wr W→Below R wr W∧(∀ b,b < w.heap.size→W.heap[b]?=wr.heap[b]?):=fun W hb=>⟨(Below.refl R wr).grown hb (Nat.le_of_lt hRz) (fun j e=>by cases e;have:=HND.out.2;omega),fun b hb2=>hb.block b (Nat.lt_of_lt_of_le hb2 HKP.out.low.size) (fun e=>by cases e;have:=HWM.out;omega)⟩
    have HBND:=Lib.hid bnd
    clear bnd
    by_cases hz:m=0
    ·have hzb:((m:Int) == 0)=true:=by rw [beq_iff_eq];omega
     have HEN:=HEND.out
     rw [if_pos (HLN.out.1 hz)] at HEN
     have HFF:=Lib.hid HEN
     clear HEN hz
     go_wp2_with (first
      | (at_delete;first
       | (refine wpList_del_map _ rfl _ _ 143 _ rfl Tryz.underlying143 mB D rfl HM8.out afterK rfl (by decide) ?_;intro w9 hm9 hb9;rw [HD2.out] at hm9;have HM9:=Lib.hid hm9;have HB9:=Lib.hid (HB8.out.trans hb9);have HMY:=Lib.hid (must_yes (HR1.out.but HB9.out HND.out.1));clear hm9 hb9)
       | (refine wpList_del_map _ rfl _ _ 143 _ rfl Tryz.underlying143 mB L rfl HMm.out qosK rfl (by decide) ?_;intro w8 hm8 hb8;rw [HD.out] at hm8;have HM8:=Lib.hid hm8;have HB8:=Lib.hid hb8;clear hm8 hb8))
      | (at_len;refine wpList_len_own _ rfl _ 143 rfl _ _ Tryz.underlying143 _ mB D2.length (datV D2) rfl HM9.out.exact ?_;rw [datV_size,HM2.out])
      | (go_at_call 70;((with_reducible refine HMY.out.mono ?_);rintro e w5 ⟨rfl,rfl⟩)))
     go_end0
     unfold JobT
     rw [HFF.out]
     exact ⟨rfl,g',HR1.out.but HB9.out HND.out.1,⟨HLOW.out.trans (HBND.out _ HB9.out).1,fun b hb2 hm2=>((HBND.out _ HB9.out).2 b hb2).trans (HKP.out.same b hb2 hm2),HKP.out.mv⟩⟩
    ·have hzb:((m:Int) == 0)=false:=by rw [beq_eq_false_iff_ne];omega
     have HEN:=HEND.out
     rw [if_neg (fun h=>hz (HLN.out.2 h))] at HEN
     have HFF:=Lib.hid HEN
     clear HEN hz
     go_wp2_with (first
      | (at_delete;first
       | (refine wpList_del_map _ rfl _ _ 143 _ rfl Tryz.underlying143 mB D rfl HM8.out afterK rfl (by decide) ?_;intro w9 hm9 hb9;rw [HD2.out] at hm9;have HM9:=Lib.hid hm9;have HB9:=Lib.hid (HB8.out.trans hb9);have HMN:=Lib.hid (must_no (HR1.out.but HB9.out HND.out.1));clear hm9 hb9)
       | (refine wpList_del_map _ rfl _ _ 143 _ rfl Tryz.underlying143 mB L rfl HMm.out qosK rfl (by decide) ?_;intro w8 hm8 hb8;rw [HD.out] at hm8;have HM8:=Lib.hid hm8;have HB8:=Lib.hid hb8;clear hm8 hb8))
      | (at_len;refine wpList_len_own _ rfl _ 143 rfl _ _ Tryz.underlying143 _ mB D2.length (datV D2) rfl HM9.out.exact ?_;rw [datV_size,HM2.out])
      | (go_at_call 70;((with_reducible refine HMN.out.mono ?_);rintro e w5 ⟨rfl,rfl⟩)))
     exact ⟨rfl,JobT.no HFF.out ⟨HLOW.out.trans (HBND.out _ HB9.out).1,fun b hb2 hm2=>((HBND.out _ HB9.out).2 b hb2).trans (HKP.out.same b hb2 hm2)⟩⟩
 ·have HF:=Lib.hid (first_word HC.out hj)
  obtain ⟨q1,q2⟩:=lit_no hj
  unfold jobW at q1 q2
  clear hj
  go_enter Tryz.func67,Tryz.ntmps67
  go_upto_region 1 with (go_at_call 107;((with_reducible refine HSP.out.mono ?_);rintro e w1 ⟨rfl,hp,hb⟩);have HP:=Lib.hid hp;have HB:=Lib.hid hb;clear hp hb)
  have c0:=HP.out.2 0 j rfl
  rw [Nat.zero_add] at c0
  have hpz:w.heap.size < w1.heap.size:=HP.out.1
  have HMN:=Lib.hid (fun (W:World) (hb:Below w1.heap.size w1 W)=>must_no ((HR.out.next HB.out).next hb))
  have hlt0:(0:Int) < (n:Int)+1:=by omega
  clear HSP
  go_wp2_with (go_at_call 70;((with_reducible refine (HMN.out _ (Below.refl _ _)).mono ?_);rintro e w2 ⟨rfl,rfl⟩))
  exact ⟨rfl,JobT.no HF.out (Lk.of g HB.out (Nat.le_of_lt hRw))⟩
end Go.Proofs.YtekcjfdllclphaaGreatDoor.gn
end
