/- The contract of Check. -/
import Derived.Test.YtekcjfdllclphaaGreatDoorMQbGenLoad
import Derived.Test.YtekcjfdllclphaaGreatDoorMQbSlP
import Derived.Shelf.Abstract
import Derived.Deep.LoopGhost
set_option linter.unusedVariables false
section
namespace Go.Proofs.YtekcjfdllclphaaGreatDoor.gn
open Go.RowKit
open Go.Proofs.YtekcjfdllclphaaGreatDoor.un
open Go.Proofs.YtekcjfdllclphaaGreatDoor.di
structure DW (d:Dir):Prop where
 k:d.kind < 256
 n:d.name.length≤9223372036854775807
 p:d.pool.length≤9223372036854775807
 z0:-9223372036854775808≤d.size
 z1:d.size≤9223372036854775807
def cE (d:Dir):Int:=if chk d=true then 0 else 140
def cres (o:Option Dir) (d:Dir):Bool:=match o with
 | some a=>decide (a=d)
 | none=>false
theorem crun_cons (d:Dir) (f:Tx × Bool) (r:List (Tx × Bool)) (a:Dir):crun d (f::r) a=if f.2=true∧val d f.1=[] then crun d r a else if okv f.1 (val d f.1)=true then crun d r (sto f.1 (val d f.1) a) else none:=rfl
theorem clo_call2 {k:Nat} {key:Tx} (h:has k key=true) (c:Nat):∃ g,cloF c key=some (clo g c)∧(∀ (x y:Value) (W:World),(callFunc g #[x,y]).run Tryz.prog W=.ok (.enter g #[x,y]) W) ∧
  ∀ (v:Tx) (hv:v.length≤9223372036854775807) (hv2:key=capK∨key=sizeK→v.length≤140737488355328) (bd:Nat) (d:Dir) (W:World),PtrB W c bd→DirB W bd d→LaidU W→Calls Tryz.prog g #[.string (str v),.pointer (some ⟨c,0,none⟩)] W (StoT bd key v d W):=by
 rcases key_five h with rfl | rfl | rfl | rfl | rfl
 ·exact ⟨_,cloF_name c,fun x y W=>by kernel_rfl,fun v hv _ bd d W hp hd hL=>sto_name_any c bd d v hv W hp hd⟩
 ·exact ⟨_,cloF_pool c,fun x y W=>by kernel_rfl,fun v hv _ bd d W hp hd hL=>sto_pool_any c bd d v hv W hp hd⟩
 ·exact ⟨_,cloF_cap c,fun x y W=>by kernel_rfl,fun v hv h2 bd d W hp hd hL=>sto_size_any c bd d v (h2 (.inl rfl)) W hp hd hL⟩
 ·refine ⟨_,cloF_size c,fun x y W=>by kernel_rfl,fun v hv h2 bd d W hp hd hL=>(sto_size_any c bd d v (h2 (.inr rfl)) W hp hd hL).mono ?_⟩
  rintro e w' ⟨h1,h2,h3⟩
  exact ⟨by rw [okv_siz,← okv_cap];exact h1,h2,by rw [sto_size,← sto_cap];exact h3⟩
 ·exact ⟨_,cloF_acc c,fun x y W=>by kernel_rfl,fun v hv _ bd d W hp hd hL=>sto_acc_any c bd d v W hp hd⟩
theorem val_len {d:Dir} (h:DW d) (key:Tx):(val d key).length≤9223372036854775807∧(key=capK∨key=sizeK→(val d key).length≤140737488355328):=by
 have hs:=stxt_len d.size
 constructor
 ·unfold val
  split
  ·exact h.n
  split
  ·exact h.p
  split
  ·split <;> decide
  ·omega
 ·intro hk
  rw [val_size d hk]
  omega
structure CK (w w2:World) (d a':Dir) (k fa ab sb sc:Nat) (SL:List (Tx × Value)) (W:World):Prop where
 p:BoxA W w.heap.size 80 (dcs d)
 f:Flds W fa (fldL k)
 a:DirB W ab a'
 st:StM W w2.heap.size sb sc ab SL
 b:Below w.heap.size w W
theorem CK.next {w w2 W W':World} {d a':Dir} {k fa ab sb sc:Nat} {SL:List (Tx × Value)} (h:CK w w2 d a' k fa ab sb sc SL W) (hb:Below W.heap.size W W'):CK w w2 d a' k fa ab sb sc SL W' :=
 ⟨h.p.next hb,h.f.next hb,h.a.next hb,h.st.next hb,h.b.trans (hb.mono h.b.size)⟩
theorem CK.sto {w w2 W W':World} {d a' a2:Dir} {k fa ab sb sc:Nat} {SL:List (Tx × Value)} (h:CK w w2 d a' k fa ab sb sc SL W) (hb:But ab W W') (ha:DirB W' ab a2) (h1:w.heap.size < ab) (h2:fa≠ab) (h3:ab < w2.heap.size):CK w w2 d a2 k fa ab sb sc SL W' :=
 ⟨h.p.but hb (by omega),h.f.but hb h2,ha,h.st.but hb h3,h.b.trans (hb.low (by omega) h.b.size)⟩
set_option maxRecDepth 100000 in
set_option maxHeartbeats 1600000 in
theorem check_no (d:Dir) (h:DW d) (hk:¬ (1≤d.kind∧d.kind≤6)) (w:World):Calls Tryz.prog 94 #[dV d] w (Told (.int .i64 (cE d)) w):=by
 have HE:=Lib.hid (show cE d=140 by
  unfold cE
  rw [if_neg]
  intro hc
  exact hk ((chk_iff d).1 hc).1)
 have HK:=Lib.hid hk
 have HB:=Lib.hid (show Below w.heap.size w (w.alloc (.cells (dcs d) 80)) from (Below.refl _ _).alloc (Nat.le_refl _) _)
 have hV:dV d=.agg #[.int .u8 (d.kind:Nat),.string (str d.name),.string (str d.pool),.int .i64 d.size,.bool d.opn]:=rfl
 rw [hV]
 unfold dcs at HB
 clear hV hk h
 obtain ⟨k,n,p,z,o⟩:=d
 dsimp only at HK HB ⊢
 go_enter Tryz.func94,Tryz.ntmps94
 go_wp2_with (go_at_call 95;refine (kfind_no k HK.out _).mono ?_;rintro e w1 ⟨rfl,hb⟩;have HB1:=Lib.hid (HB.out.trans (hb.mono HB.out.size));clear hb)
 go_ret
 exact ⟨by rw [HE.out];rfl,HB1.out⟩
set_option maxRecDepth 100000 in
set_option maxHeartbeats 6400000 in
theorem check_yes (d:Dir) (h:DW d) (hk:1≤d.kind∧d.kind≤6) (w:World) (hL:LaidD w):Calls Tryz.prog 94 #[dV d] w (Told (.int .i64 (cE d)) w):=by
 obtain ⟨ans,hans⟩:∃ ans,crun d (fldL d.kind) (base d.kind)=ans:=⟨_,rfl⟩
 have HC:=Lib.hid (show cres ans d=chk d by rw [←hans];exact crun_chk d h.z0 h.z1 hk)
 have HA:=Lib.hid (show crun d ((fldL d.kind).drop 0) (base d.kind)=ans from hans)
 have HK:=Lib.hid hk
 have HW:=Lib.hid h
 have HLB:=Lib.hid hL.base
 have HV:=Lib.hid (fun (key:Tx) (W:World) (hb:Below w.heap.size w W)=>value_any d h.z0 h.z1 key W (hL.next hb).u)
 have HVL:=Lib.hid (fun key=>val_len h key)
 obtain ⟨n,hn⟩:∃ n,(fldL d.kind).length=n:=⟨_,rfl⟩
 have HN:=Lib.hid hn
 have hn4:n≤4:=by rw [←hn];exact di.fld_len d.kind
 have hkk:=hk
 obtain ⟨w0,hw0⟩:∃ w0,w.alloc (.cells #[.int .u8 (d.kind:Nat),.string (str d.name),.string (str d.pool),.int .i64 d.size,.bool d.opn] 80)=w0:=⟨_,rfl⟩
 have hb0:Below w.heap.size w w0:=by rw [←hw0];exact (Below.refl _ _).alloc (Nat.le_refl _) _
 have hp0:BoxA w0 w.heap.size 80 (dcs d):=by rw [←hw0];exact BoxA.new _ _ _
 have HB0:=Lib.hid hb0
 have HP0:=Lib.hid hp0
 have H0:=Lib.hid hw0
 have hz0:w.heap.size < w0.heap.size:=hp0.lt
 have hV:dV d=.agg #[.int .u8 (d.kind:Nat),.string (str d.name),.string (str d.pool),.int .i64 d.size,.bool d.opn]:=rfl
 rw [hV] at HV ⊢
 clear hV hk h hans hn hL hw0 hb0 hp0
 go_enter Tryz.func94,Tryz.ntmps94
 go_wp2_with (first
  | (go_at_call 95;rw [H0.out];refine (kfind_yes d.kind HK.out _).mono ?_;rintro e w1 ⟨fa,rfl,hf,hfa,hb⟩;rw [HN.out];have hx1:w1.cell? ⟨w.heap.size,0,none⟩=some (.int .u8 (d.kind:Nat)):=BoxA.cell (HP0.out.next hb) 0 _ rfl;have HP1:=Lib.hid (HP0.out.next hb);have hz1:=HP1.out.lt;have HF:=Lib.hid (And.intro hf hfa);have HB1:=Lib.hid (HB0.out.trans (hb.mono HB0.out.size));clear hf hfa hb)
  | fail)
 obtain ⟨wz,hwz⟩:∃ y,w1.alloc (.cells #[.int .u8 (d.kind:Nat),.string { data:=#[] },.string { data:=#[] },.int .i64 0,.bool false] 80)=y:=⟨_,rfl⟩
 rw [hwz]
 have hyz:Below w1.heap.size w1 wz:=by rw [←hwz];exact (Below.refl _ _).alloc (Nat.le_refl _) _
 have hdz:DirB wz w1.heap.size (base d.kind):=by rw [←hwz];exact BoxA.new _ _ _
 clear hwz
 refine (stores_any w1.heap.size _).mono ?_
 rintro e w2 ⟨sb,sc,SL,rfl,hst,hb2⟩
 have HCK:=Lib.hid (show CK w wz d (base d.kind) d.kind fa w1.heap.size sb sc SL w2 from ⟨(HP1.out.next hyz).next hb2,(HF.out.1.next hyz).next hb2,hdz.next hb2,hst,(HB1.out.trans (hyz.mono HB1.out.size)).trans (hb2.mono (Nat.le_trans HB1.out.size hyz.size))⟩)
 have hzz:w1.heap.size < wz.heap.size:=hdz.lt
 clear hst hb2 hyz hdz
 go_wp2
 have hfa1:fa < w1.heap.size:=HF.out.1.1
 clear HF HP1 HB1 hx1
 go_loopw [26] (fun s26 wr=>∃ (i:Nat) (a':Dir),s26=.int .i64 i∧i≤n∧Aside (CK w wz d a' d.kind fa w1.heap.size sb sc SL wr)∧Aside (crun d ((fldL d.kind).drop i) a'=ans)) (fun s26 _=>n - (intOf s26).toNat)
 case atStart=>exact ⟨0,base d.kind,rfl,Nat.zero_le _,HCK.out,HA.out⟩
 case round =>
  clear HCK HA
  obtain ⟨i,a',rfl,hi,hck,har⟩:=hrel
  have HR:=Lib.hid (show CK w wz d a' d.kind fa w1.heap.size sb sc SL wr from hck)
  have HAR:=Lib.hid (show crun d ((fldL d.kind).drop i) a'=ans from har)
  clear hck har
  by_cases hin:i < n
  ·have hil:i < (fldL d.kind).length:=by rw [HN.out];exact hin
   obtain ⟨f,hfe⟩:∃ f,(fldL d.kind)[i]?=some f:=⟨_,List.getElem?_eq_getElem hil⟩
   obtain ⟨c0,c1⟩:=HR.out.f.2 i f hfe
   have hhas:=(fld_opt (List.mem_of_getElem? hfe)).2
   have HKL:=Lib.hid (show f.1.length≤maxLen by rcases key_five hhas with h | h | h | h | h <;> rw [h] <;> decide)
   have HDR:=Lib.hid (show (fldL d.kind).drop i=f::(fldL d.kind).drop (i+1) by
    obtain ⟨_,rfl⟩:=List.getElem?_eq_some_iff.1 hfe
    exact List.drop_eq_getElem_cons hil)
   obtain ⟨g,hcl,hgo,hdo⟩:=clo_call2 hhas sc
   have HCL:=Lib.hid (show fi.get f.1 SL=some (.func (.func g) #[] #[.pointer (some ⟨sc,0,none⟩)]) by rw [HR.out.st.get];exact hcl)
   have HDO:=Lib.hid hdo
   have hza:fa < wr.heap.size:=HR.out.f.1
   clear hfe hhas hcl hdo hil
   obtain ⟨key,opt⟩:=f
   dsimp only at c0 c1 HKL HCL HDO
   obtain ⟨v,hv⟩:∃ v,val d key=v:=⟨_,rfl⟩
   have HVK:=Lib.hid (HV.out key)
   have HVLK:=Lib.hid (HVL.out key)
   rw [hv] at HVK HVLK
   have HCR:=Lib.hid (show crun d ((fldL d.kind).drop i) a'=if opt=true∧v=[] then crun d ((fldL d.kind).drop (i+1)) a' else if okv key v=true then crun d ((fldL d.kind).drop (i+1)) (sto key v a') else none by
    rw [HDR.out,crun_cons]
    dsimp only
    rw [hv])
   obtain ⟨om,hom⟩:∃ om,omi (key,opt) v=om:=⟨_,rfl⟩
   have HOM:=Lib.hid hom
   obtain ⟨okb,hok⟩:∃ okb,okv key v=okb:=⟨_,rfl⟩
   have HOK:=Lib.hid hok
   clear hv hom hok HDR
   have hy9:Below wr.heap.size wr (wr.alloc (.cells #[.string (str key),.bool opt] 133)):=(Below.refl _ _).alloc (Nat.le_refl _) _
   have h9:=BoxA.new wr 133 #[.string (str key),.bool opt]
   have HR9:=Lib.hid (HR.out.next hy9)
   have H9:=Lib.hid h9
   have d0:wr.cell? ⟨w.heap.size,0,none⟩=some (.int .u8 (d.kind:Nat)):=BoxA.cell HR.out.p 0 _ rfl
   have d1:wr.cell? ⟨w.heap.size,1,none⟩=some (.string (str d.name)):=BoxA.cell HR.out.p 1 _ rfl
   have d2:wr.cell? ⟨w.heap.size,2,none⟩=some (.string (str d.pool)):=BoxA.cell HR.out.p 2 _ rfl
   have d3:wr.cell? ⟨w.heap.size,3,none⟩=some (.int .i64 d.size):=BoxA.cell HR.out.p 3 _ rfl
   have d4:wr.cell? ⟨w.heap.size,4,none⟩=some (.bool d.opn):=BoxA.cell HR.out.p 4 _ rfl
   have hzw:w.heap.size < wr.heap.size:=HR.out.p.lt
   clear hy9 h9
   cases om with
   | true =>
    go_wp2_with (first
    | (go_at_call 96;refine (HVK.out _ HR9.out.b).mono ?_;rintro e w3 ⟨rfl,hb3⟩;have HR3:=Lib.hid (HR9.out.next hb3);have h93:=H9.out.next hb3;have k0:w3.cell? ⟨wr.heap.size,0,none⟩=some (.string (str key)):=BoxA.cell h93 0 _ rfl;have k1:w3.cell? ⟨wr.heap.size,1,none⟩=some (.bool opt):=BoxA.cell h93 1 _ rfl;have hzb:=h93.lt;have H93:=Lib.hid h93;clear hb3 h93)
    | (go_at_call 97;refine (omitted_any key opt v _).mono ?_;rintro e w4 ⟨rfl,hb4⟩;rw [HOM.out];have HR4:=Lib.hid (HR3.out.next hb4);have h94:=H93.out.next hb4;have m0:w4.cell? ⟨wr.heap.size,0,none⟩=some (.string (str key)):=BoxA.cell h94 0 _ rfl;have m1:w4.cell? ⟨wr.heap.size,1,none⟩=some (.bool opt):=BoxA.cell h94 1 _ rfl;have hzc:=h94.lt;clear hb4 h94))
    go_roundw
    case rel =>
     refine ⟨i+1,a',by go_num,by omega,HR4.out,?_⟩
     rw [←HAR.out,HCR.out,if_pos ((omi_iff (key,opt) v).1 HOM.out)]
     rfl
    case measure=>simp [intOf];omega
   | false =>
    have HNO:=Lib.hid (show ¬ (opt=true∧v=[]) from fun e=>by have:=(omi_iff (key,opt) v).2 e;rw [HOM.out] at this;cases this)
    cases okb with
    | true =>
     go_wp2_with (first
    | (go_at_call 96;refine (HVK.out _ HR9.out.b).mono ?_;rintro e w3 ⟨rfl,hb3⟩;have HR3:=Lib.hid (HR9.out.next hb3);have h93:=H9.out.next hb3;have k0:w3.cell? ⟨wr.heap.size,0,none⟩=some (.string (str key)):=BoxA.cell h93 0 _ rfl;have k1:w3.cell? ⟨wr.heap.size,1,none⟩=some (.bool opt):=BoxA.cell h93 1 _ rfl;have hzb:=h93.lt;have H93:=Lib.hid h93;clear hb3 h93)
    | (go_at_call 97;refine (omitted_any key opt v _).mono ?_;rintro e w4 ⟨rfl,hb4⟩;rw [HOM.out];have HR4:=Lib.hid (HR3.out.next hb4);have h94:=H93.out.next hb4;have m0:w4.cell? ⟨wr.heap.size,0,none⟩=some (.string (str key)):=BoxA.cell h94 0 _ rfl;have m1:w4.cell? ⟨wr.heap.size,1,none⟩=some (.bool opt):=BoxA.cell h94 1 _ rfl;have hzc:=h94.lt;have hl2:=HR4.out.st.m.look Tryz.underlying155 (z:=.nilFunc) (by kernel_rfl) HKL.out;rw [HCL.out,Option.getD_some] at hl2;clear hb4 h94)
    | (go_at_fn g;refine (HDO.out v HVLK.out.1 HVLK.out.2 w1.heap.size a' _ HR4.out.st.ptr HR4.out.a (HLB.out _ HR4.out.b).u).mono ?_;rintro e w5 ⟨rfl,hb5,hd5⟩;rw [HOK.out];have HR5:=Lib.hid (HR4.out.sto hb5 hd5 (by omega) (by omega) hzz);clear hb5 hd5))
     go_roundw
     case rel =>
      refine ⟨i+1,sto key v a',by go_num,by omega,HR5.out,?_⟩
      rw [←HAR.out,HCR.out,if_neg HNO.out,if_pos HOK.out]
      rfl
     case measure=>simp [intOf];omega
    | false =>
     have HE:=Lib.hid (show cE d=140 by
      have h1:=HAR.out
      rw [HCR.out,if_neg HNO.out,if_neg (by rw [HOK.out];decide)] at h1
      have h2:=HC.out
      rw [←h1] at h2
      unfold cE
      rw [←h2]
      rfl)
     go_wp2_with (first
    | (go_at_call 96;refine (HVK.out _ HR9.out.b).mono ?_;rintro e w3 ⟨rfl,hb3⟩;have HR3:=Lib.hid (HR9.out.next hb3);have h93:=H9.out.next hb3;have k0:w3.cell? ⟨wr.heap.size,0,none⟩=some (.string (str key)):=BoxA.cell h93 0 _ rfl;have k1:w3.cell? ⟨wr.heap.size,1,none⟩=some (.bool opt):=BoxA.cell h93 1 _ rfl;have hzb:=h93.lt;have H93:=Lib.hid h93;clear hb3 h93)
    | (go_at_call 97;refine (omitted_any key opt v _).mono ?_;rintro e w4 ⟨rfl,hb4⟩;rw [HOM.out];have HR4:=Lib.hid (HR3.out.next hb4);have h94:=H93.out.next hb4;have m0:w4.cell? ⟨wr.heap.size,0,none⟩=some (.string (str key)):=BoxA.cell h94 0 _ rfl;have m1:w4.cell? ⟨wr.heap.size,1,none⟩=some (.bool opt):=BoxA.cell h94 1 _ rfl;have hzc:=h94.lt;have hl2:=HR4.out.st.m.look Tryz.underlying155 (z:=.nilFunc) (by kernel_rfl) HKL.out;rw [HCL.out,Option.getD_some] at hl2;clear hb4 h94)
    | (go_at_fn g;refine (HDO.out v HVLK.out.1 HVLK.out.2 w1.heap.size a' _ HR4.out.st.ptr HR4.out.a (HLB.out _ HR4.out.b).u).mono ?_;rintro e w5 ⟨rfl,hb5,hd5⟩;rw [HOK.out];have HR5:=Lib.hid (HR4.out.sto hb5 hd5 (by omega) (by omega) hzz);clear hb5 hd5))
     go_ret
     exact ⟨by rw [HE.out];rfl,HR5.out.b⟩
  ·obtain rfl:i=n:=by omega
   have hfin:some a'=ans:=by
    have:=HAR.out
    rw [List.drop_of_length_le (by rw [HN.out];exact Nat.le_refl _)] at this
    exact this
   have HFIN:=Lib.hid (show decide (a'=d)=chk d by have:=HC.out;rw [←hfin] at this;exact this)
   clear hfin
   have d0:wr.cell? ⟨w.heap.size,0,none⟩=some (.int .u8 (d.kind:Nat)):=BoxA.cell HR.out.p 0 _ rfl
   have d1:wr.cell? ⟨w.heap.size,1,none⟩=some (.string (str d.name)):=BoxA.cell HR.out.p 1 _ rfl
   have d2:wr.cell? ⟨w.heap.size,2,none⟩=some (.string (str d.pool)):=BoxA.cell HR.out.p 2 _ rfl
   have d3:wr.cell? ⟨w.heap.size,3,none⟩=some (.int .i64 d.size):=BoxA.cell HR.out.p 3 _ rfl
   have d4:wr.cell? ⟨w.heap.size,4,none⟩=some (.bool d.opn):=BoxA.cell HR.out.p 4 _ rfl
   obtain ⟨a0,a1,a2,a3,a4⟩:=HR.out.a.cells
   have hne:=dir_ne a' d
   unfold dV dcs at hne
   cases hq:decide (a'=d) with
   | true =>
    rw [hq] at hne HFIN
    have HE:=Lib.hid (show cE d=0 by unfold cE;rw [←HFIN.out];rfl)
    clear hq
    go_wp2
    go_ret
    exact ⟨by rw [HE.out];rfl,HR.out.b⟩
   | false =>
    rw [hq] at hne HFIN
    have HE:=Lib.hid (show cE d=140 by unfold cE;rw [←HFIN.out];rfl)
    clear hq
    go_wp2
    go_ret
    exact ⟨by rw [HE.out];rfl,HR.out.b⟩
theorem Check_any (d:Dir) (h:DW d) (w:World) (hL:LaidD w):Calls Tryz.prog 94 #[dV d] w (Told (.int .i64 (cE d)) w):=by
 by_cases hk:1≤d.kind∧d.kind≤6
 ·exact check_yes d h hk w hL
 ·exact check_no d h hk w
end Go.Proofs.YtekcjfdllclphaaGreatDoor.gn
end
