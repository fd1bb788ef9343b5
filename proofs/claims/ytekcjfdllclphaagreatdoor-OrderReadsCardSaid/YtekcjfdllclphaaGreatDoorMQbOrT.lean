/- The contract of order.Parse. (Written by gen_orT.py.) -/
import Derived.Test.YtekcjfdllclphaaGreatDoorMQbOrJ
import Derived.Test.YtekcjfdllclphaaGreatDoorMQbOrK
import Derived.Test.YtekcjfdllclphaaGreatDoorMQbOrU
import Derived.Deep.RegionHeld3
set_option linter.unusedVariables false
set_option linter.unusedSimpArgs false
section
namespace Go.Proofs.YtekcjfdllclphaaGreatDoor.gn
open Go.RowKit
open Go.Proofs.YtekcjfdllclphaaGreatDoor.un
open Go.Proofs.YtekcjfdllclphaaGreatDoor.di
open Go.Proofs.YtekcjfdllclphaaGreatDoor.sp (Slip sread cutB fldB)
open Go.Proofs.YtekcjfdllclphaaGreatDoor.od (Ord oread pread parse_one parse_two sread_cases)
def OPaT (s:Tx) (w:World) (en:Ending) (w':World):Prop:=Below w.heap.size w w'∧∃ g,en=.returned (.tuple #[oV (oread s).1 g,.agg #[.int .i64 (oread s).2.1,.int .i64 ((oread s).2.2:Nat)]])∧SR w' (oread s).1.slip g
theorem opa_fin {s:Tx} {w W:World} {tmps:Array Value} {o:Ord} {g:Gh} {e l:Int} (hlow:Below w.heap.size w W) (hpr:BoxA W w.heap.size 29 (ocs o g)) (hsp:BoxA W (w.heap.size+1) 32 #[.int .i64 e,.int .i64 l])
  (h23:(tmps.getD 2 undef,tmps.getD 3 undef)=(.pointer (some ⟨w.heap.size,0,none⟩),.pointer (some ⟨w.heap.size+1,0,none⟩))) (hr:((oread s).1,(oread s).2.1,((oread s).2.2:Int))=(o,e,l)) (hs:SR W o.slip g) :
  bodyPost Tryz.prog Tryz.f8 (OPaT s w) Exit.ret ⟨tmps,[]⟩ W:=by
 simp only [Prod.mk.injEq] at h23 hr
 obtain ⟨h2,h3⟩:=h23
 obtain ⟨r1,r2,r3⟩:=hr
 refine bodyPost_ret (v:=.tuple #[oV o g,.agg #[.int .i64 e,.int .i64 l]]) ?_ rfl ?_
 ·exact results_cells2 rfl _ _ w.heap.size (w.heap.size+1) _ _ (ocs o g) #[.int .i64 e,.int .i64 l] _ _ _ _ h2 hpr Tryz.underlying29 rfl (by kernel_rfl) h3 hsp Tryz.underlying32 rfl (by kernel_rfl)
 ·refine ⟨hlow,g,?_,?_⟩
  ·rw [r1,r2,r3]
  ·rw [r1];exact hs
theorem opa_ret {s:Tx} {w W:World} {tmps:Array Value} {o:Ord} {g:Gh} {cs ds c0 c1:Array Value} {e l:Int} (hlow:Below w.heap.size w W) (hcs:ocs o g=cs) (hds:#[.int .i64 e,.int .i64 l]=ds) (hpr:BoxA W w.heap.size 29 c0) (hsp:BoxA W (w.heap.size+1) 32 c1)
  (h23:(tmps.getD 2 undef,tmps.getD 3 undef)=(.pointer (some ⟨w.heap.size,0,none⟩),.pointer (some ⟨w.heap.size+1,0,none⟩))) (hr:((oread s).1,(oread s).2.1,((oread s).2.2:Int))=(o,e,l)) (hs:SR ((W.setRow w.heap.size cs).setRow (w.heap.size+1) ds) o.slip g) :
  bodyPost Tryz.prog Tryz.f8 (OPaT s w) Exit.ret ⟨tmps,[]⟩ ((W.setRow w.heap.size cs).setRow (w.heap.size+1) ds):=by
 subst hcs hds
 exact opa_fin (below_setRow (below_setRow hlow (Nat.le_refl _) _) (by omega) _) ((setRow_other _ _ _ _ (by omega)).trans (setRow_heap _ _ _ _ _ _ hpr)) (setRow_heap _ _ _ _ _ _ ((setRow_other _ _ _ _ (by omega)).trans hsp)) h23 hr hs
theorem spot_all (e l:Int):(#[Value.int .i64 e,Value.int .i64 l]:Array Value).all (·.oneCell')=true:=by kernel_rfl
set_option maxRecDepth 100000 in
set_option maxHeartbeats 16000000 in
theorem Parse_ord (s:Tx) (hl:s.length≤100000) (w:World) (hL:LaidD w):Calls Tryz.prog 8 #[.string (str s)] w (OPaT s w):=by
 obtain ⟨W0,hW0,hpr,hsp,hlow⟩:=made2 w zO #[.int .i64 0,.int .i64 0] 29 32
 have HC:=Lib.hid (cut_c 10 s hl W0 (hL.next hlow))
 have hfl:=sp.fldB_len 10 s
 obtain ⟨line,hline⟩:∃ a,(fldB 10 s).1=a:=⟨_,rfl⟩
 obtain ⟨rest,hrest⟩:∃ a,(fldB 10 s).2=a:=⟨_,rfl⟩
 obtain ⟨more,hmore⟩:∃ a,(cutB 10 s).isSome=a:=⟨_,rfl⟩
 rw [hline,hrest,hmore] at HC
 rw [hline,hrest] at hfl
 have HRL:=Lib.hid (show rest.length≤100000 by omega)
 have HOR:=Lib.hid (show oread s=match pread line with
   | some o=>if more=true then (if o.kind=2 then (match sread rest with
    | (x,e,i)=>if e=0 then ({ Ord.at 2 with slip:=x },0,0) else (Ord.zero,e,i+1)) else (Ord.zero,160,1)) else (if o.kind=2 then (Ord.zero,160,1) else (o,0,0))
   | none=>(Ord.zero,160,1) by
  cases hcb:cutB 10 s with
  | none =>
   rw [hcb] at hmore
   have e1:line=s:=by rw [←hline];unfold fldB;rw [hcb];rfl
   rw [parse_one hcb,e1,← hmore]
   cases pread s <;> rfl
  | some p =>
   rw [hcb] at hmore
   have e1:line=p.1:=by rw [←hline];unfold fldB;rw [hcb];rfl
   have e2:rest=p.2:=by rw [←hrest];unfold fldB;rw [hcb];rfl
   rw [parse_two (a:=p.1) (r:=p.2) hcb,e1,e2,← hmore]
   cases pread p.1 <;> rfl)
 have HP0:=Lib.hid hpr
 have HS0:=Lib.hid hsp
 have HL0:=Lib.hid hlow
 have HW0:=Lib.hid hW0
 have HL:=Lib.hid (fun (X:World) (hb:Below w.heap.size w X)=>hL.next hb)
 have HRD:=Lib.hid (fun (X:World) (hb:Below w.heap.size w X)=>oline_any line (by omega) X (hL.next hb))
 unfold OreadT at HRD
 unfold zO at HW0
 clear hl hL hfl hline hrest hmore hpr hsp hlow hW0
 go_enter Tryz.func8,Tryz.ntmps8
 go_upto_region 1 with fail
 rw [HW0.out]
 go_upto_region 3 with (first
  | (go_at_call 16;((with_reducible refine HC.out.mono ?_);rintro e w1 ⟨rfl,hb⟩);have A1:=Lib.hid hb;have B1:=Lib.hid (HL0.out.trans (hb.mono HL0.out.size));clear hb)
  | (go_at_call 17;((with_reducible refine (HRD.out _ B1.out).mono ?_);rintro e w2 ⟨o',rfl,ho',hb⟩);have HO':=Lib.hid ho';have A2:=Lib.hid hb;clear ho' hb)
  | (refine wpList_store_row rfl _ _ _ rfl w2.heap.size (ocs o' g0) rfl rfl _ _ (BoxA.new w2 _ _) (by kernel_rfl) rfl (by kernel_rfl) ?_))
 obtain ⟨w3,hw3,hbx,hb3⟩:=box_end w2 zO (ocs o' g0) 29
 unfold zO at hw3
 rw [hw3]
 have HBX:=Lib.hid (show OrdB w3 w2.heap.size o' g0 from hbx)
 have HP3:=Lib.hid (((HP0.out.next A1.out).next A2.out).next hb3)
 have HS3:=Lib.hid (((HS0.out.next A1.out).next A2.out).next hb3)
 have hz2:w.heap.size+1 < w2.heap.size:=by have:=((HS0.out.next A1.out).next A2.out).lt;omega
 have HZ2:=Lib.hid hz2
 have HL3:=Lib.hid ((B1.out.trans (A2.out.mono B1.out.size)).trans (hb3.mono (by omega)))
 have c0:w3.cell? ⟨w2.heap.size,0,none⟩=some (.int .u8 (o'.kind:Nat)):=BoxA.cell hbx 0 _
 have clt:=hbx.lt
 clear hw3 hbx hb3 hz2
 generalize w2.heap.size=bt at *
 cases hpr:pread line with
 | none =>
  have HBAD:=Lib.hid (show oread s=(Ord.zero,160,1) by rw [HOR.out,hpr])
  dsimp only [Option.isSome_none]
  clear hpr
  go_wp2_with (first
   | (refine wpList_store_row rfl _ _ _ rfl w.heap.size zO rfl rfl _ _ HP3.out (by kernel_rfl) rfl (by kernel_rfl) ?_)
   | (refine wpList_store_row rfl _ _ _ rfl (w.heap.size+1) #[.int .i64 160,.int .i64 1] rfl rfl _ _ ((setRow_other _ _ _ _ (by omega)).trans HS3.out) (by kernel_rfl) rfl (spot_all _ _) ?_))
  exact opa_ret (o:=Ord.zero) (g:=g0) HL3.out rfl rfl HP3.out HS3.out rfl (by rw [HBAD.out];rfl) (sr_zero _)
 | some o =>
  have e:=HO'.out o hpr
  subst e
  have HPR:=Lib.hid hpr
  clear hpr
  dsimp only [Option.isSome_some]
  by_cases h2:o'.kind=2
  ·have q2:((o'.kind:Int) == 2)=true:=by rw [beq_iff_eq];omega
   cases more with
   | false =>
    have HBAD:=Lib.hid (show oread s=(Ord.zero,160,1) by rw [HOR.out,HPR.out];dsimp only;rw [if_neg (by decide),if_pos h2])
    go_wp2_with (first
     | (refine wpList_store_row rfl _ _ _ rfl w.heap.size zO rfl rfl _ _ HP3.out (by kernel_rfl) rfl (by kernel_rfl) ?_)
     | (refine wpList_store_row rfl _ _ _ rfl (w.heap.size+1) #[.int .i64 160,.int .i64 1] rfl rfl _ _ ((setRow_other _ _ _ _ (by omega)).trans HS3.out) (by kernel_rfl) rfl (spot_all _ _) ?_))
    exact opa_ret (o:=Ord.zero) (g:=g0) HL3.out rfl rfl HP3.out HS3.out rfl (by rw [HBAD.out];rfl) (sr_zero _)
   | true =>
    have ho2:=((od.pread_sub HPR.out).1 h2).2
    subst ho2
    obtain ⟨x,hx⟩:∃ x,(sread rest).1=x:=⟨_,rfl⟩
    obtain ⟨er,her⟩:∃ e,(sread rest).2.1=e:=⟨_,rfl⟩
    obtain ⟨ln,hln⟩:∃ n,(sread rest).2.2=n:=⟨_,rfl⟩
    have HLNB:=Lib.hid (show ln≤rest.length+3 by rw [←hln];exact sread_bd rest)
    have HPA:=Lib.hid (parse_as (s:=rest) (by have:=HRL.out;omega) hx her (by rw [hln]) w3 (HL.out _ HL3.out) (l:=(ln:Int)))
    unfold PaA at HPA
    have HSC:=Lib.hid (show (er=0∧ln=0∧sp.Ok x)∨(x=Slip.zero∧er≠0) by
     rcases sread_cases rest with ⟨x',h,hok⟩ | ⟨e',i',h,he⟩
     ·exact .inl ⟨by rw [←her,h],by rw [←hln,h],by rw [←hx,h];exact hok⟩
     ·exact .inr ⟨by rw [←hx,h],by rw [←her,h];exact he⟩)
    have HRR:=Lib.hid (show oread s=if er=0 then ({ Ord.at 2 with slip:=x },0,0) else (Ord.zero,er,ln+1) by
     rw [HOR.out,HPR.out]
     dsimp only
     rw [if_pos rfl,if_pos (show (Ord.at 2).kind=2 from rfl),← hx,← her,← hln])
    clear hx her hln h2 q2
    go_upto_region 8 with (first
     | (go_at_call 18;((with_reducible refine HPA.out.mono ?_);rintro e w4 ⟨hb,g,rfl,hsr⟩);have A4:=Lib.hid hb;have HSR:=Lib.hid hsr;clear hb hsr)
     | (refine wpList_store_row rfl _ _ _ rfl w4.heap.size (scs x g) rfl rfl _ _ (boxes_a _ _ _ _ _) (by kernel_rfl) rfl (scs_one HSR.out) ?_)
     | (refine wpList_store_row rfl _ _ _ rfl (w4.heap.size+1) #[.int .i64 er,.int .i64 (ln:Int)] rfl rfl _ _ (boxes_b _ _ _ _ _ _) (by kernel_rfl) rfl (spot_all _ _) ?_))
    obtain ⟨w5,hw5,hb5a,hb5b,hl5⟩:=boxes_end w4 #[.string { data:=#[] },.int .i64 0,.int .i64 0,.int .i64 0,.slice none 0 0,.int .i64 0,.int .i64 0,.int .i64 0,.string { data:=#[] },.slice none 0 0,.slice none 0 0,.slice none 0 0] #[.int .i64 0,.int .i64 0] (scs x g) #[.int .i64 er,.int .i64 (ln:Int)] 27 32
    rw [hw5]
    have HL5:=Lib.hid ((HL3.out.trans (A4.out.mono HL3.out.size)).trans (hl5.mono (Nat.le_trans HL3.out.size A4.out.size)))
    have HBX5:=Lib.hid ((HBX.out.next A4.out).next hl5)
    have HP5:=Lib.hid ((HP3.out.next A4.out).next hl5)
    have HS5:=Lib.hid ((HS3.out.next A4.out).next hl5)
    have HSR5:=Lib.hid (HSR.out.next hl5)
    have HXB:=Lib.hid hb5a
    have HBT:=Lib.hid (show bt < w4.heap.size from Nat.lt_of_lt_of_le clt A4.out.size)
    have s0:=hb5b.cell 0 _
    have s1:=hb5b.cell 1 _
    have slt:=hb5b.lt
    clear hw5 hb5a hb5b hl5 c0 clt
    generalize w4.heap.size=bx at *
    rcases HSC.out with ⟨rfl,rfl,hxok⟩ | ⟨rfl,hne⟩
    ·have HR1:=Lib.hid (show oread s=({ Ord.at 2 with slip:=x },0,0) by rw [HRR.out,if_pos rfl])
     have p1:∀ X,(binOp .neq 32 (.agg #[.int .i64 0,.int .i64 0]) (.agg #[.int .i64 0,.int .i64 0])).run Tryz.prog X=.ok (.bool false) X:=fun X=>spot_ne 0 0 0 0 X
     obtain ⟨va,vm,vd,vu⟩:=g
     obtain ⟨pa,ca,ea,-,-⟩:=HSR5.out.ca
     obtain ⟨pm,cm,em,-,-⟩:=HSR5.out.cm
     obtain ⟨pd,cd,ed,-,-⟩:=HSR5.out.cd
     obtain ⟨pu,cu,eu,-,-⟩:=HSR5.out.cu
     dsimp only at ea em ed eu
     subst ea em ed eu
     go_upto_region 10 with fail
     obtain ⟨c0,c1,c2,c3,c4,c5,c6,c7,c8,c9,c10,c11,clt⟩:=cel_box HXB.out
     obtain ⟨-,-,-,-,-,-,-,-,d8,d9,d10,d11,d12,d13,d14,d15,d16,d17,d18,d19,dlt⟩:=ocel HBX5.out
     have ff:=fun j=>BoxA.free HBX5.out j
     have f8:=ff 8
     have f9:=ff 9
     have f10:=ff 10
     have f11:=ff 11
     have f12:=ff 12
     have f13:=ff 13
     have f14:=ff 14
     have f15:=ff 15
     have f16:=ff 16
     have f17:=ff 17
     have f18:=ff 18
     have f19:=ff 19
     dsimp only at c0 c1 c2 c3 c4 c5 c6 c7 c8 c9 c10 c11
     clear ff
     go_upto_region 11 with fail
     have HX1:=put12_ord HBX5.out x ⟨.slice pa x.after.length ca,.slice pm x.make.length cm,.slice pd x.drop.length cd,.slice pu x.use.length cu⟩
     have HX2:=put12_but w5 bt (.string (str x.user)) (.int .i64 x.nodes) (.int .i64 x.wall) (.int .i64 x.qos) (.slice pa x.after.length ca) (.int .i64 x.cap) (.int .i64 x.inn) (.int .i64 x.out) (.string (str x.pool)) (.slice pm x.make.length cm) (.slice pd x.drop.length cd) (.slice pu x.use.length cu)
     obtain ⟨X,hX⟩:∃ X,put12 w5 bt (.string (str x.user)) (.int .i64 x.nodes) (.int .i64 x.wall) (.int .i64 x.qos) (.slice pa x.after.length ca) (.int .i64 x.cap) (.int .i64 x.inn) (.int .i64 x.out) (.string (str x.pool)) (.slice pm x.make.length cm) (.slice pd x.drop.length cd) (.slice pu x.use.length cu)=X:=⟨_,rfl⟩
     dsimp only at HX1
     rw [hX] at HX1 HX2
     unfold put12 at hX
     rw [hX]
     have HXO:=Lib.hid HX1
     have HXL:=Lib.hid (HL5.out.grown HX2 HL5.out.size (fun j hj=>by cases hj;have:=HZ2.out;omega))
     have HXP:=Lib.hid (HP5.out.but HX2 (by have:=HZ2.out;omega))
     have HXS:=Lib.hid (HS5.out.but HX2 (by have:=HZ2.out;omega))
     have HXX:=Lib.hid HX2
     have HSX:Hid (SR X x ⟨.slice pa x.after.length ca,.slice pm x.make.length cm,.slice pd x.drop.length cd,.slice pu x.use.length cu⟩) :=Lib.hid (sr_apart HSR5.out hxok (show BoxA w5 bt 29 (atO 2) from HBX5.out) (dull_at 2) HXX.out.size fun b hb hn=>HXX.out.block b hb (fun e=>hn (Option.some.inj e)))
     clear hX HX1 HX2 c0 c1 c2 c3 c4 c5 c6 c7 c8 c9 c10 c11 clt d8 d9 d10 d11 d12 d13 d14 d15 d16 d17 d18 d19 dlt f8 f9 f10 f11 f12 f13 f14 f15 f16 f17 f18 f19
     go_wp2_with (first
      | (refine wpList_load_row rfl _ _ rfl bt rfl _ _ _ _ HXO.out Tryz.underlying29 rfl (by kernel_rfl) ?_)
      | (refine wpList_store_row rfl _ _ _ rfl w.heap.size (ocs { Ord.at 2 with slip:=x } ⟨.slice pa x.after.length ca,.slice pm x.make.length cm,.slice pd x.drop.length cd,.slice pu x.use.length cu⟩) rfl rfl _ _ HXP.out (by kernel_rfl) rfl (ocs_one (o:={ Ord.at 2 with slip:=x }) HSX.out) ?_)
      | (refine wpList_store_row rfl _ _ _ rfl (w.heap.size+1) #[.int .i64 0,.int .i64 0] rfl rfl _ _ ((setRow_other _ _ _ _ (by omega)).trans HXS.out) (by kernel_rfl) rfl (spot_all _ _) ?_))
     exact opa_ret (o:={ Ord.at 2 with slip:=x }) HXL.out rfl rfl HXP.out HXS.out rfl (by rw [HR1.out];rfl) (sr_apart (sr_apart HSX.out hxok HXP.out (dull_at 0) (by simp [World.setRow]) fun b hb hn=>setRow_other _ _ _ _ hn) hxok ((setRow_other _ _ _ _ (by omega)).trans HXS.out) dull_spot (by simp [World.setRow]) fun b hb hn=>setRow_other _ _ _ _ hn)
    ·have HR1:=Lib.hid (show oread s=(Ord.zero,er,ln+1) by rw [HRR.out,if_neg hne])
     have p1:∀ X,(binOp .neq 32 (.agg #[.int .i64 er,.int .i64 (ln:Int)]) (.agg #[.int .i64 0,.int .i64 0])).run Tryz.prog X=.ok (.bool true) X:=fun X=>by rw [spot_ne,decide_eq_false hne];rfl
     go_upto_region 9 with fail
     have HWR:=Lib.hid (show IntKind.i64.wrap ((ln:Int)+1)=(ln:Int)+1 from by
      rw [IntKind.wrap_i64]
      have:=HLNB.out
      have:=HRL.out
      omega)
     have HKD:=Lib.hid (show w5.drew.cell? ⟨bx+1,0,none⟩=some (.int .i64 er)∧w5.drew.cell? ⟨bx+1,1,none⟩=some (.int .i64 (ln:Int)) from ⟨s0,s1⟩)
     have HKE:=Lib.hid (show (w5.drew.setRow w.heap.size zO).cell? ⟨bx+1,0,none⟩=some (.int .i64 er)∧(w5.drew.setRow w.heap.size zO).cell? ⟨bx+1,1,none⟩=some (.int .i64 (ln:Int)) from
      ⟨(World.cell?_of_block (setRow_other _ _ _ _ (show bx+1≠w.heap.size by have:=HZ2.out;have:=HBT.out;omega))).trans HKD.out.1,(World.cell?_of_block (setRow_other _ _ _ _ (show bx+1≠w.heap.size by have:=HZ2.out;have:=HBT.out;omega))).trans HKD.out.2⟩)
     have HKF:=Lib.hid (show ((w5.drew.setRow w.heap.size zO).setRow (w.heap.size+1) #[.int .i64 er,.int .i64 (IntKind.i64.wrap ((ln:Int)+1))]).cell? ⟨bx+1,0,none⟩=some (.int .i64 er)∧((w5.drew.setRow w.heap.size zO).setRow (w.heap.size+1) #[.int .i64 er,.int .i64 (IntKind.i64.wrap ((ln:Int)+1))]).cell? ⟨bx+1,1,none⟩=some (.int .i64 (ln:Int)) from
      ⟨(World.cell?_of_block (setRow_other _ _ _ _ (show bx+1≠w.heap.size+1 by have:=HZ2.out;have:=HBT.out;omega))).trans HKE.out.1,(World.cell?_of_block (setRow_other _ _ _ _ (show bx+1≠w.heap.size+1 by have:=HZ2.out;have:=HBT.out;omega))).trans HKE.out.2⟩)
     have HPD:=Lib.hid (show BoxA w5.drew w.heap.size 29 zO from HP5.out)
     have HSD:=Lib.hid (show BoxA w5.drew (w.heap.size+1) 32 #[.int .i64 0,.int .i64 0] from HS5.out)
     have HSE:=Lib.hid (show (w5.drew.setRow w.heap.size zO).heap[w.heap.size+1]?=some (.cells #[.int .i64 0,.int .i64 0] 32 (0,0)) from (setRow_other _ _ _ _ (by omega)).trans HSD.out)
     refine wp_region_held_drew (S:=(fun X=>X.cell? ⟨bx+1,0,none⟩=some (.int .i64 er)∧X.cell? ⟨bx+1,1,none⟩=some (.int .i64 (ln:Int)))) (by kernel_rfl) (by exact HKD.out) (fun hHeld=>?_)
     refine wpAnyH_take (i:=0) (v:=?_) (ata at0) (by kernel_rfl) (by kernel_rfl) (by kernel_rfl) (fun _ _ _ h=>h) (Or.inl ⟨by rfl,?_⟩) (by assumption) ?_
     rotate_left
     ·(intro w hSw;(try dsimp only at hSw);go_simp;(first | done | with_reducible rfl))
     try simp only [Act.put,List.setIfInBounds_toArray,List.set_cons_zero,List.set_cons_succ]
     refine wpAnyH_take (i:=1) (v:=?_) (ata (atS at0)) (by kernel_rfl) (by kernel_rfl) (by kernel_rfl) (fun _ _ _ h=>h) (Or.inl ⟨by rfl,?_⟩) (by assumption) ?_
     rotate_left
     ·(intro w hSw;(try dsimp only at hSw);go_simp;(first | done | with_reducible rfl))
     try simp only [Act.put,List.setIfInBounds_toArray,List.set_cons_zero,List.set_cons_succ]
     refine wpAnyH_take (i:=2) (v:=?_) (ata (atS (atS at0))) (by kernel_rfl) (by kernel_rfl) (by kernel_rfl) (fun _ _ _ h=>h) (Or.inl ⟨by rfl,?_⟩) (by assumption) ?_
     rotate_left
     ·(intro w hSw;(try dsimp only at hSw);go_simp;(first | done | with_reducible rfl))
     try simp only [Act.put,List.setIfInBounds_toArray,List.set_cons_zero,List.set_cons_succ]
     refine wpAnyH_take (i:=3) (v:=?_) (ata (atS (atS (atS at0)))) (by kernel_rfl) (by kernel_rfl) (by kernel_rfl) (fun _ _ _ h=>h) (Or.inl ⟨by rfl,?_⟩) (by assumption) ?_
     rotate_left
     ·(intro w hSw;(try dsimp only at hSw);go_simp;(first | done | with_reducible rfl))
     try simp only [Act.put,List.setIfInBounds_toArray,List.set_cons_zero,List.set_cons_succ]
     refine wpAnyH_take (i:=4) (v:=?_) (ata (atS (atS (atS (atS at0))))) (by kernel_rfl) (by kernel_rfl) (by kernel_rfl) (fun _ _ _ h=>h) (Or.inl ⟨by rfl,?_⟩) (by assumption) ?_
     rotate_left
     ·(intro w hSw;(try dsimp only at hSw);go_simp;(first | done | with_reducible rfl))
     try simp only [Act.put,List.setIfInBounds_toArray,List.set_cons_zero,List.set_cons_succ]
     refine wpAnyH_take (i:=5) (v:=?_) (ata (atS (atS (atS (atS (atS at0)))))) (by kernel_rfl) (by kernel_rfl) (by kernel_rfl) (fun _ _ _ h=>h) (Or.inl ⟨by rfl,?_⟩) (by assumption) ?_
     rotate_left
     ·(intro w hSw;(try dsimp only at hSw);go_simp;(first | done | with_reducible rfl))
     try simp only [Act.put,List.setIfInBounds_toArray,List.set_cons_zero,List.set_cons_succ]
     refine wpAnyH_take (i:=6) (v:=?_) (ata (atS (atS (atS (atS (atS (atS at0))))))) (by kernel_rfl) (by kernel_rfl) (by kernel_rfl) (fun _ _ _ h=>h) (Or.inl ⟨by rfl,?_⟩) (by assumption) ?_
     rotate_left
     ·(intro w hSw;(try dsimp only at hSw);go_simp;(first | done | with_reducible rfl))
     try simp only [Act.put,List.setIfInBounds_toArray,List.set_cons_zero,List.set_cons_succ]
     refine wpAnyH_ready (rs:=[7]) (by kernel_rfl) (by simp) ?_
     refine AllReadyH.cons (ata (atS (atS (atS (atS (atS (atS (atS at0)))))))) (fun K hK=>?_) AllReadyH.nil
     refine wp_store_row _ _ _ rfl w.heap.size zO rfl rfl 29 zO HPD.out (by kernel_rfl) rfl (by kernel_rfl) ?_
     refine hK.out _ _ (by exact HKE.out) (fun hHeld=>?_)
     clear hK K
     try simp only [Act.put,List.setIfInBounds_toArray,List.set_cons_zero,List.set_cons_succ]
     refine wpAnyH_ready (rs:=[8]) (by kernel_rfl) (by simp) ?_
     refine AllReadyH.cons (ata (atS (atS (atS (atS (atS (atS (atS (atS at0))))))))) (fun K hK=>?_) AllReadyH.nil
     refine wp_store_row _ _ _ rfl (w.heap.size+1) #[.int .i64 er,.int .i64 (IntKind.i64.wrap ((ln:Int)+1))] rfl rfl 32 #[.int .i64 0,.int .i64 0] HSE.out (by kernel_rfl) rfl (spot_all _ _) ?_
     refine hK.out _ _ (by exact HKF.out) (fun hHeld=>?_)
     clear hK K
     try simp only [Act.put,List.setIfInBounds_toArray,List.set_cons_zero,List.set_cons_succ]
     refine wpAnyH_done (by kernel_rfl) ?_ _
     go_wp2
     rw [HWR.out]
     exact opa_ret (o:=Ord.zero) (g:=g0) (Below.drew HL5.out) rfl rfl HPD.out HSD.out rfl (by rw [HR1.out];rfl) (sr_zero _)
  ·have q2:((o'.kind:Int) == 2)=false:=by rw [beq_eq_false_iff_ne];omega
   cases more with
   | true =>
    have HBAD:=Lib.hid (show oread s=(Ord.zero,160,1) by rw [HOR.out,HPR.out];dsimp only;rw [if_pos rfl,if_neg h2])
    go_wp2_with (first
     | (refine wpList_store_row rfl _ _ _ rfl w.heap.size zO rfl rfl _ _ HP3.out (by kernel_rfl) rfl (by kernel_rfl) ?_)
     | (refine wpList_store_row rfl _ _ _ rfl (w.heap.size+1) #[.int .i64 160,.int .i64 1] rfl rfl _ _ ((setRow_other _ _ _ _ (by omega)).trans HS3.out) (by kernel_rfl) rfl (spot_all _ _) ?_))
    exact opa_ret (o:=Ord.zero) (g:=g0) HL3.out rfl rfl HP3.out HS3.out rfl (by rw [HBAD.out];rfl) (sr_zero _)
   | false =>
    have HONE:=Lib.hid (show oread s=(o',0,0) by rw [HOR.out,HPR.out];dsimp only;rw [if_neg (by decide),if_neg h2])
    have HZ:=Lib.hid (show o'.slip=Slip.zero from by
     obtain ⟨_,_,_,_,hr⟩:=(od.pread_sub HPR.out).2 h2
     have hk:=(od.kindO_some (by assumption)).1
     exact (od.orun_ok hk h2 hr).1.slip0 h2)
    go_wp2_with (first
     | (refine wpList_load_row rfl _ _ rfl bt rfl _ _ _ _ HBX.out Tryz.underlying29 rfl (by kernel_rfl) ?_)
     | (refine wpList_store_row rfl _ _ _ rfl w.heap.size (ocs o' g0) rfl rfl _ _ HP3.out (by kernel_rfl) rfl (by kernel_rfl) ?_)
     | (refine wpList_store_row rfl _ _ _ rfl (w.heap.size+1) #[.int .i64 0,.int .i64 0] rfl rfl _ _ ((setRow_other _ _ _ _ (by omega)).trans HS3.out) (by kernel_rfl) rfl (spot_all _ _) ?_))
    exact opa_ret (o:=o') (g:=g0) HL3.out rfl rfl HP3.out HS3.out rfl (by rw [HONE.out];rfl) (by rw [HZ.out];exact sr_zero _)
end Go.Proofs.YtekcjfdllclphaaGreatDoor.gn
end
