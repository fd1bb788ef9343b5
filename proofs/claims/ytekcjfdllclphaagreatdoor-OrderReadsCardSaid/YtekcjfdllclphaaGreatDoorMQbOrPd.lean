/- The document's Parse of an order: submit. (Written by gen_orP2.py.) -/
import Derived.Test.YtekcjfdllclphaaGreatDoorMQbOrT
import Derived.Test.YtekcjfdllclphaaGreatDoorMQbOrZ
import Derived.Test.YtekcjfdllclphaaGreatDoorMQbSlDp
set_option linter.unusedVariables false
set_option linter.unusedSimpArgs false
section
namespace Go.Proofs.YtekcjfdllclphaaGreatDoor.gn
open Go.RowKit
open Go.Proofs.YtekcjfdllclphaaGreatDoor.un
open Go.Proofs.YtekcjfdllclphaaGreatDoor.di
open Go.Proofs.YtekcjfdllclphaaGreatDoor.sp (Slip sread)
open Go.Proofs.YtekcjfdllclphaaGreatDoor.od (Ord oread subL sread_cases)
theorem dopa_fin {s:Tx} {w W:World} {tmps:Array Value} {o:Ord} {g:Gh} {e l:Int} (hlow:Below w.heap.size w W) (hpr:BoxA W w.heap.size 29 (ocs o g)) (hsp:BoxA W (w.heap.size+1) 32 #[.int .i64 e,.int .i64 l])
  (h23:(tmps.getD 2 undef,tmps.getD 3 undef)=(.pointer (some ⟨w.heap.size,0,none⟩),.pointer (some ⟨w.heap.size+1,0,none⟩))) (hr:((oread s).1,(oread s).2.1,((oread s).2.2:Int))=(o,e,l)) (hs:SR W o.slip g) :
  bodyPost Tryz.prog Tryz.f9 (OPaT s w) Exit.ret ⟨tmps,[]⟩ W:=by
 simp only [Prod.mk.injEq] at h23 hr
 obtain ⟨h2,h3⟩:=h23
 obtain ⟨r1,r2,r3⟩:=hr
 refine bodyPost_ret (v:=.tuple #[oV o g,.agg #[.int .i64 e,.int .i64 l]]) ?_ rfl ?_
 ·exact results_cells2 rfl _ _ w.heap.size (w.heap.size+1) _ _ (ocs o g) #[.int .i64 e,.int .i64 l] _ _ _ _ h2 hpr Tryz.underlying29 rfl (by kernel_rfl) h3 hsp Tryz.underlying32 rfl (by kernel_rfl)
 ·refine ⟨hlow,g,?_,?_⟩
  ·rw [r1,r2,r3]
  ·rw [r1];exact hs
theorem dopa_ret {s:Tx} {w W:World} {tmps:Array Value} {o:Ord} {g:Gh} {cs ds c0 c1:Array Value} {e l:Int} (hlow:Below w.heap.size w W) (hcs:ocs o g=cs) (hds:#[.int .i64 e,.int .i64 l]=ds) (hpr:BoxA W w.heap.size 29 c0) (hsp:BoxA W (w.heap.size+1) 32 c1)
  (h23:(tmps.getD 2 undef,tmps.getD 3 undef)=(.pointer (some ⟨w.heap.size,0,none⟩),.pointer (some ⟨w.heap.size+1,0,none⟩))) (hr:((oread s).1,(oread s).2.1,((oread s).2.2:Int))=(o,e,l)) (hs:SR ((W.setRow w.heap.size cs).setRow (w.heap.size+1) ds) o.slip g) :
  bodyPost Tryz.prog Tryz.f9 (OPaT s w) Exit.ret ⟨tmps,[]⟩ ((W.setRow w.heap.size cs).setRow (w.heap.size+1) ds):=by
 subst hcs hds
 exact dopa_fin (below_setRow (below_setRow hlow (Nat.le_refl _) _) (by omega) _) ((setRow_other _ _ _ _ (by omega)).trans (setRow_heap _ _ _ _ _ _ hpr)) (setRow_heap _ _ _ _ _ _ ((setRow_other _ _ _ _ (by omega)).trans hsp)) h23 hr hs
theorem sub_cut {s:Tx} (h:subL.isPrefixOf s=true):s=subL++s.drop 7:=by
 obtain ⟨t,rfl⟩:=List.isPrefixOf_iff_prefix.1 h
 rfl
set_option maxRecDepth 100000 in
set_option maxHeartbeats 16000000 in
theorem dparse_sub (s:Tx) (hl:s.length≤10000) (w:World) (hp:subL.isPrefixOf s=true):Calls Tryz.prog 9 #[.string (str s)] w (OPaT s w):=by
 obtain ⟨rest,hrest⟩:∃ r,s.drop 7=r:=⟨_,rfl⟩
 have hsr:s=subL++rest:=by rw [←hrest];exact sub_cut hp
 obtain ⟨W0,hW0,hpr,hsp,hlow⟩:=made2 w zO #[.int .i64 0,.int .i64 0] 29 32
 obtain ⟨x,hx⟩:∃ x,(sread rest).1=x:=⟨_,rfl⟩
 obtain ⟨er,her⟩:∃ e,(sread rest).2.1=e:=⟨_,rfl⟩
 obtain ⟨ln,hln⟩:∃ n,(sread rest).2.2=n:=⟨_,rfl⟩
 have hrl:rest.length≤10000:=by rw [hsr] at hl;simp at hl;omega
 have HLNB:=Lib.hid (show ln≤rest.length+3 by rw [←hln];exact sread_bd rest)
 have HPA:=Lib.hid (fun X=>dParse_slip rest hrl X)
 unfold PaT at HPA
 rw [hx,her,hln] at HPA
 have HRL:=Lib.hid hrl
 have HSC:=Lib.hid (show (er=0∧ln=0∧sp.Ok x)∨(x=Slip.zero∧er≠0) by
  rcases sread_cases rest with ⟨x',h,hok⟩ | ⟨e',i',h,he⟩
  ·exact .inl ⟨by rw [←her,h],by rw [←hln,h],by rw [←hx,h];exact hok⟩
  ·exact .inr ⟨by rw [←hx,h],by rw [←her,h];exact he⟩)
 have HRR:=Lib.hid (show oread s=if er=0 then ({ Ord.at 2 with slip:=x },0,0) else (Ord.zero,er,ln+1) by
  unfold oread
  rw [if_pos hp,hrest,← hx,← her,← hln])
 have hz:7≤(str s).size∧(str s).size≤10000:=by rw [str_size];refine ⟨?_,hl⟩;rw [hsr];simp [subL]
 have q1:((str s).extract 0 7).toList=[115,117,98,109,105,116,10]:=by rw [str_take,str_toList,hsr];rfl
 have q0:(((str s).extract 0 7).toList == [115,117,98,109,105,116,10])=true:=by rw [q1];rfl
 have r7:=fun X=>sl_upto s (7:Int) 7 rfl (by rw [←str_size];exact hz.1) X
 have HR7:=Lib.hid (show (str s).extract 7 (str s).size=str rest by rw [str_drop,hrest])
 obtain ⟨z1,z2⟩:=hz
 have HP0:=Lib.hid hpr
 have HS0:=Lib.hid hsp
 have HL0:=Lib.hid hlow
 have HW0:=Lib.hid hW0
 unfold zO at HW0
 clear hl hp hsr hrl hx her hln hrest hpr hsp hlow hW0 r7
 go_enter Tryz.func9,Tryz.ntmps9
 go_upto_region 1 with fail
 rw [HW0.out]
 go_upto_region 2 with (refine wpList_store_row rfl _ _ _ rfl W0.heap.size #[.int .i64 160,.int .i64 1] rfl rfl _ _ (BoxA.new W0 _ _) (by kernel_rfl) rfl (spot_all _ _) ?_)
 obtain ⟨w3,hw3,-,hb3⟩:=box_end W0 #[.int .i64 0,.int .i64 0] #[.int .i64 160,.int .i64 1] 32
 rw [hw3]
 have HP3:=Lib.hid (HP0.out.next hb3)
 have HS3:=Lib.hid (HS0.out.next hb3)
 have HZ2:=Lib.hid (show w.heap.size+1 < W0.heap.size from HS0.out.lt)
 have HL3:=Lib.hid (HL0.out.trans (hb3.mono HL0.out.size))
 clear hw3 hb3
 generalize W0.heap.size=bt at *
 rw [←HR7.out] at HPA
 go_upto_region 4 with (first
  | (go_at_call 19;((with_reducible refine (HPA.out _).mono ?_);rintro e w4 ⟨hb,g,rfl,hsr⟩);have A4:=Lib.hid hb;have HSR:=Lib.hid hsr;clear hb hsr)
  | (refine wpList_store_row rfl _ _ _ rfl w4.heap.size (scs x g) rfl rfl _ _ (boxes_a _ _ _ _ _) (by kernel_rfl) rfl (scs_one HSR.out) ?_)
  | (refine wpList_store_row rfl _ _ _ rfl (w4.heap.size+1) #[.int .i64 er,.int .i64 (ln:Int)] rfl rfl _ _ (boxes_b _ _ _ _ _ _) (by kernel_rfl) rfl (spot_all _ _) ?_))
 obtain ⟨w5,hw5,hb5a,hb5b,hl5⟩:=boxes_end w4 #[.string { data:=#[] },.int .i64 0,.int .i64 0,.int .i64 0,.slice none 0 0,.int .i64 0,.int .i64 0,.int .i64 0,.string { data:=#[] },.slice none 0 0,.slice none 0 0,.slice none 0 0] #[.int .i64 0,.int .i64 0] (scs x g) #[.int .i64 er,.int .i64 (ln:Int)] 27 32
 rw [hw5]
 have HL5:=Lib.hid ((HL3.out.trans (A4.out.mono HL3.out.size)).trans (hl5.mono (Nat.le_trans HL3.out.size A4.out.size)))
 have HP5:=Lib.hid ((HP3.out.next A4.out).next hl5)
 have HS5:=Lib.hid ((HS3.out.next A4.out).next hl5)
 have HSR5:=Lib.hid (HSR.out.next hl5)
 have HXB:=Lib.hid hb5a
 have HBT:=Lib.hid (show w.heap.size+1 < w4.heap.size from Nat.lt_of_lt_of_le HS3.out.lt A4.out.size)
 have s0:=hb5b.cell 0 _
 have s1:=hb5b.cell 1 _
 have slt:=hb5b.lt
 clear hw5 hb5a hb5b hl5
 generalize w4.heap.size=bx at *
 rcases HSC.out with ⟨rfl,rfl,hxok⟩ | ⟨rfl,hne⟩
 ·have HR1:=Lib.hid (show oread s=({ Ord.at 2 with slip:=x },0,0) by rw [HRR.out,if_pos rfl])
  have HXK:=Lib.hid hxok
  clear hxok
  go_upto_region 6 with fail
  obtain ⟨c0,c1,c2,c3,c4,c5,c6,c7,c8,c9,c10,c11,clt⟩:=cel_box HXB.out
  obtain ⟨va,vm,vd,vu⟩:=g
  dsimp only at c0 c1 c2 c3 c4 c5 c6 c7 c8 c9 c10 c11
  go_wp2_with (first
   | (refine wpList_store_row rfl _ _ _ rfl w.heap.size (ocs { Ord.at 2 with slip:=x } ⟨va,vm,vd,vu⟩) rfl rfl _ _ HP5.out (by kernel_rfl) rfl (ocs_one (o:={ Ord.at 2 with slip:=x }) HSR5.out) ?_)
   | (refine wpList_store_row rfl _ _ _ rfl (w.heap.size+1) #[.int .i64 0,.int .i64 0] rfl rfl _ _ ((setRow_other _ _ _ _ (by omega)).trans HS5.out) (by kernel_rfl) rfl (spot_all _ _) ?_))
  exact dopa_ret (o:={ Ord.at 2 with slip:=x }) HL5.out rfl rfl HP5.out HS5.out rfl (by rw [HR1.out];rfl) (sr_apart (sr_apart HSR5.out HXK.out HP5.out (dull_at 0) (by simp [World.setRow]) fun b hb hn=>setRow_other _ _ _ _ hn) HXK.out ((setRow_other _ _ _ _ (by omega)).trans HS5.out) dull_spot (by simp [World.setRow]) fun b hb hn=>setRow_other _ _ _ _ hn)
 ·have HR1:=Lib.hid (show oread s=(Ord.zero,er,ln+1) by rw [HRR.out,if_neg hne])
  go_upto_region 5 with fail
  have HWR:=Lib.hid (show IntKind.i64.wrap ((ln:Int)+1)=(ln:Int)+1 from by
   rw [IntKind.wrap_i64]
   have:=HLNB.out
   have:=HRL.out
   omega)
  have HKD:=Lib.hid (show w5.drew.cell? ⟨bx+1,0,none⟩=some (.int .i64 er)∧w5.drew.cell? ⟨bx+1,1,none⟩=some (.int .i64 (ln:Int)) from ⟨s0,s1⟩)
  have HKE:=Lib.hid (show (w5.drew.setRow w.heap.size zO).cell? ⟨bx+1,0,none⟩=some (.int .i64 er)∧(w5.drew.setRow w.heap.size zO).cell? ⟨bx+1,1,none⟩=some (.int .i64 (ln:Int)) from
   ⟨(World.cell?_of_block (setRow_other _ _ _ _ (show bx+1≠w.heap.size by have:=HZ2.out;have:=HBT.out;omega))).trans HKD.out.1,(World.cell?_of_block (setRow_other _ _ _ _ (show bx+1≠w.heap.size by have:=HZ2.out;have:=HBT.out;omega))).trans HKD.out.2⟩)
  have HKF:=Lib.hid (show ((w5.drew.setRow w.heap.size zO).setRow (w.heap.size+1) #[.int .i64 er,.int .i64 (IntKind.i64.wrap ((ln:Int)+1))]).cell? ⟨bx+1,0,none⟩=some (.int .i64 er)∧((w5.drew.setRow w.heap.size zO).setRow (w.heap.size+1) #[.int .i64 er,.int .i64 (IntKind.i64.wrap ((ln:Int)+1))]).cell? ⟨bx+1,1,none⟩=some (.int .i64 (ln:Int)) from
   ⟨(World.cell?_of_block (setRow_other _ _ _ _ (show bx+1≠w.heap.size+1 by have:=HZ2.out;have:=HBT.out;omega))).trans HKE.out.1,(World.cell?_of_block (setRow_other _ _ _ _ (show bx+1≠w.heap.size+1 by have:=HZ2.out;have:=HBT.out;omega))).trans HKE.out.2⟩)
  have HPD:=Lib.hid (show BoxA w5.drew w.heap.size 29 zO from HP5.out)
  have HSD:=Lib.hid (show BoxA w5.drew (w.heap.size+1) 32 #[.int .i64 0,.int .i64 0] from HS5.out)
  have HSE:=Lib.hid (show (w5.drew.setRow w.heap.size zO).heap[w.heap.size+1]?=some (.cells #[.int .i64 0,.int .i64 0] 32 (0,0)) from (setRow_other _ _ _ _ (by omega)).trans HSD.out)
  refine wp_region_held_drew (S:=(fun X=>X.cell? ⟨bx+1,0,none⟩=some (.int .i64 er)∧X.cell? ⟨bx+1,1,none⟩=some (.int .i64 (ln:Int)))) (by kernel_rfl) (by exact HKD.out) (fun hHeld=>?_)
  refine wpAnyH_take (i:=0) (v:=?_) (ata at0) (by kernel_rfl) (by kernel_rfl) (by kernel_rfl) (fun _ _ _ h=>h) (Or.inl ⟨by rfl,?_⟩) (by assumption) ?_
  rotate_left
  ·(intro w hSw;(try dsimp only at hSw);go_simp;(first | done | with_reducible rfl))
  try simp only [Act.put,List.setIfInBounds_toArray,List.set_cons_zero,List.set_cons_succ]
  refine wpAnyH_take (i:=1) (v:=?_) (ata (atS at0)) (by kernel_rfl) (by kernel_rfl) (by kernel_rfl) (fun _ _ _ h=>h) (Or.inl ⟨by rfl,?_⟩) (by assumption) ?_
  rotate_left
  ·(intro w hSw;(try dsimp only at hSw);go_simp;(first | done | with_reducible rfl))
  try simp only [Act.put,List.setIfInBounds_toArray,List.set_cons_zero,List.set_cons_succ]
  refine wpAnyH_take (i:=2) (v:=?_) (ata (atS (atS at0))) (by kernel_rfl) (by kernel_rfl) (by kernel_rfl) (fun _ _ _ h=>h) (Or.inl ⟨by rfl,?_⟩) (by assumption) ?_
  rotate_left
  ·(intro w hSw;(try dsimp only at hSw);go_simp;(first | done | with_reducible rfl))
  try simp only [Act.put,List.setIfInBounds_toArray,List.set_cons_zero,List.set_cons_succ]
  refine wpAnyH_take (i:=3) (v:=?_) (ata (atS (atS (atS at0)))) (by kernel_rfl) (by kernel_rfl) (by kernel_rfl) (fun _ _ _ h=>h) (Or.inl ⟨by rfl,?_⟩) (by assumption) ?_
  rotate_left
  ·(intro w hSw;(try dsimp only at hSw);go_simp;(first | done | with_reducible rfl))
  try simp only [Act.put,List.setIfInBounds_toArray,List.set_cons_zero,List.set_cons_succ]
  refine wpAnyH_take (i:=4) (v:=?_) (ata (atS (atS (atS (atS at0))))) (by kernel_rfl) (by kernel_rfl) (by kernel_rfl) (fun _ _ _ h=>h) (Or.inl ⟨by rfl,?_⟩) (by assumption) ?_
  rotate_left
  ·(intro w hSw;(try dsimp only at hSw);go_simp;(first | done | with_reducible rfl))
  try simp only [Act.put,List.setIfInBounds_toArray,List.set_cons_zero,List.set_cons_succ]
  refine wpAnyH_take (i:=5) (v:=?_) (ata (atS (atS (atS (atS (atS at0)))))) (by kernel_rfl) (by kernel_rfl) (by kernel_rfl) (fun _ _ _ h=>h) (Or.inl ⟨by rfl,?_⟩) (by assumption) ?_
  rotate_left
  ·(intro w hSw;(try dsimp only at hSw);go_simp;(first | done | with_reducible rfl))
  try simp only [Act.put,List.setIfInBounds_toArray,List.set_cons_zero,List.set_cons_succ]
  refine wpAnyH_take (i:=6) (v:=?_) (ata (atS (atS (atS (atS (atS (atS at0))))))) (by kernel_rfl) (by kernel_rfl) (by kernel_rfl) (fun _ _ _ h=>h) (Or.inl ⟨by rfl,?_⟩) (by assumption) ?_
  rotate_left
  ·(intro w hSw;(try dsimp only at hSw);go_simp;(first | done | with_reducible rfl))
  try simp only [Act.put,List.setIfInBounds_toArray,List.set_cons_zero,List.set_cons_succ]
  refine wpAnyH_ready (rs:=[7]) (by kernel_rfl) (by simp) ?_
  refine AllReadyH.cons (ata (atS (atS (atS (atS (atS (atS (atS at0)))))))) (fun K hK=>?_) AllReadyH.nil
  refine wp_store_row _ _ _ rfl w.heap.size zO rfl rfl 29 zO HPD.out (by kernel_rfl) rfl (by kernel_rfl) ?_
  refine hK.out _ _ (by exact HKE.out) (fun hHeld=>?_)
  clear hK K
  try simp only [Act.put,List.setIfInBounds_toArray,List.set_cons_zero,List.set_cons_succ]
  refine wpAnyH_ready (rs:=[8]) (by kernel_rfl) (by simp) ?_
  refine AllReadyH.cons (ata (atS (atS (atS (atS (atS (atS (atS (atS at0))))))))) (fun K hK=>?_) AllReadyH.nil
  refine wp_store_row _ _ _ rfl (w.heap.size+1) #[.int .i64 er,.int .i64 (IntKind.i64.wrap ((ln:Int)+1))] rfl rfl 32 #[.int .i64 0,.int .i64 0] HSE.out (by kernel_rfl) rfl (spot_all _ _) ?_
  refine hK.out _ _ (by exact HKF.out) (fun hHeld=>?_)
  clear hK K
  try simp only [Act.put,List.setIfInBounds_toArray,List.set_cons_zero,List.set_cons_succ]
  refine wpAnyH_done (by kernel_rfl) ?_ _
  go_wp2
  rw [HWR.out]
  exact dopa_ret (o:=Ord.zero) (g:=g0) (Below.drew HL5.out) rfl rfl HPD.out HSD.out rfl (by rw [HR1.out];rfl) (sr_zero _)
end Go.Proofs.YtekcjfdllclphaaGreatDoor.gn
end
