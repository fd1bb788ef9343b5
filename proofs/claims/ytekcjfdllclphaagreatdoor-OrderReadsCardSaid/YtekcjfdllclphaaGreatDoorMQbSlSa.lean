/- The contract of slip.Same. (Written by gen_slSa.py.) -/
import Derived.Test.YtekcjfdllclphaaGreatDoorMQbDiL
import Derived.Test.YtekcjfdllclphaaGreatDoorMQbSlCk
import Derived.Great.Ranges
import Derived.Test.YtekcjfdllclphaaGreatDoorMQbGenTail
set_option linter.unusedVariables false
set_option linter.unusedSimpArgs false
section
namespace Go.Proofs.YtekcjfdllclphaaGreatDoor.gn
open Go.RowKit
open Go.Proofs.YtekcjfdllclphaaGreatDoor.un
open Go.Proofs.YtekcjfdllclphaaGreatDoor.di
open Go.Proofs.YtekcjfdllclphaaGreatDoor.sp (Slip)
theorem SR.lens {w:World} {x:Slip} {g:Gh} (h:SR w x g):x.after.length≤maxLen∧x.make.length≤maxLen∧x.drop.length≤maxLen∧x.use.length≤maxLen:=by
 obtain ⟨_,_,_,a,b⟩:=h.ca
 obtain ⟨_,_,_,c,d⟩:=h.cm
 obtain ⟨_,_,_,e,f⟩:=h.cd
 obtain ⟨_,_,_,i,j⟩:=h.cu
 exact ⟨by omega,by omega,by omega,by omega⟩
theorem dec_slip (us us':Tx) (nodes nodes' wall wall' qos qos':Int) (after after':List Dep) (cap cap' inn inn' out out':Int) (pool pool':Tx) (mk mk':List Dir) (dr dr' use use':List Tx) :
  decide ((⟨us,nodes,wall,qos,after,cap,inn,out,pool,mk,dr,use⟩:Slip)=⟨us',nodes',wall',qos',after',cap',inn',out',pool',mk',dr',use'⟩) =
   (decide (us=us') && decide (nodes=nodes') && decide (wall=wall') && decide (qos=qos') && decide (after=after') && decide (cap=cap') && decide (inn=inn') && decide (out=out') && decide (pool=pool') && decide (mk=mk') && decide (dr=dr') && decide (use=use')):=by
 rw [Bool.eq_iff_iff]
 simp only [decide_eq_true_eq,Bool.and_eq_true,Slip.mk.injEq]
 simp only [and_assoc]
theorem same_end {tmps:Array Value} {b D:Bool} {w W:World} (h:tmps.getD 4 undef=.bool b) (hD:D=b) (hb:Below w.heap.size w W):bodyPost Tryz.prog Tryz.f36 (Told (.bool D) w) Exit.ret ⟨tmps,[]⟩ W:=by
 refine bodyPost_ret (v:=.bool b) ?_ rfl ⟨by rw [hD],hb⟩
 rw [results_tmp rfl,h]
set_option maxRecDepth 100000 in
set_option maxHeartbeats 16000000 in
theorem Same_slip (x y:Slip) (g g':Gh) (w:World) (h:SR w x g) (h':SR w y g'):Calls Tryz.prog 36 #[sV x g,sV y g'] w (Told (.bool (decide (x=y))) w):=by
 obtain ⟨wb,hwb⟩:∃ wb,(w.alloc (.cells (scs x g) 27)).alloc (.cells (scs y g') 27)=wb:=⟨_,rfl⟩
 have hb0:Below w.heap.size w wb:=by rw [←hwb];exact ((Below.refl _ _).alloc (Nat.le_refl _) _).alloc (by simp) _
 have hx1:BoxA wb w.heap.size 27 (scs x g):=by rw [←hwb];exact (BoxA.new w _ _).next ((Below.refl _ _).alloc (Nat.le_refl _) _)
 have hx2:BoxA wb (w.heap.size+1) 27 (scs y g'):=by
  have:=BoxA.new (w.alloc (.cells (scs x g) 27)) 27 (scs y g')
  rw [World.size_alloc,hwb] at this
  exact this
 have HB0:=Lib.hid hb0
 have HWB:=Lib.hid hwb
 have HCX:=Lib.hid (fun (W:World) (hb:Below wb.heap.size wb W)=>cel_box (hx1.next hb))
 have HCY:=Lib.hid (fun (W:World) (hb:Below wb.heap.size wb W)=>cel_box (hx2.next hb))
 have hs:=fun (W:World) (hb:Below wb.heap.size wb W)=>(h.next hb0).next hb
 have hs':=fun (W:World) (hb:Below wb.heap.size wb W)=>(h'.next hb0).next hb
 have H1:=Lib.hid (fun (W:World) (hb:Below wb.heap.size wb W)=>equal_A x.after y.after g.a g'.a W (hs W hb).a (hs' W hb).a h.lens.1 h'.lens.1)
 have H2:=Lib.hid (fun (W:World) (hb:Below wb.heap.size wb W)=>equal_M x.make y.make g.m g'.m W (hs W hb).m (hs' W hb).m h.lens.2.1 h'.lens.2.1)
 have H3:=Lib.hid (fun (W:World) (hb:Below wb.heap.size wb W)=>equal_S x.drop y.drop g.d g'.d W (hs W hb).d (hs' W hb).d h.lens.2.2.1 h'.lens.2.2.1)
 have H4:=Lib.hid (fun (W:World) (hb:Below wb.heap.size wb W)=>equal_S x.use y.use g.u g'.u W (hs W hb).u (hs' W hb).u h.lens.2.2.2 h'.lens.2.2.2)
 clear h h' hb0 hwb hx1 hx2 hs hs'
 obtain ⟨va,vm,vd,vu⟩:=g
 obtain ⟨va',vm',vd',vu'⟩:=g'
 obtain ⟨us,nodes,wall,qos,after,cap,inn,out,pool,mk,dr,use⟩:=x
 obtain ⟨us',nodes',wall',qos',after',cap',inn',out',pool',mk',dr',use'⟩:=y
 unfold sV scs at *
 dsimp only at *
 generalize hD:decide ((⟨us,nodes,wall,qos,after,cap,inn,out,pool,mk,dr,use⟩:Slip)=⟨us',nodes',wall',qos',after',cap',inn',out',pool',mk',dr',use'⟩)=D
 have HD:=Lib.hid hD
 clear hD
 obtain ⟨b0,hb0⟩:∃ b,decide (us=us')=b:=⟨_,rfl⟩
 have q0:((str us).toList == (str us').toList)=b0:=by rw [eq_str];exact hb0
 have r0:decide ((str us).toList=(str us').toList)=b0:=by rw [str_toList,str_toList];exact hb0
 obtain ⟨b1,hb1⟩:∃ b,decide (nodes=nodes')=b:=⟨_,rfl⟩
 have q1:(nodes == nodes')=b1:=by rw [←hb1,Bool.eq_iff_iff,beq_iff_eq,decide_eq_true_eq]
 obtain ⟨b2,hb2⟩:∃ b,decide (wall=wall')=b:=⟨_,rfl⟩
 have q2:(wall == wall')=b2:=by rw [←hb2,Bool.eq_iff_iff,beq_iff_eq,decide_eq_true_eq]
 obtain ⟨b3,hb3⟩:∃ b,decide (qos=qos')=b:=⟨_,rfl⟩
 have q3:(qos == qos')=b3:=by rw [←hb3,Bool.eq_iff_iff,beq_iff_eq,decide_eq_true_eq]
 obtain ⟨b4,hb4⟩:∃ b,decide (after=after')=b:=⟨_,rfl⟩
 rw [hb4] at H1
 obtain ⟨b5,hb5⟩:∃ b,decide (cap=cap')=b:=⟨_,rfl⟩
 have q5:(cap == cap')=b5:=by rw [←hb5,Bool.eq_iff_iff,beq_iff_eq,decide_eq_true_eq]
 obtain ⟨b6,hb6⟩:∃ b,decide (inn=inn')=b:=⟨_,rfl⟩
 have q6:(inn == inn')=b6:=by rw [←hb6,Bool.eq_iff_iff,beq_iff_eq,decide_eq_true_eq]
 obtain ⟨b7,hb7⟩:∃ b,decide (out=out')=b:=⟨_,rfl⟩
 have q7:(out == out')=b7:=by rw [←hb7,Bool.eq_iff_iff,beq_iff_eq,decide_eq_true_eq]
 obtain ⟨b8,hb8⟩:∃ b,decide (pool=pool')=b:=⟨_,rfl⟩
 have q8:((str pool).toList == (str pool').toList)=b8:=by rw [eq_str];exact hb8
 have r8:decide ((str pool).toList=(str pool').toList)=b8:=by rw [str_toList,str_toList];exact hb8
 obtain ⟨b9,hb9⟩:∃ b,decide (mk=mk')=b:=⟨_,rfl⟩
 rw [hb9] at H2
 obtain ⟨b10,hb10⟩:∃ b,decide (dr=dr')=b:=⟨_,rfl⟩
 rw [hb10] at H3
 obtain ⟨b11,hb11⟩:∃ b,decide (use=use')=b:=⟨_,rfl⟩
 rw [hb11] at H4
 have HF:=Lib.hid (show D=(b0 && b1 && b2 && b3 && b4 && b5 && b6 && b7 && b8 && b9 && b10 && b11) by rw [←HD.out,← hb0,← hb1,← hb2,← hb3,← hb4,← hb5,← hb6,← hb7,← hb8,← hb9,← hb10,← hb11,dec_slip])
 clear hb0 hb1 hb2 hb3 hb4 hb5 hb6 hb7 hb8 hb9 hb10 hb11
 obtain ⟨c0,c1,c2,c3,c4,c5,c6,c7,c8,c9,c10,c11,clt⟩:=HCX.out wb (Below.refl _ _)
 obtain ⟨d0,d1,d2,d3,d4,d5,d6,d7,d8,d9,d10,d11,dlt⟩:=HCY.out wb (Below.refl _ _)
 dsimp only at c0 c1 c2 c3 c4 c5 c6 c7 c8 c9 c10 c11 d0 d1 d2 d3 d4 d5 d6 d7 d8 d9 d10 d11
 go_enter Tryz.func36,Tryz.ntmps36
 apply wp_seq_k
 intro K hK
 apply wp_region_lit
 refine Great.wpList_boxTo rfl _ _ rfl _ rfl w.heap.size rfl #[.string (str us),.int .i64 nodes,.int .i64 wall,.int .i64 qos,va,.int .i64 cap,.int .i64 inn,.int .i64 out,.string (str pool),vm,vd,vu] rfl ?_
 simp only [Act.put,List.setIfInBounds_toArray,List.set_cons_zero,List.set_cons_succ]
 refine Great.wpList_boxTo rfl _ _ rfl _ rfl (w.heap.size+1) (World.size_alloc _ _) #[.string (str us'),.int .i64 nodes',.int .i64 wall',.int .i64 qos',va',.int .i64 cap',.int .i64 inn',.int .i64 out',.string (str pool'),vm',vd',vu'] rfl ?_
 rw [HWB.out]
 simp only [Act.put,List.setIfInBounds_toArray,List.set_cons_zero,List.set_cons_succ]
 go_upto_region 1 with fail
 apply wp_region_lit
 repeat ((fail_if_success (refine guard_split (g:=5) (pol:=true) (b:=b0) rfl ?_ ?_ ?_));first | go_values | go_skip | go_guarded | go_step | go_upon)
 refine guard_split (g:=5) (pol:=true) (b:=b0) rfl (by kernel_rfl) (fun hbb=>?_) (fun hbb=>?_)
 rotate_left
 ·subst hbb
  refine tail_at 4 (.bool false) (by kernel_rfl) (fun tmps ht=>?_)
  go_wp2
  exact same_end ht (show D=false by rw [HF.out];rfl) (HB0.out)
 subst hbb
 repeat ((fail_if_success (refine guard_split (g:=12) (pol:=true) (b:=b1) rfl ?_ ?_ ?_));first | go_values | go_skip | go_guarded | go_step | go_upon)
 refine guard_split (g:=12) (pol:=true) (b:=b1) rfl (by kernel_rfl) (fun hbb=>?_) (fun hbb=>?_)
 rotate_left
 ·subst hbb
  refine tail_at 4 (.bool false) (by kernel_rfl) (fun tmps ht=>?_)
  go_wp2
  exact same_end ht (show D=false by rw [HF.out];rfl) (HB0.out)
 subst hbb
 repeat ((fail_if_success (refine guard_split (g:=19) (pol:=true) (b:=b2) rfl ?_ ?_ ?_));first | go_values | go_skip | go_guarded | go_step | go_upon)
 refine guard_split (g:=19) (pol:=true) (b:=b2) rfl (by kernel_rfl) (fun hbb=>?_) (fun hbb=>?_)
 rotate_left
 ·subst hbb
  refine tail_at 4 (.bool false) (by kernel_rfl) (fun tmps ht=>?_)
  go_wp2
  exact same_end ht (show D=false by rw [HF.out];rfl) (HB0.out)
 subst hbb
 repeat ((fail_if_success (refine guard_split (g:=26) (pol:=true) (b:=b3) rfl ?_ ?_ ?_));first | go_values | go_skip | go_guarded | go_step | go_upon)
 refine guard_split (g:=26) (pol:=true) (b:=b3) rfl (by kernel_rfl) (fun hbb=>?_) (fun hbb=>?_)
 rotate_left
 ·subst hbb
  refine tail_at 4 (.bool false) (by kernel_rfl) (fun tmps ht=>?_)
  go_wp2
  exact same_end ht (show D=false by rw [HF.out];rfl) (HB0.out)
 subst hbb
 repeat ((fail_if_success (refine guard_split (g:=33) (pol:=true) (b:=b4) rfl ?_ ?_ ?_));first | (go_at_call 62;((with_reducible refine (H1.out _ (Below.refl _ _)).mono ?_);rintro e w1 ⟨rfl,hb⟩);have A1:=Lib.hid (show Below wb.heap.size wb w1 from hb);obtain ⟨-,-,-,-,-,c5,c6,c7,c8,c9,c10,c11,clt⟩:=HCX.out _ A1.out;obtain ⟨-,-,-,-,-,d5,d6,d7,d8,d9,d10,d11,dlt⟩:=HCY.out _ A1.out;dsimp only at c5 c6 c7 c8 c9 c10 c11 d5 d6 d7 d8 d9 d10 d11;clear hb;dsimp only) | go_values | go_skip | go_guarded | go_step | go_upon)
 refine guard_split (g:=33) (pol:=true) (b:=b4) rfl (by kernel_rfl) (fun hbb=>?_) (fun hbb=>?_)
 rotate_left
 ·subst hbb
  refine tail_at 4 (.bool false) (by kernel_rfl) (fun tmps ht=>?_)
  go_wp2
  exact same_end ht (show D=false by rw [HF.out];rfl) (HB0.out.trans (A1.out.mono HB0.out.size))
 subst hbb
 repeat ((fail_if_success (refine guard_split (g:=40) (pol:=true) (b:=b5) rfl ?_ ?_ ?_));first | go_values | go_skip | go_guarded | go_step | go_upon)
 refine guard_split (g:=40) (pol:=true) (b:=b5) rfl (by kernel_rfl) (fun hbb=>?_) (fun hbb=>?_)
 rotate_left
 ·subst hbb
  refine tail_at 4 (.bool false) (by kernel_rfl) (fun tmps ht=>?_)
  go_wp2
  exact same_end ht (show D=false by rw [HF.out];rfl) (HB0.out.trans (A1.out.mono HB0.out.size))
 subst hbb
 repeat ((fail_if_success (refine guard_split (g:=47) (pol:=true) (b:=b6) rfl ?_ ?_ ?_));first | go_values | go_skip | go_guarded | go_step | go_upon)
 refine guard_split (g:=47) (pol:=true) (b:=b6) rfl (by kernel_rfl) (fun hbb=>?_) (fun hbb=>?_)
 rotate_left
 ·subst hbb
  refine tail_at 4 (.bool false) (by kernel_rfl) (fun tmps ht=>?_)
  go_wp2
  exact same_end ht (show D=false by rw [HF.out];rfl) (HB0.out.trans (A1.out.mono HB0.out.size))
 subst hbb
 repeat ((fail_if_success (refine guard_split (g:=54) (pol:=true) (b:=b7) rfl ?_ ?_ ?_));first | go_values | go_skip | go_guarded | go_step | go_upon)
 refine guard_split (g:=54) (pol:=true) (b:=b7) rfl (by kernel_rfl) (fun hbb=>?_) (fun hbb=>?_)
 rotate_left
 ·subst hbb
  refine tail_at 4 (.bool false) (by kernel_rfl) (fun tmps ht=>?_)
  go_wp2
  exact same_end ht (show D=false by rw [HF.out];rfl) (HB0.out.trans (A1.out.mono HB0.out.size))
 subst hbb
 repeat ((fail_if_success (refine guard_split (g:=61) (pol:=true) (b:=b8) rfl ?_ ?_ ?_));first | go_values | go_skip | go_guarded | go_step | go_upon)
 refine guard_split (g:=61) (pol:=true) (b:=b8) rfl (by kernel_rfl) (fun hbb=>?_) (fun hbb=>?_)
 rotate_left
 ·subst hbb
  refine tail_at 4 (.bool false) (by kernel_rfl) (fun tmps ht=>?_)
  go_wp2
  exact same_end ht (show D=false by rw [HF.out];rfl) (HB0.out.trans (A1.out.mono HB0.out.size))
 subst hbb
 repeat ((fail_if_success (refine guard_split (g:=68) (pol:=true) (b:=b9) rfl ?_ ?_ ?_));first | (go_at_call 63;((with_reducible refine (H2.out _ A1.out).mono ?_);rintro e w2 ⟨rfl,hb⟩);have A2:=Lib.hid (show Below wb.heap.size wb w2 from (A1.out.trans (hb.mono A1.out.size)));obtain ⟨-,-,-,-,-,-,-,-,-,-,c10,c11,clt⟩:=HCX.out _ A2.out;obtain ⟨-,-,-,-,-,-,-,-,-,-,d10,d11,dlt⟩:=HCY.out _ A2.out;dsimp only at c10 c11 d10 d11;clear hb;dsimp only) | go_values | go_skip | go_guarded | go_step | go_upon)
 refine guard_split (g:=68) (pol:=true) (b:=b9) rfl (by kernel_rfl) (fun hbb=>?_) (fun hbb=>?_)
 rotate_left
 ·subst hbb
  refine tail_at 4 (.bool false) (by kernel_rfl) (fun tmps ht=>?_)
  go_wp2
  exact same_end ht (show D=false by rw [HF.out];rfl) (HB0.out.trans (A2.out.mono HB0.out.size))
 subst hbb
 repeat ((fail_if_success (refine guard_split (g:=75) (pol:=true) (b:=b10) rfl ?_ ?_ ?_));first | (go_at_call 64;((with_reducible refine (H3.out _ A2.out).mono ?_);rintro e w3 ⟨rfl,hb⟩);have A3:=Lib.hid (show Below wb.heap.size wb w3 from (A2.out.trans (hb.mono A2.out.size)));obtain ⟨-,-,-,-,-,-,-,-,-,-,-,c11,clt⟩:=HCX.out _ A3.out;obtain ⟨-,-,-,-,-,-,-,-,-,-,-,d11,dlt⟩:=HCY.out _ A3.out;dsimp only at c11 d11;clear hb;dsimp only) | go_values | go_skip | go_guarded | go_step | go_upon)
 refine guard_split (g:=75) (pol:=true) (b:=b10) rfl (by kernel_rfl) (fun hbb=>?_) (fun hbb=>?_)
 rotate_left
 ·subst hbb
  refine tail_at 4 (.bool false) (by kernel_rfl) (fun tmps ht=>?_)
  go_wp2
  exact same_end ht (show D=false by rw [HF.out];rfl) (HB0.out.trans (A3.out.mono HB0.out.size))
 subst hbb
 go_wp2_with ((go_at_call 64;((with_reducible refine (H4.out _ A3.out).mono ?_);rintro e w4 ⟨rfl,hb⟩);have A4:=Lib.hid (show Below wb.heap.size wb w4 from (A3.out.trans (hb.mono A3.out.size)));clear hb))
 exact same_end rfl (show D=b11 by rw [HF.out];rfl) (HB0.out.trans (A4.out.mono HB0.out.size))
end Go.Proofs.YtekcjfdllclphaaGreatDoor.gn
end
