/- OrderTexts' walk. (Written by gen_orTe.py.) -/
import Derived.Test.YtekcjfdllclphaaGreatDoorMQaOrKn
import Derived.Test.YtekcjfdllclphaaGreatDoorMQaOrZ
import Derived.Test.YtekcjfdllclphaaGreatDoorMQaOrDs
import Derived.Deep.RegionHeld3
import Derived.Test.YtekcjfdllclphaaGreatDoorMQaOrHd
section
set_option linter.unusedVariables false
set_option linter.unusedSimpArgs false
namespace Go.Proofs.YtekcjfdllclphaaGreatDoor.gn
open Go.RowKit
open Go.Proofs.YtekcjfdllclphaaGreatDoor.un
open Go.Proofs.YtekcjfdllclphaaGreatDoor.di
open Go.Proofs.YtekcjfdllclphaaGreatDoor.sp (Slip)
open Go.Proofs.YtekcjfdllclphaaGreatDoor.od (Ord OkO oread chkO chkO_iff txtO oread_txt txtO_len)
theorem look_mid {x:Slip} (h:Look x):Mid x :=
 ⟨by have:=h.user;omega,by have:=h.pool;omega,by have:=h.after;omega,⟨by have:=h.make.1;omega,fun d hd=>by have:=h.make.2 d hd;omega⟩,⟨by have:=h.drop.1;omega,fun s hs=>by have:=h.drop.2 s hs;omega⟩,⟨by have:=h.use.1;omega,fun s hs=>by have:=h.use.2 s hs;omega⟩⟩
theorem exec_load_row {P:Program} {o:Oper} {ev:Operand→Value} {w:World} (ty:TypeId) (x:Operand) (ho:o.op=.load ty x)
  (g:Nat) (hx:ev x=.pointer (some ⟨g,0,none⟩)) (t:TypeId) (cs:Array Value) (fr:Nat × Nat) (d:TypeDesc) (hg:w.heap[g]?=some (.cells cs t fr))
  (hu:P.underlying ty=some d) (hd:(match d with | .struct _ | .array _ _=>true | _=>false)=true) (hi:(P.info? ty).map (·.size)=some cs.size) :
  (execOp ev o).run P w=.ok (.value (.agg cs)) w:=by
 unfold execOp
 simp only [ho,hx,Instr.loadAt,Instr.sureAddr,Sem.run_bind,Sem.run_pure,Result.andThen_ok,run_loadVar_row w g t ty cs fr d hg hu hd hi]
set_option maxRecDepth 100000 in
set_option maxHeartbeats 32000000 in
theorem otexts_no (x y:Ord) (gx gy:Gh) (w:World) (hx:SR w x.slip gx) (hy:SR w y.slip gy) (ax:OA x) (ay:OA y) (hL:LaidD w) (hc:¬ chkO x=true):Calls Tryz.prog 4 #[oV x gx,oV y gy] w (Told (.bool true) w):=by
 have HCC:=Lib.hid hc
 clear hc
 obtain ⟨W,hW,bx,by_,lW⟩:=two_orders w x y gx gy
 have HL:=Lib.hid (fun (X:World) (hb:Below w.heap.size w X)=>hL.next hb)
 have HHD:=Lib.hid (fun (X:World) (hb:Below w.heap.size w X)=>ohead_yes X (hL.next hb))
 have HW:=Lib.hid hW
 have LW:=Lib.hid lW
 have HGX:=Lib.hid (ogreat_any x gx W (hx.next lW) ax)
 have HGY:=Lib.hid (fun (X:World) (hb:Below W.heap.size W X)=>ogreat_any y gy X ((hy.next lW).next hb) ay)
 have HBX:=Lib.hid (fun (X:World) (hb:Below W.heap.size W X)=>bx.next hb)
 have HBY:=Lib.hid (fun (X:World) (hb:Below W.heap.size W X)=>by_.next hb)
 have HSX:=Lib.hid (fun (X:World) (hb:Below W.heap.size W X)=>(hx.next lW).next hb)
 have HSY:=Lib.hid (fun (X:World) (hb:Below W.heap.size W X)=>(hy.next lW).next hb)
 have HUP:=Lib.hid (fun (X:World) (hb:Below W.heap.size W X)=>(show Below w.heap.size w X from lW.trans (hb.mono lW.size)))
 have HAX:=Lib.hid ax
 have HAY:=Lib.hid ay
 unfold OGrT oV at HGX HGY
 have hbx:=bx
 have hby:=by_
 clear hx hy ax ay hL hW lW bx by_
 go_enter Tryz.func4,Tryz.ntmps4
 apply wp_seq_k
 intro K hK
 apply wp_region_lit
 refine Great.wpList_boxTo rfl _ _ rfl _ rfl w.heap.size rfl (ocs x gx) rfl ?_
 simp only [Act.put,List.setIfInBounds_toArray,List.set_cons_zero,List.set_cons_succ]
 refine Great.wpList_boxTo rfl _ _ rfl _ rfl (w.heap.size+1) (World.size_alloc _ _) (ocs y gy) rfl ?_
 rw [HW.out]
 simp only [Act.put,List.setIfInBounds_toArray,List.set_cons_zero,List.set_cons_succ]
 go_upto_region 3 with (first
  | (refine wpl_load_g (by rfl) _ _ rfl w.heap.size rfl _ _ _ _ hbx Tryz.underlying29 rfl (by kernel_rfl) ?_)
  | (refine wpl_load_g (by rfl) _ _ rfl (w.heap.size+1) rfl _ _ _ _ (HBY.out _ A1.out) Tryz.underlying29 rfl (by kernel_rfl) ?_)
  | (go_at_call 11;((with_reducible refine HGX.out.mono ?_);rintro e w1 ⟨b1,rfl,hk1,hb⟩);have A1:=Lib.hid hb;have K1:=Lib.hid hk1;clear hb hk1;cases b1)
  | (go_at_call 11;((with_reducible refine (HGY.out _ A1.out).mono ?_);rintro e w2 ⟨b2,rfl,hk2,hb⟩);have A2:=Lib.hid (A1.out.trans (hb.mono A1.out.size));have K2:=Lib.hid hk2;clear hb hk2;cases b2)
  | (go_at_call 7;((with_reducible refine (HHD.out _ (HUP.out _ (by first | exact A2.out | exact A1.out))).mono ?_);rintro e w3 ⟨rfl,hb⟩);have A3:=Lib.hid (Below.trans (HUP.out _ (by first | exact A2.out | exact A1.out)) (hb.mono (Below.size (HUP.out _ (by first | exact A2.out | exact A1.out)))));clear hb))
 rotate_left
 ·go_ret
  exact ⟨rfl,A3.out⟩
 ·go_ret
  exact ⟨rfl,A3.out⟩
 have lx:=K1.out (by trivial)
 have HOX:=Lib.hid (HAX.out.ow lx)
 have hmid:=look_mid lx.slip
 have hln:x.name.length≤100000∧x.pool.length≤100000∧x.user.length≤100000:=⟨by have:=lx.name;omega,by have:=lx.pool;omega,by have:=lx.user;omega⟩
 have HTX:=Lib.hid (fun (X:World) (hb:Below W.heap.size W X)=>Text_ord x gx X (HSX.out X hb) HAX.out.slip HOX.out (HL.out X (HUP.out X hb)))
 have HTD:=Lib.hid (fun (X:World) (hb:Below W.heap.size W X)=>dText_ord x gx X (HSX.out X hb) HAX.out.slip hmid HOX.out hln)
 have HCK:=Lib.hid (fun (X:World) (hb:Below W.heap.size W X)=>Check_ord x gx X (HSX.out X hb) HAX.out.slip HOX.out (HL.out X (HUP.out X hb)))
 have HSP:=Lib.hid (fun (X:World) (hb:Below W.heap.size W X)=>Same_ord x y gx gy X (HSX.out X hb) (HSY.out X hb))
 have HSD:=Lib.hid (fun (X:World) (hb:Below W.heap.size W X)=>dSame_ord x y gx gy X (HSX.out X hb) (HSY.out X hb))
 unfold OTextT oV at HTX HTD
 unfold oV at HCK HSP HSD
 have HE:=Lib.hid (show oE x=160∧oT x=[] by unfold oE oT;rw [if_neg HCC.out,if_neg HCC.out];exact ⟨rfl,rfl⟩)
 rw [HE.out.1] at HTX HTD HCK
 rw [HE.out.2] at HTX HTD
 obtain ⟨T,hT⟩:∃ T,str []=T:=⟨_,rfl⟩
 rw [hT] at HTX HTD
 have HTE:=Lib.hid hT
 obtain ⟨DD,hDD⟩:∃ DD,decide (x=y)=DD:=⟨_,rfl⟩
 rw [hDD] at HSP HSD
 have qD:(DD != DD)=false:=by cases DD <;> rfl
 have qD2:(DD == DD)=true:=by cases DD <;> rfl
 have qT:(T.toList == T.toList)=true:=by simp
 have HKK:=Lib.hid (fun (X:World) (hb:Below W.heap.size W X)=>(show OrdB X w.heap.size x gx∧OrdB X (w.heap.size+1) y gy from ⟨HBX.out X hb,HBY.out X hb⟩))
 clear lx hmid hln hbx hby K1 K2 HGX HGY HAY hT hDD
 go_upto_region 5 with (first
  | (refine wpl_load_g (by rfl) _ _ rfl w.heap.size rfl _ _ _ _ (HBX.out _ A2.out) Tryz.underlying29 rfl (by kernel_rfl) ?_)
  | (refine wpl_load_g (by rfl) _ _ rfl w.heap.size rfl _ _ _ _ (HBX.out _ A3.out) Tryz.underlying29 rfl (by kernel_rfl) ?_)
  | (go_at_call 12;((with_reducible refine (HTX.out _ A2.out).mono ?_);rintro e w3 ⟨rfl,hb⟩);have A3:=Lib.hid (A2.out.trans (hb.mono A2.out.size));clear hb)
  | (go_at_call 13;((with_reducible refine (HTD.out _ A3.out).mono ?_);rintro e w4 ⟨rfl,hb⟩);have A4:=Lib.hid (A3.out.trans (hb.mono A3.out.size));clear hb))
 go_cut [50] (fun s50 wx=>s50=.bool false∧Aside (Below W.heap.size W wx))
 case first =>
  as_aux_lemma =>
   have AY:=Lib.hid (A4.out.trans ((drew_low w4).mono A4.out.size))
   clear HTX HTD HL HHD HSX HSY HOX HAX HW LW
   refine wp_region_held_drew (S:=(fun X=>OrdB X w.heap.size x gx∧OrdB X (w.heap.size+1) y gy)) (by kernel_rfl) (by exact HKK.out _ AY.out) (fun hHeld=>?_)
   refine wpAnyH_take (i:=0) (v:=?_) (ata at0) (by kernel_rfl) (by kernel_rfl) (by kernel_rfl) (fun _ _ _ h=>h) (Or.inl ⟨by rfl,?_⟩) (by assumption) ?_
   rotate_left
   ·(intro w hSw;(try dsimp only at hSw);go_simp;(first | done | with_reducible rfl))
   try simp only [Act.put,List.setIfInBounds_toArray,List.set_cons_zero,List.set_cons_succ]
   refine wpAnyH_take (i:=1) (v:=?_) (ata (atS at0)) (by kernel_rfl) (by kernel_rfl) (by kernel_rfl) (fun _ _ _ h=>h) (Or.inl ⟨by rfl,?_⟩) (by assumption) ?_
   rotate_left
   ·(intro w hSw;(try dsimp only at hSw);go_simp;(first | done | with_reducible rfl))
   try simp only [Act.put,List.setIfInBounds_toArray,List.set_cons_zero,List.set_cons_succ]
   refine wpAnyH_take (i:=2) (v:=?_) (ata (atS (atS at0))) (by kernel_rfl) (by kernel_rfl) (by kernel_rfl) (fun _ _ _ h=>h) (Or.inl ⟨by rfl,?_⟩) (by assumption) ?_
   rotate_left
   ·(intro w hSw;(try dsimp only at hSw);go_simp;(first | done | with_reducible rfl))
   try simp only [Act.put,List.setIfInBounds_toArray,List.set_cons_zero,List.set_cons_succ]
   refine wpAnyH_take (i:=3) (v:=?_) (ata (atS (atS (atS at0)))) (by kernel_rfl) (by kernel_rfl) (by kernel_rfl) (fun _ _ _ h=>h) (Or.inl ⟨by rfl,?_⟩) (by assumption) ?_
   rotate_left
   ·(intro w hSw;(try dsimp only at hSw);go_simp;(first | done | with_reducible rfl))
   try simp only [Act.put,List.setIfInBounds_toArray,List.set_cons_zero,List.set_cons_succ]
   refine wpAnyH_take (i:=4) (v:=?_) (ata (atS (atS (atS (atS at0))))) (by kernel_rfl) (by kernel_rfl) (by kernel_rfl) (fun _ _ _ h=>h) (Or.inl ⟨by rfl,?_⟩) (by assumption) ?_
   rotate_left
   ·(intro w hSw;(try dsimp only at hSw);go_simp;(first | done | with_reducible rfl))
   try simp only [Act.put,List.setIfInBounds_toArray,List.set_cons_zero,List.set_cons_succ]
   refine wpAnyH_take (i:=5) (v:=?_) (ata (atS (atS (atS (atS (atS at0)))))) (by kernel_rfl) (by kernel_rfl) (by kernel_rfl) (fun _ _ _ h=>h) (Or.inl ⟨by rfl,?_⟩) (by assumption) ?_
   rotate_left
   ·(intro w hSw;(try dsimp only at hSw);go_simp;(first | done | with_reducible rfl))
   try simp only [Act.put,List.setIfInBounds_toArray,List.set_cons_zero,List.set_cons_succ]
   refine wpAnyH_take (i:=6) (v:=?_) (ata (atS (atS (atS (atS (atS (atS at0))))))) (by kernel_rfl) (by kernel_rfl) (by kernel_rfl) (fun _ _ _ h=>h) (Or.inl ⟨by rfl,?_⟩) (by assumption) ?_
   rotate_left
   ·(intro w hSw;(try dsimp only at hSw);go_simp;(first | done | with_reducible rfl))
   try simp only [Act.put,List.setIfInBounds_toArray,List.set_cons_zero,List.set_cons_succ]
   refine wpAnyH_take (i:=7) (v:=?_) (ata (atS (atS (atS (atS (atS (atS (atS at0)))))))) (by kernel_rfl) (by kernel_rfl) (by kernel_rfl) (fun _ _ _ h=>h) (Or.inl ⟨by rfl,?_⟩) (by assumption) ?_
   rotate_left
   ·(intro w hSw;(try dsimp only at hSw);go_simp;(first | done | with_reducible rfl))
   try simp only [Act.put,List.setIfInBounds_toArray,List.set_cons_zero,List.set_cons_succ]
   refine wpAnyH_take (i:=8) (v:=?_) (ata (atS (atS (atS (atS (atS (atS (atS (atS at0))))))))) (by kernel_rfl) (by kernel_rfl) (by kernel_rfl) (fun _ _ _ h=>h) (Or.inl ⟨by rfl,?_⟩) (by assumption) ?_
   rotate_left
   ·(intro w hSw;(try dsimp only at hSw);go_simp;(first | done | with_reducible rfl))
   try simp only [Act.put,List.setIfInBounds_toArray,List.set_cons_zero,List.set_cons_succ]
   refine wpAnyH_take (i:=9) (v:=.agg (ocs x gx)) (ata (atS (atS (atS (atS (atS (atS (atS (atS (atS at0)))))))))) (by kernel_rfl) (by kernel_rfl) (by kernel_rfl) (fun _ _ _ h=>h) (Or.inl ⟨by rfl,?_⟩) (by assumption) ?_
   ·intro X hX;exact exec_load_row _ _ rfl (w.heap.size) rfl _ _ _ _ hX.1 Tryz.underlying29 rfl (by kernel_rfl)
   try simp only [Act.put,List.setIfInBounds_toArray,List.set_cons_zero,List.set_cons_succ]
   refine wpAnyH_take (i:=11) (v:=?_) (ata (atS (atS (atS (atS (atS (atS (atS (atS (atS (atS (atS at0)))))))))))) (by kernel_rfl) (by kernel_rfl) (by kernel_rfl) (fun _ _ _ h=>h) (Or.inl ⟨by rfl,?_⟩) (by assumption) ?_
   rotate_left
   ·(intro w hSw;(try dsimp only at hSw);go_simp;(first | done | with_reducible rfl))
   try simp only [Act.put,List.setIfInBounds_toArray,List.set_cons_zero,List.set_cons_succ]
   refine wpAnyH_ready (rs:=[10]) (by kernel_rfl) (by simp) ?_
   refine AllReadyH.cons (ata (atS (atS (atS (atS (atS (atS (atS (atS (atS (atS at0))))))))))) (fun K hK=>?_) AllReadyH.nil
   go_simp
   (go_at_call 14;((with_reducible refine (HCK.out _ AY.out).mono ?_);rintro e w5 ⟨rfl,hb⟩);have A5:=Lib.hid (show Below W.heap.size W w5 from Below.trans AY.out (hb.mono (Below.size AY.out)));clear hb)
   go_wp2_with fail
   refine hK.out _ _ (by exact HKK.out _ A5.out) (fun hHeld=>?_)
   clear hK K
   try simp only [Act.put,List.setIfInBounds_toArray,List.set_cons_zero,List.set_cons_succ]
   refine wpAnyH_take (i:=12) (v:=?_) (ata (atS (atS (atS (atS (atS (atS (atS (atS (atS (atS (atS (atS at0))))))))))))) (by kernel_rfl) (by kernel_rfl) (by kernel_rfl) (fun _ _ _ h=>h) (Or.inl ⟨by rfl,?_⟩) (by assumption) ?_
   rotate_left
   ·(intro w hSw;(try dsimp only at hSw);go_simp;(first | done | with_reducible rfl))
   try simp only [Act.put,List.setIfInBounds_toArray,List.set_cons_zero,List.set_cons_succ]
   refine wpAnyH_take (i:=13) (v:=?_) (ata (atS (atS (atS (atS (atS (atS (atS (atS (atS (atS (atS (atS (atS at0)))))))))))))) (by kernel_rfl) (by kernel_rfl) (by kernel_rfl) (fun _ _ _ h=>h) (Or.inl ⟨by rfl,?_⟩) (by assumption) ?_
   rotate_left
   ·(intro w hSw;(try dsimp only at hSw);go_simp;(first | done | with_reducible rfl))
   try simp only [Act.put,List.setIfInBounds_toArray,List.set_cons_zero,List.set_cons_succ]
   refine wpAnyH_take (i:=14) (v:=?_) (ata (atS (atS (atS (atS (atS (atS (atS (atS (atS (atS (atS (atS (atS (atS at0))))))))))))))) (by kernel_rfl) (by kernel_rfl) (by kernel_rfl) (fun _ _ _ h=>h) (Or.inl ⟨by rfl,?_⟩) (by assumption) ?_
   rotate_left
   ·(intro w hSw;(try dsimp only at hSw);go_simp;(first | done | with_reducible rfl))
   try simp only [Act.put,List.setIfInBounds_toArray,List.set_cons_zero,List.set_cons_succ]
   refine wpAnyH_take (i:=15) (v:=.agg (ocs x gx)) (ata (atS (atS (atS (atS (atS (atS (atS (atS (atS (atS (atS (atS (atS (atS (atS at0)))))))))))))))) (by kernel_rfl) (by kernel_rfl) (by kernel_rfl) (fun _ _ _ h=>h) (Or.inl ⟨by rfl,?_⟩) (by assumption) ?_
   ·intro X hX;exact exec_load_row _ _ rfl (w.heap.size) rfl _ _ _ _ hX.1 Tryz.underlying29 rfl (by kernel_rfl)
   try simp only [Act.put,List.setIfInBounds_toArray,List.set_cons_zero,List.set_cons_succ]
   refine wpAnyH_take (i:=16) (v:=.agg (ocs y gy)) (ata (atS (atS (atS (atS (atS (atS (atS (atS (atS (atS (atS (atS (atS (atS (atS (atS at0))))))))))))))))) (by kernel_rfl) (by kernel_rfl) (by kernel_rfl) (fun _ _ _ h=>h) (Or.inl ⟨by rfl,?_⟩) (by assumption) ?_
   ·intro X hX;exact exec_load_row _ _ rfl (w.heap.size+1) rfl _ _ _ _ hX.2 Tryz.underlying29 rfl (by kernel_rfl)
   try simp only [Act.put,List.setIfInBounds_toArray,List.set_cons_zero,List.set_cons_succ]
   refine wpAnyH_take (i:=18) (v:=.agg (ocs x gx)) (ata (atS (atS (atS (atS (atS (atS (atS (atS (atS (atS (atS (atS (atS (atS (atS (atS (atS (atS at0))))))))))))))))))) (by kernel_rfl) (by kernel_rfl) (by kernel_rfl) (fun _ _ _ h=>h) (Or.inl ⟨by rfl,?_⟩) (by assumption) ?_
   ·intro X hX;exact exec_load_row _ _ rfl (w.heap.size) rfl _ _ _ _ hX.1 Tryz.underlying29 rfl (by kernel_rfl)
   try simp only [Act.put,List.setIfInBounds_toArray,List.set_cons_zero,List.set_cons_succ]
   refine wpAnyH_take (i:=19) (v:=.agg (ocs y gy)) (ata (atS (atS (atS (atS (atS (atS (atS (atS (atS (atS (atS (atS (atS (atS (atS (atS (atS (atS (atS at0)))))))))))))))))))) (by kernel_rfl) (by kernel_rfl) (by kernel_rfl) (fun _ _ _ h=>h) (Or.inl ⟨by rfl,?_⟩) (by assumption) ?_
   ·intro X hX;exact exec_load_row _ _ rfl (w.heap.size+1) rfl _ _ _ _ hX.2 Tryz.underlying29 rfl (by kernel_rfl)
   try simp only [Act.put,List.setIfInBounds_toArray,List.set_cons_zero,List.set_cons_succ]
   refine wpAnyH_ready (rs:=[17]) (by kernel_rfl) (by simp) ?_
   refine AllReadyH.cons (ata (atS (atS (atS (atS (atS (atS (atS (atS (atS (atS (atS (atS (atS (atS (atS (atS (atS at0)))))))))))))))))) (fun K hK=>?_) AllReadyH.nil
   go_simp
   (go_at_call 15;((with_reducible refine (HSP.out _ A5.out).mono ?_);rintro e w6 ⟨rfl,hb⟩);have A6:=Lib.hid (show Below W.heap.size W w6 from Below.trans A5.out (hb.mono (Below.size A5.out)));clear hb)
   go_wp2_with fail
   refine hK.out _ _ (by exact HKK.out _ A6.out) (fun hHeld=>?_)
   clear hK K
   try simp only [Act.put,List.setIfInBounds_toArray,List.set_cons_zero,List.set_cons_succ]
   refine wpAnyH_ready (rs:=[20]) (by kernel_rfl) (by simp) ?_
   refine AllReadyH.cons (ata (atS (atS (atS (atS (atS (atS (atS (atS (atS (atS (atS (atS (atS (atS (atS (atS (atS (atS (atS (atS at0))))))))))))))))))))) (fun K hK=>?_) AllReadyH.nil
   go_simp
   (go_at_call 10;((with_reducible refine (HSD.out _ A6.out).mono ?_);rintro e w7 ⟨rfl,hb⟩);have A7:=Lib.hid (show Below W.heap.size W w7 from Below.trans A6.out (hb.mono (Below.size A6.out)));clear hb)
   go_wp2_with fail
   refine hK.out _ _ (by exact HKK.out _ A7.out) (fun hHeld=>?_)
   clear hK K
   try simp only [Act.put,List.setIfInBounds_toArray,List.set_cons_zero,List.set_cons_succ]
   refine wpAnyH_take (i:=21) (v:=?_) (ata (atS (atS (atS (atS (atS (atS (atS (atS (atS (atS (atS (atS (atS (atS (atS (atS (atS (atS (atS (atS (atS at0)))))))))))))))))))))) (by kernel_rfl) (by kernel_rfl) (by kernel_rfl) (fun _ _ _ h=>h) (Or.inl ⟨by rfl,?_⟩) (by assumption) ?_
   rotate_left
   ·(intro w hSw;(try dsimp only at hSw);go_simp;(first | done | with_reducible rfl))
   try simp only [Act.put,List.setIfInBounds_toArray,List.set_cons_zero,List.set_cons_succ]
   refine wpAnyH_take (i:=22) (v:=?_) (ata (atS (atS (atS (atS (atS (atS (atS (atS (atS (atS (atS (atS (atS (atS (atS (atS (atS (atS (atS (atS (atS (atS at0))))))))))))))))))))))) (by kernel_rfl) (by kernel_rfl) (by kernel_rfl) (fun _ _ _ h=>h) (Or.inl ⟨by rfl,?_⟩) (by assumption) ?_
   rotate_left
   ·(intro w hSw;(try dsimp only at hSw);go_simp;(first | done | with_reducible rfl))
   try simp only [Act.put,List.setIfInBounds_toArray,List.set_cons_zero,List.set_cons_succ]
   refine wpAnyH_done (by kernel_rfl) ?_ _
   all_goals
    go_wp2_with fail
    go_meet
    case rel=>exact ⟨rfl,A7.out⟩
 case rest =>
 obtain ⟨rfl,hcut⟩:=hcut
 have A8:=Lib.hid (show Below W.heap.size W wc from hcut)
 have U8:=Lib.hid (HUP.out _ A8.out)
 clear hcut HCK HSP HSD HKK
 go_wp2_with (go_at_call 7;((with_reducible refine (HHD.out _ U8.out).mono ?_);rintro e w9 ⟨rfl,hb⟩);have AE:=Lib.hid (show Below w.heap.size w w9 from U8.out.trans (hb.mono U8.out.size));clear hb)
 go_ret
 exact ⟨rfl,AE.out⟩
set_option maxRecDepth 100000 in
set_option maxHeartbeats 32000000 in
theorem otexts_yes (x y:Ord) (gx gy:Gh) (w:World) (hx:SR w x.slip gx) (hy:SR w y.slip gy) (ax:OA x) (ay:OA y) (hL:LaidD w) (hc:chkO x=true):Calls Tryz.prog 4 #[oV x gx,oV y gy] w (Told (.bool true) w):=by
 have HCC:=Lib.hid hc
 clear hc
 obtain ⟨W,hW,bx,by_,lW⟩:=two_orders w x y gx gy
 have HL:=Lib.hid (fun (X:World) (hb:Below w.heap.size w X)=>hL.next hb)
 have HHD:=Lib.hid (fun (X:World) (hb:Below w.heap.size w X)=>ohead_yes X (hL.next hb))
 have HW:=Lib.hid hW
 have LW:=Lib.hid lW
 have HGX:=Lib.hid (ogreat_any x gx W (hx.next lW) ax)
 have HGY:=Lib.hid (fun (X:World) (hb:Below W.heap.size W X)=>ogreat_any y gy X ((hy.next lW).next hb) ay)
 have HBX:=Lib.hid (fun (X:World) (hb:Below W.heap.size W X)=>bx.next hb)
 have HBY:=Lib.hid (fun (X:World) (hb:Below W.heap.size W X)=>by_.next hb)
 have HSX:=Lib.hid (fun (X:World) (hb:Below W.heap.size W X)=>(hx.next lW).next hb)
 have HSY:=Lib.hid (fun (X:World) (hb:Below W.heap.size W X)=>(hy.next lW).next hb)
 have HUP:=Lib.hid (fun (X:World) (hb:Below W.heap.size W X)=>(show Below w.heap.size w X from lW.trans (hb.mono lW.size)))
 have HAX:=Lib.hid ax
 have HAY:=Lib.hid ay
 unfold OGrT oV at HGX HGY
 have hbx:=bx
 have hby:=by_
 clear hx hy ax ay hL hW lW bx by_
 go_enter Tryz.func4,Tryz.ntmps4
 apply wp_seq_k
 intro K hK
 apply wp_region_lit
 refine Great.wpList_boxTo rfl _ _ rfl _ rfl w.heap.size rfl (ocs x gx) rfl ?_
 simp only [Act.put,List.setIfInBounds_toArray,List.set_cons_zero,List.set_cons_succ]
 refine Great.wpList_boxTo rfl _ _ rfl _ rfl (w.heap.size+1) (World.size_alloc _ _) (ocs y gy) rfl ?_
 rw [HW.out]
 simp only [Act.put,List.setIfInBounds_toArray,List.set_cons_zero,List.set_cons_succ]
 go_upto_region 3 with (first
  | (refine wpl_load_g (by rfl) _ _ rfl w.heap.size rfl _ _ _ _ hbx Tryz.underlying29 rfl (by kernel_rfl) ?_)
  | (refine wpl_load_g (by rfl) _ _ rfl (w.heap.size+1) rfl _ _ _ _ (HBY.out _ A1.out) Tryz.underlying29 rfl (by kernel_rfl) ?_)
  | (go_at_call 11;((with_reducible refine HGX.out.mono ?_);rintro e w1 ⟨b1,rfl,hk1,hb⟩);have A1:=Lib.hid hb;have K1:=Lib.hid hk1;clear hb hk1;cases b1)
  | (go_at_call 11;((with_reducible refine (HGY.out _ A1.out).mono ?_);rintro e w2 ⟨b2,rfl,hk2,hb⟩);have A2:=Lib.hid (A1.out.trans (hb.mono A1.out.size));have K2:=Lib.hid hk2;clear hb hk2;cases b2)
  | (go_at_call 7;((with_reducible refine (HHD.out _ (HUP.out _ (by first | exact A2.out | exact A1.out))).mono ?_);rintro e w3 ⟨rfl,hb⟩);have A3:=Lib.hid (Below.trans (HUP.out _ (by first | exact A2.out | exact A1.out)) (hb.mono (Below.size (HUP.out _ (by first | exact A2.out | exact A1.out)))));clear hb))
 rotate_left
 ·go_ret
  exact ⟨rfl,A3.out⟩
 ·go_ret
  exact ⟨rfl,A3.out⟩
 have lx:=K1.out (by trivial)
 have HOX:=Lib.hid (HAX.out.ow lx)
 have hmid:=look_mid lx.slip
 have hln:x.name.length≤100000∧x.pool.length≤100000∧x.user.length≤100000:=⟨by have:=lx.name;omega,by have:=lx.pool;omega,by have:=lx.user;omega⟩
 have HTX:=Lib.hid (fun (X:World) (hb:Below W.heap.size W X)=>Text_ord x gx X (HSX.out X hb) HAX.out.slip HOX.out (HL.out X (HUP.out X hb)))
 have HTD:=Lib.hid (fun (X:World) (hb:Below W.heap.size W X)=>dText_ord x gx X (HSX.out X hb) HAX.out.slip hmid HOX.out hln)
 have HCK:=Lib.hid (fun (X:World) (hb:Below W.heap.size W X)=>Check_ord x gx X (HSX.out X hb) HAX.out.slip HOX.out (HL.out X (HUP.out X hb)))
 have HSP:=Lib.hid (fun (X:World) (hb:Below W.heap.size W X)=>Same_ord x y gx gy X (HSX.out X hb) (HSY.out X hb))
 have HSD:=Lib.hid (fun (X:World) (hb:Below W.heap.size W X)=>dSame_ord x y gx gy X (HSX.out X hb) (HSY.out X hb))
 unfold OTextT oV at HTX HTD
 unfold oV at HCK HSP HSD
 have HE:=Lib.hid (show oE x=0∧oT x=txtO x by unfold oE oT;rw [if_pos HCC.out,if_pos HCC.out];exact ⟨rfl,rfl⟩)
 rw [HE.out.1] at HTX HTD HCK
 rw [HE.out.2] at HTX HTD
 obtain ⟨T,hT⟩:∃ T,str (txtO x)=T:=⟨_,rfl⟩
 rw [hT] at HTX HTD
 have HTE:=Lib.hid hT
 obtain ⟨DD,hDD⟩:∃ DD,decide (x=y)=DD:=⟨_,rfl⟩
 rw [hDD] at HSP HSD
 have qD:(DD != DD)=false:=by cases DD <;> rfl
 have qD2:(DD == DD)=true:=by cases DD <;> rfl
 have qT:(T.toList == T.toList)=true:=by simp
 have HKK:=Lib.hid (fun (X:World) (hb:Below W.heap.size W X)=>(show OrdB X w.heap.size x gx∧OrdB X (w.heap.size+1) y gy from ⟨HBX.out X hb,HBY.out X hb⟩))
 clear lx hmid hln hbx hby K1 K2 HGX HGY HAY hT hDD
 go_upto_region 5 with (first
  | (refine wpl_load_g (by rfl) _ _ rfl w.heap.size rfl _ _ _ _ (HBX.out _ A2.out) Tryz.underlying29 rfl (by kernel_rfl) ?_)
  | (refine wpl_load_g (by rfl) _ _ rfl w.heap.size rfl _ _ _ _ (HBX.out _ A3.out) Tryz.underlying29 rfl (by kernel_rfl) ?_)
  | (go_at_call 12;((with_reducible refine (HTX.out _ A2.out).mono ?_);rintro e w3 ⟨rfl,hb⟩);have A3:=Lib.hid (A2.out.trans (hb.mono A2.out.size));clear hb)
  | (go_at_call 13;((with_reducible refine (HTD.out _ A3.out).mono ?_);rintro e w4 ⟨rfl,hb⟩);have A4:=Lib.hid (A3.out.trans (hb.mono A3.out.size));clear hb))
 go_cut [50] (fun s50 wx=>s50=.bool false∧Aside (Below W.heap.size W wx))
 case first =>
  as_aux_lemma =>
   have AY:=Lib.hid (A4.out.trans ((drew_low w4).mono A4.out.size))
   clear HTX HTD HL HHD HSX HSY HOX HAX HW LW
   refine wp_region_held_drew (S:=(fun X=>OrdB X w.heap.size x gx∧OrdB X (w.heap.size+1) y gy)) (by kernel_rfl) (by exact HKK.out _ AY.out) (fun hHeld=>?_)
   refine wpAnyH_take (i:=0) (v:=?_) (ata at0) (by kernel_rfl) (by kernel_rfl) (by kernel_rfl) (fun _ _ _ h=>h) (Or.inl ⟨by rfl,?_⟩) (by assumption) ?_
   rotate_left
   ·(intro w hSw;(try dsimp only at hSw);go_simp;(first | done | with_reducible rfl))
   try simp only [Act.put,List.setIfInBounds_toArray,List.set_cons_zero,List.set_cons_succ]
   refine wpAnyH_take (i:=1) (v:=?_) (ata (atS at0)) (by kernel_rfl) (by kernel_rfl) (by kernel_rfl) (fun _ _ _ h=>h) (Or.inl ⟨by rfl,?_⟩) (by assumption) ?_
   rotate_left
   ·(intro w hSw;(try dsimp only at hSw);go_simp;(first | done | with_reducible rfl))
   try simp only [Act.put,List.setIfInBounds_toArray,List.set_cons_zero,List.set_cons_succ]
   refine wpAnyH_take (i:=2) (v:=?_) (ata (atS (atS at0))) (by kernel_rfl) (by kernel_rfl) (by kernel_rfl) (fun _ _ _ h=>h) (Or.inl ⟨by rfl,?_⟩) (by assumption) ?_
   rotate_left
   ·(intro w hSw;(try dsimp only at hSw);go_simp;(first | done | with_reducible rfl))
   try simp only [Act.put,List.setIfInBounds_toArray,List.set_cons_zero,List.set_cons_succ]
   refine wpAnyH_take (i:=3) (v:=?_) (ata (atS (atS (atS at0)))) (by kernel_rfl) (by kernel_rfl) (by kernel_rfl) (fun _ _ _ h=>h) (Or.inl ⟨by rfl,?_⟩) (by assumption) ?_
   rotate_left
   ·(intro w hSw;(try dsimp only at hSw);go_simp;(first | done | with_reducible rfl))
   try simp only [Act.put,List.setIfInBounds_toArray,List.set_cons_zero,List.set_cons_succ]
   refine wpAnyH_take (i:=4) (v:=?_) (ata (atS (atS (atS (atS at0))))) (by kernel_rfl) (by kernel_rfl) (by kernel_rfl) (fun _ _ _ h=>h) (Or.inl ⟨by rfl,?_⟩) (by assumption) ?_
   rotate_left
   ·(intro w hSw;(try dsimp only at hSw);go_simp;(first | done | with_reducible rfl))
   try simp only [Act.put,List.setIfInBounds_toArray,List.set_cons_zero,List.set_cons_succ]
   refine wpAnyH_take (i:=5) (v:=?_) (ata (atS (atS (atS (atS (atS at0)))))) (by kernel_rfl) (by kernel_rfl) (by kernel_rfl) (fun _ _ _ h=>h) (Or.inl ⟨by rfl,?_⟩) (by assumption) ?_
   rotate_left
   ·(intro w hSw;(try dsimp only at hSw);go_simp;(first | done | with_reducible rfl))
   try simp only [Act.put,List.setIfInBounds_toArray,List.set_cons_zero,List.set_cons_succ]
   refine wpAnyH_take (i:=6) (v:=?_) (ata (atS (atS (atS (atS (atS (atS at0))))))) (by kernel_rfl) (by kernel_rfl) (by kernel_rfl) (fun _ _ _ h=>h) (Or.inl ⟨by rfl,?_⟩) (by assumption) ?_
   rotate_left
   ·(intro w hSw;(try dsimp only at hSw);go_simp;(first | done | with_reducible rfl))
   try simp only [Act.put,List.setIfInBounds_toArray,List.set_cons_zero,List.set_cons_succ]
   refine wpAnyH_take (i:=7) (v:=?_) (ata (atS (atS (atS (atS (atS (atS (atS at0)))))))) (by kernel_rfl) (by kernel_rfl) (by kernel_rfl) (fun _ _ _ h=>h) (Or.inl ⟨by rfl,?_⟩) (by assumption) ?_
   rotate_left
   ·(intro w hSw;(try dsimp only at hSw);go_simp;(first | done | with_reducible rfl))
   try simp only [Act.put,List.setIfInBounds_toArray,List.set_cons_zero,List.set_cons_succ]
   refine wpAnyH_take (i:=8) (v:=?_) (ata (atS (atS (atS (atS (atS (atS (atS (atS at0))))))))) (by kernel_rfl) (by kernel_rfl) (by kernel_rfl) (fun _ _ _ h=>h) (Or.inl ⟨by rfl,?_⟩) (by assumption) ?_
   rotate_left
   ·(intro w hSw;(try dsimp only at hSw);go_simp;(first | done | with_reducible rfl))
   try simp only [Act.put,List.setIfInBounds_toArray,List.set_cons_zero,List.set_cons_succ]
   refine wpAnyH_take (i:=9) (v:=.agg (ocs x gx)) (ata (atS (atS (atS (atS (atS (atS (atS (atS (atS at0)))))))))) (by kernel_rfl) (by kernel_rfl) (by kernel_rfl) (fun _ _ _ h=>h) (Or.inl ⟨by rfl,?_⟩) (by assumption) ?_
   ·intro X hX;exact exec_load_row _ _ rfl (w.heap.size) rfl _ _ _ _ hX.1 Tryz.underlying29 rfl (by kernel_rfl)
   try simp only [Act.put,List.setIfInBounds_toArray,List.set_cons_zero,List.set_cons_succ]
   refine wpAnyH_take (i:=11) (v:=?_) (ata (atS (atS (atS (atS (atS (atS (atS (atS (atS (atS (atS at0)))))))))))) (by kernel_rfl) (by kernel_rfl) (by kernel_rfl) (fun _ _ _ h=>h) (Or.inl ⟨by rfl,?_⟩) (by assumption) ?_
   rotate_left
   ·(intro w hSw;(try dsimp only at hSw);go_simp;(first | done | with_reducible rfl))
   try simp only [Act.put,List.setIfInBounds_toArray,List.set_cons_zero,List.set_cons_succ]
   refine wpAnyH_ready (rs:=[10]) (by kernel_rfl) (by simp) ?_
   refine AllReadyH.cons (ata (atS (atS (atS (atS (atS (atS (atS (atS (atS (atS at0))))))))))) (fun K hK=>?_) AllReadyH.nil
   go_simp
   (go_at_call 14;((with_reducible refine (HCK.out _ AY.out).mono ?_);rintro e w5 ⟨rfl,hb⟩);have A5:=Lib.hid (show Below W.heap.size W w5 from Below.trans AY.out (hb.mono (Below.size AY.out)));clear hb)
   go_wp2_with fail
   refine hK.out _ _ (by exact HKK.out _ A5.out) (fun hHeld=>?_)
   clear hK K
   try simp only [Act.put,List.setIfInBounds_toArray,List.set_cons_zero,List.set_cons_succ]
   refine wpAnyH_take (i:=12) (v:=?_) (ata (atS (atS (atS (atS (atS (atS (atS (atS (atS (atS (atS (atS at0))))))))))))) (by kernel_rfl) (by kernel_rfl) (by kernel_rfl) (fun _ _ _ h=>h) (Or.inl ⟨by rfl,?_⟩) (by assumption) ?_
   rotate_left
   ·(intro w hSw;(try dsimp only at hSw);go_simp;(first | done | with_reducible rfl))
   try simp only [Act.put,List.setIfInBounds_toArray,List.set_cons_zero,List.set_cons_succ]
   refine wpAnyH_take (i:=13) (v:=?_) (ata (atS (atS (atS (atS (atS (atS (atS (atS (atS (atS (atS (atS (atS at0)))))))))))))) (by kernel_rfl) (by kernel_rfl) (by kernel_rfl) (fun _ _ _ h=>h) (Or.inl ⟨by rfl,?_⟩) (by assumption) ?_
   rotate_left
   ·(intro w hSw;(try dsimp only at hSw);go_simp;(first | done | with_reducible rfl))
   try simp only [Act.put,List.setIfInBounds_toArray,List.set_cons_zero,List.set_cons_succ]
   refine wpAnyH_take (i:=14) (v:=?_) (ata (atS (atS (atS (atS (atS (atS (atS (atS (atS (atS (atS (atS (atS (atS at0))))))))))))))) (by kernel_rfl) (by kernel_rfl) (by kernel_rfl) (fun _ _ _ h=>h) (Or.inl ⟨by rfl,?_⟩) (by assumption) ?_
   rotate_left
   ·(intro w hSw;(try dsimp only at hSw);go_simp;(first | done | with_reducible rfl))
   try simp only [Act.put,List.setIfInBounds_toArray,List.set_cons_zero,List.set_cons_succ]
   refine wpAnyH_take (i:=15) (v:=.agg (ocs x gx)) (ata (atS (atS (atS (atS (atS (atS (atS (atS (atS (atS (atS (atS (atS (atS (atS at0)))))))))))))))) (by kernel_rfl) (by kernel_rfl) (by kernel_rfl) (fun _ _ _ h=>h) (Or.inl ⟨by rfl,?_⟩) (by assumption) ?_
   ·intro X hX;exact exec_load_row _ _ rfl (w.heap.size) rfl _ _ _ _ hX.1 Tryz.underlying29 rfl (by kernel_rfl)
   try simp only [Act.put,List.setIfInBounds_toArray,List.set_cons_zero,List.set_cons_succ]
   refine wpAnyH_take (i:=16) (v:=.agg (ocs y gy)) (ata (atS (atS (atS (atS (atS (atS (atS (atS (atS (atS (atS (atS (atS (atS (atS (atS at0))))))))))))))))) (by kernel_rfl) (by kernel_rfl) (by kernel_rfl) (fun _ _ _ h=>h) (Or.inl ⟨by rfl,?_⟩) (by assumption) ?_
   ·intro X hX;exact exec_load_row _ _ rfl (w.heap.size+1) rfl _ _ _ _ hX.2 Tryz.underlying29 rfl (by kernel_rfl)
   try simp only [Act.put,List.setIfInBounds_toArray,List.set_cons_zero,List.set_cons_succ]
   refine wpAnyH_take (i:=18) (v:=.agg (ocs x gx)) (ata (atS (atS (atS (atS (atS (atS (atS (atS (atS (atS (atS (atS (atS (atS (atS (atS (atS (atS at0))))))))))))))))))) (by kernel_rfl) (by kernel_rfl) (by kernel_rfl) (fun _ _ _ h=>h) (Or.inl ⟨by rfl,?_⟩) (by assumption) ?_
   ·intro X hX;exact exec_load_row _ _ rfl (w.heap.size) rfl _ _ _ _ hX.1 Tryz.underlying29 rfl (by kernel_rfl)
   try simp only [Act.put,List.setIfInBounds_toArray,List.set_cons_zero,List.set_cons_succ]
   refine wpAnyH_take (i:=19) (v:=.agg (ocs y gy)) (ata (atS (atS (atS (atS (atS (atS (atS (atS (atS (atS (atS (atS (atS (atS (atS (atS (atS (atS (atS at0)))))))))))))))))))) (by kernel_rfl) (by kernel_rfl) (by kernel_rfl) (fun _ _ _ h=>h) (Or.inl ⟨by rfl,?_⟩) (by assumption) ?_
   ·intro X hX;exact exec_load_row _ _ rfl (w.heap.size+1) rfl _ _ _ _ hX.2 Tryz.underlying29 rfl (by kernel_rfl)
   try simp only [Act.put,List.setIfInBounds_toArray,List.set_cons_zero,List.set_cons_succ]
   refine wpAnyH_ready (rs:=[17]) (by kernel_rfl) (by simp) ?_
   refine AllReadyH.cons (ata (atS (atS (atS (atS (atS (atS (atS (atS (atS (atS (atS (atS (atS (atS (atS (atS (atS at0)))))))))))))))))) (fun K hK=>?_) AllReadyH.nil
   go_simp
   (go_at_call 15;((with_reducible refine (HSP.out _ A5.out).mono ?_);rintro e w6 ⟨rfl,hb⟩);have A6:=Lib.hid (show Below W.heap.size W w6 from Below.trans A5.out (hb.mono (Below.size A5.out)));clear hb)
   go_wp2_with fail
   refine hK.out _ _ (by exact HKK.out _ A6.out) (fun hHeld=>?_)
   clear hK K
   try simp only [Act.put,List.setIfInBounds_toArray,List.set_cons_zero,List.set_cons_succ]
   refine wpAnyH_ready (rs:=[20]) (by kernel_rfl) (by simp) ?_
   refine AllReadyH.cons (ata (atS (atS (atS (atS (atS (atS (atS (atS (atS (atS (atS (atS (atS (atS (atS (atS (atS (atS (atS (atS at0))))))))))))))))))))) (fun K hK=>?_) AllReadyH.nil
   go_simp
   (go_at_call 10;((with_reducible refine (HSD.out _ A6.out).mono ?_);rintro e w7 ⟨rfl,hb⟩);have A7:=Lib.hid (show Below W.heap.size W w7 from Below.trans A6.out (hb.mono (Below.size A6.out)));clear hb)
   go_wp2_with fail
   refine hK.out _ _ (by exact HKK.out _ A7.out) (fun hHeld=>?_)
   clear hK K
   try simp only [Act.put,List.setIfInBounds_toArray,List.set_cons_zero,List.set_cons_succ]
   refine wpAnyH_take (i:=21) (v:=?_) (ata (atS (atS (atS (atS (atS (atS (atS (atS (atS (atS (atS (atS (atS (atS (atS (atS (atS (atS (atS (atS (atS at0)))))))))))))))))))))) (by kernel_rfl) (by kernel_rfl) (by kernel_rfl) (fun _ _ _ h=>h) (Or.inl ⟨by rfl,?_⟩) (by assumption) ?_
   rotate_left
   ·(intro w hSw;(try dsimp only at hSw);go_simp;(first | done | with_reducible rfl))
   try simp only [Act.put,List.setIfInBounds_toArray,List.set_cons_zero,List.set_cons_succ]
   refine wpAnyH_take (i:=22) (v:=?_) (ata (atS (atS (atS (atS (atS (atS (atS (atS (atS (atS (atS (atS (atS (atS (atS (atS (atS (atS (atS (atS (atS (atS at0))))))))))))))))))))))) (by kernel_rfl) (by kernel_rfl) (by kernel_rfl) (fun _ _ _ h=>h) (Or.inl ⟨by rfl,?_⟩) (by assumption) ?_
   rotate_left
   ·(intro w hSw;(try dsimp only at hSw);go_simp;(first | done | with_reducible rfl))
   try simp only [Act.put,List.setIfInBounds_toArray,List.set_cons_zero,List.set_cons_succ]
   refine wpAnyH_done (by kernel_rfl) ?_ _
   all_goals
    go_wp2_with fail
    go_meet
    case rel=>exact ⟨rfl,A7.out⟩
 case rest =>
 obtain ⟨rfl,hcut⟩:=hcut
 have A8:=Lib.hid (show Below W.heap.size W wc from hcut)
 have U8:=Lib.hid (HUP.out _ A8.out)
 clear hcut HCK HSP HSD HKK
 have okx:=(chkO_iff x).1 HCC.out
 have HPX:=Lib.hid (fun (X:World) (hb:Below w.heap.size w X)=>oparse_by (s:=txtO x) (by have:=txtO_len okx;omega) (oread_txt okx) X (HL.out X hb))
 unfold OPaA at HPX
 simp only [Int.natCast_zero] at HPX
 rw [HTE.out] at HPX
 clear okx HTX HTD
 go_upto_region 10 with (first
  | (go_at_call 8;((refine (HPX.out _ U8.out).mono ?_);rintro e w1 ⟨hb,g1,rfl,hs⟩);have HB1:=Lib.hid hb;have HS1:=Lib.hid hs;clear hb hs)
  | (refine wpList_store_row rfl _ _ _ rfl w1.heap.size (ocs x g1) rfl rfl _ _ (boxes_a w1 _ _ _ _) (by kernel_rfl) rfl (ocs_one HS1.out) ?_)
  | (refine wpList_store_row rfl _ _ _ rfl (w1.heap.size+1) #[.int .i64 0,.int .i64 0] rfl rfl _ _ (boxes_b w1 _ _ _ _ _) (by kernel_rfl) rfl (by kernel_rfl) ?_))
 obtain ⟨W1,hW1,ba1,bb1,bl1⟩:=boxes_end w1 #[.int .u8 0,.int .i64 0,.int .i64 0,.string { data:=#[] },.string { data:=#[] },.string { data:=#[] },.int .i64 0,.bool false,.string { data:=#[] },.int .i64 0,.int .i64 0,.int .i64 0,.slice none 0 0,.int .i64 0,.int .i64 0,.int .i64 0,.string { data:=#[] },.slice none 0 0,.slice none 0 0,.slice none 0 0] #[.int .i64 0,.int .i64 0] (ocs x g1) #[.int .i64 0,.int .i64 0] 29 32
 rw [hW1]
 clear hW1
 have HY1:=Lib.hid (HB1.out.trans (bl1.mono HB1.out.size))
 have HZ1:=Lib.hid (Below.trans U8.out (HY1.out.mono (Below.size U8.out)))
 have BA1:=Lib.hid ba1
 have BB1:=Lib.hid bb1
 have SA1:=Lib.hid (HS1.out.next bl1)
 clear ba1 bb1 bl1
 generalize w1.heap.size=n1 at *
 have D1:=Lib.hid (A8.out.trans (HY1.out.mono A8.out.size))
 have HSM:=Lib.hid (Same_ord x x g1 gx W1 SA1.out (HSX.out W1 D1.out))
 rw [show decide (x=x)=true from decide_eq_true rfl] at HSM
 unfold oV at HSM
 have s0:=BB1.out.cell 0 _
 have s1:=BB1.out.cell 1 _
 have slt:=BB1.out.lt
 have p1:∀ W,(binOp .eql 32 (.agg #[.int .i64 0,.int .i64 0]) (.agg #[.int .i64 0,.int .i64 0])).run Tryz.prog W=.ok (.bool true) W:=fun W=>spot_eq 0 0 0 0 W
 clear HSX HSY HL HOX HAX HPX
 go_wp2_with (first
  | (refine wpl_load_g (by rfl) _ _ rfl w.heap.size rfl _ _ _ _ (HBX.out _ D1.out) Tryz.underlying29 rfl (by kernel_rfl) ?_)
  | (refine wpl_load_g (by rfl) _ _ rfl n1 rfl _ _ _ _ BA1.out Tryz.underlying29 rfl (by kernel_rfl) ?_)
  | (go_at_call 15;((with_reducible refine HSM.out.mono ?_);rintro e w7 ⟨rfl,hb⟩);have A10:=Lib.hid (show Below w.heap.size w w7 from HZ1.out.trans (hb.mono HZ1.out.size));clear hb)
  | (go_at_call 7;((with_reducible refine (HHD.out _ A10.out).mono ?_);rintro e w9 ⟨rfl,hb⟩);have AE:=Lib.hid (show Below w.heap.size w w9 from A10.out.trans (hb.mono A10.out.size));clear hb))
 go_ret
 exact ⟨rfl,AE.out⟩
theorem otexts_law (x y:Ord) (gx gy:Gh) (w:World) (hx:SR w x.slip gx) (hy:SR w y.slip gy) (ax:OA x) (ay:OA y) (hL:LaidD w):Calls Tryz.prog 4 #[oV x gx,oV y gy] w (Told (.bool true) w):=by
 by_cases hc:chkO x=true
 ·exact otexts_yes x y gx gy w hx hy ax ay hL hc
 ·exact otexts_no x y gx gy w hx hy ax ay hL hc
end Go.Proofs.YtekcjfdllclphaaGreatDoor.gn
end
