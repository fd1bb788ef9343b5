/- The contract of the reader's after. (Written by gen_slC.py.) -/
import Derived.Test.YtekcjfdllclphaaGreatDoorMQbOrM
import Derived.Test.YtekcjfdllclphaaGreatDoorMQbDiJ
import Derived.Shelf.RegionOpen
import Derived.Deep.RegionHeld3
import Derived.Deep.LoopGhost
import Derived.Shelf.Abstract
set_option linter.unusedVariables false
set_option linter.unusedSimpArgs false
section
namespace Go.Proofs.YtekcjfdllclphaaGreatDoor.gn
open Go.RowKit
open Go.Proofs.YtekcjfdllclphaaGreatDoor.un
open Go.Proofs.YtekcjfdllclphaaGreatDoor.di
open Go.Proofs.YtekcjfdllclphaaGreatDoor.sp (Slip cuts cutB within? dep? fput frun first? userK nodesK wallK qosK afterK okW anyW jobW pput pline pread chkS Ok shortP soundP waitsP storedP apartP dirsP dropD useD capD innD outD txtS line1 dirsS sread fldB fldB_len cutB_lib cuts_len cuts_mem_len countB_cuts splitB_cuts)
theorem drew_low (w:World):Below w.heap.size w w.drew:=(Below.refl _ w).drew
theorem Prts.kept {w w':World} {p o:Nat} {ws:List Tx} (h:Prts w p o ws) (hs:w.heap.size≤w'.heap.size) (hb:w'.heap[p]?=w.heap[p]?):Prts w' p o ws :=
 ⟨Nat.lt_of_lt_of_le h.1 hs,fun i x hx=>(World.cell?_of_block (a:=⟨p,o+i,none⟩) hb).trans (h.2 i x hx)⟩
theorem dep_way {p:Tx} (h:fldB 58 p=((fldB 58 p).1,(fldB 58 p).2)):dep? p=match within? (fldB 58 p).2 1 1073741824 with
  | some n=>if (fldB 58 p).1=okW∨(fldB 58 p).1=anyW then some ((n:Int),decide ((fldB 58 p).1=anyW)) else none
  | none=>none:=by
 unfold dep? fldB
 cases hc:cutB 58 p with
 | none=>rfl
 | some f=>rfl
theorem mapM_take {α:Type} (f:Tx→Option α) {L:List Tx} {k:Nat} {x:Tx} {l:List α} (hx:L[k]?=some x) (h:(L.take k).mapM f=some l):(L.take (k+1)).mapM f=match f x with
  | some d=>some (l++[d])
  | none=>none:=by
 have e:L.take (k+1)=L.take k++[x]:=by rw [List.take_add_one,hx];rfl
 rw [e,List.mapM_append,h]
 cases hf:f x with
 | none=>simp [List.mapM_cons,hf]
 | some d=>simp [List.mapM_cons,hf]
theorem mapM_none {α:Type} (f:Tx→Option α):∀ (L:List Tx) (k:Nat),(L.take k).mapM f=none→L.mapM f=none
 | [],k,h=>by simp at h
 | x::L,0,h=>by simp at h
 | x::L,k+1,h=>by
  rw [List.take_succ_cons,List.mapM_cons] at h
  rw [List.mapM_cons]
  cases hf:f x with
  | none=>rfl
  | some d =>
   rw [hf] at h
   cases hr:(L.take k).mapM f with
   | none=>rw [mapM_none f L k hr];rfl
   | some y=>rw [hr] at h;cases h
theorem lits_ok {how:Tx} (h:how=okW):decide (how=anyW)=false∧((str how).toList == okW)=true∧(str how).toList=okW∧((str how).toList == anyW)=false∧¬ (str how).toList=anyW:=by
 have h2:¬ how=anyW:=by rw [h];decide
 exact ⟨decide_eq_false h2,(lit_yes h).1,(lit_yes h).2,(lit_no h2).1,(lit_no h2).2⟩
theorem lits_any {how:Tx} (h:how=anyW):decide (how=anyW)=true∧((str how).toList == okW)=false∧¬ (str how).toList=okW∧((str how).toList == anyW)=true∧(str how).toList=anyW:=by
 have h2:¬ how=okW:=by rw [h];decide
 exact ⟨decide_eq_true h,(lit_no h2).1,(lit_no h2).2,(lit_yes h).1,(lit_yes h).2⟩
theorem dep_cells (w:World) (n0:Nat) (b:Bool):∀ j u,(cA ((n0:Int),b))[j]?=some u→(w.alloc (.cells #[.int .i64 n0,.bool b] 88)).cell? ((⟨w.heap.size,0,none⟩:Addr).add j)=some u:=fun j u hu=>by
 rw [Addr.add_lit,World.cell?_alloc_mark]
 simpa [cA] using hu
theorem flA_one' (d:Dep):∀ u∈cA d,u.oneCell'=true:=fun u hu=>by
 simp only [cA,List.mem_cons,List.not_mem_nil,or_false] at hu
 rcases hu with rfl | rfl <;> rfl
structure AfS (w:World) (pB R:Nat) (x:Slip) (line:Int) (g:Gh) (L:List Tx) (k:Nat) (l:List Dep) (g':Gh) (W:World):Prop where
 hm:(L.take k).mapM dep?=some l
 r:Rdr W R { x with after:=x.after++l } line g'
 kp:Kp R g g' w W
 p:Prts W pB 0 L
 np:¬ Mr R g' pB
 ll:l.length≤k
theorem AfS.next {w:World} {pB R:Nat} {x:Slip} {line:Int} {g:Gh} {L:List Tx} {k:Nat} {l:List Dep} {g':Gh} {W W':World} (h:AfS w pB R x line g L k l g' W) (hb:Below W.heap.size W W'):AfS w pB R x line g L k l g' W' :=
 ⟨h.hm,h.r.next hb,h.kp.trans (Kp.of g' hb (Nat.le_of_lt h.r.box.lt)),h.p.next hb,h.np,h.ll⟩
theorem AfS.add {w:World} {pB R:Nat} {x:Slip} {line:Int} {g:Gh} {L:List Tx} {k:Nat} {l:List Dep} {g':Gh} {W W1 w6:World} (h:AfS w pB R x line g L k l g' W) {y:Tx} {d:Dep} (hy:L[k]?=some y) (hd:dep? y=some d) (hW:Below W.heap.size W W1) {v':Value} {m0:Nat} (hm0:(x.after++l).length=m0)
  (h1:w6.ownsRow (R+1) 88 2 v' (m0+1) (flA (x.after++l)++cA d)) (h2:W1.grownBy w6 g'.a.ownBlock) (h3:v'.ownBlock=g'.a.ownBlock∨v'.ownBlock=some W1.heap.size) :
  AfS w pB R x line g L (k+1) (l++[d]) { g' with a:=v' } (w6.setCell ⟨R,4,none⟩ v'):=by
 subst hm0
 obtain ⟨q1,q2⟩:=h.r.push_a hW d h1 h2 h3
 refine ⟨by rw [mapM_take dep? hy h.hm,hd],?_,h.kp.trans q2,h.p.kept q2.low.size (q2.same pB h.p.1 h.np),q2.off h.p.1 h.np,by rw [List.length_append];have:=h.ll;simp;omega⟩
 have e:x.after++(l++[d])=x.after++l++[d]:=(List.append_assoc _ _ _).symm
 rw [e]
 exact q1
set_option maxRecDepth 100000 in
set_option maxHeartbeats 8000000 in
theorem after_any {w:World} {R:Nat} {x:Slip} {line:Int} {g:Gh} (h:Rdr w R x line g) (v:Tx) (hv:v.length≤20000) (hx:x.after.length≤20000) (hL:LaidB R w) :
  Calls Tryz.prog 135 #[.pointer (some ⟨R,0,none⟩),.string (str v)] w (StoT2 R g (((cuts 44 v).mapM dep?).map fun l=>{ x with after:=x.after++l }) line w):=by
 have HR:=Lib.hid h
 have hRw:=h.box.lt
 have HX:=Lib.hid hx
 have HLB:=Lib.hid hL
 have HSP:=Lib.hid (split_c 44 v (by omega) w hL.here)
 have HLEN:=Lib.hid (cuts_mem_len 44 v)
 have HV:=Lib.hid hv
 have hnl:=cuts_len 44 v
 generalize cuts 44 v=L at *
 obtain ⟨n,hn⟩:∃ n,L.length=n:=⟨_,rfl⟩
 rw [hn] at HSP hnl
 have HNL:=Lib.hid hn
 have hn2:n≤20001:=by omega
 clear h hv hx hL hn hnl
 go_enter Tryz.func135,Tryz.ntmps135
 go_wp2_with (go_at_call 107;((with_reducible refine HSP.out.mono ?_);rintro e w1 ⟨rfl,hp,hb⟩);have HP:=Lib.hid hp;have HB:=Lib.hid hb;clear hp hb)
 have HS0:=Lib.hid (show AfS w w.heap.size R x line g L 0 [] g w1 from
  ⟨rfl,by have:=HR.out.next HB.out;rwa [List.append_nil],Kp.of g HB.out (Nat.le_of_lt hRw),HP.out,fun hm=>by have:=(HR.out.lM hm).2.1;omega,Nat.le_refl _⟩)
 clear HSP HP HB
 go_loopw [12] (fun s12 W=>∃ (k:Nat) (l:List Dep) (g':Gh),s12=.int .i64 k∧k≤n∧Aside (AfS w w.heap.size R x line g L k l g' W)) (fun s12 _=>n - (intOf s12).toNat)
 case atStart=>exact ⟨0,[],g,rfl,Nat.zero_le _,HS0.out⟩
 case round =>
  clear HS0
  obtain ⟨k,l,g',rfl,hk,hst⟩:=hrel
  have HA:=Lib.hid (show AfS w w.heap.size R x line g L k l g' wr from hst)
  clear hst
  by_cases hkn:k < n
  ·have hkl:k < L.length:=by rw [HNL.out];exact hkn
   obtain ⟨y,hy⟩:∃ y,L[k]?=some y:=⟨_,List.getElem?_eq_getElem hkl⟩
   have hc0:=HA.out.p.2 k y hy
   rw [Nat.zero_add] at hc0
   have hyl:y.length≤20000:=Nat.le_trans (HLEN.out y (List.mem_of_getElem? hy)) HV.out
   have hpz:w.heap.size < wr.heap.size:=HA.out.p.1
   have hRz:R < wr.heap.size:=HA.out.r.box.lt
   have HLD:=Lib.hid (HLB.out.next HA.out.kp.low)
   have HCUT:=Lib.hid (fun (W:World) (hb:Below wr.heap.size wr W)=>cut_c 58 y (by omega) W (HLD.out.next (hb.mono (Nat.le_of_lt hRz))).here)
   have HDW:=Lib.hid (dep_way (p:=y) rfl)
   obtain ⟨fl1,fl2⟩:=fldB_len 58 y
   generalize (fldB 58 y).1=how at *
   generalize (fldB 58 y).2=job at *
   generalize (cutB 58 y).isSome=is at *
   have HY:=Lib.hid hy
   have HJL:=Lib.hid (show job.length≤140737488355328 by omega)
   have HNU:=Lib.hid (fun (W:World) (hb:Below wr.heap.size wr W)=>(show Calls Tryz.prog 154 #[.pointer (some ⟨R,0,none⟩),.string (str job),.int .i64 1,.int .i64 1073741824] W (NumT (within? job 1 1073741824) line W) from number_any (HA.out.r.next hb) job HJL.out 1 1073741824 (HLD.out.next (hb.mono (Nat.le_of_lt hRz))).here.u))
   have HMY:=Lib.hid (fun (W:World) (hb:Below wr.heap.size wr W)=>must_yes (HA.out.r.next hb))
   have HMN:=Lib.hid (fun (W:World) (hb:Below wr.heap.size wr W)=>must_no (HA.out.r.next hb))
   have HPAN:=Lib.hid (fun (W:World) (hb:Below wr.heap.size wr W) (hd:dep? y=none)=>(show StoT2 R g ((L.mapM dep?).map fun l=>{ x with after:=x.after++l }) line w (.panicked (pnc 150 line)) W from by
    rw [mapM_none dep? L (k+1) (by rw [mapM_take dep? HY.out HA.out.hm,hd])]
    exact ⟨rfl,HA.out.kp.lk (Lk.of g' hb (Nat.le_of_lt hRz))⟩))
   clear hy hyl fl1 fl2 hkl
   by_cases hw1:how=okW
   ·obtain ⟨hbv,q1,q1',q2,q2'⟩:=lits_ok hw1
    cases hw:within? job 1 1073741824 with
    | none =>
     rw [hw] at HNU HDW
     clear hw
     have HD:=Lib.hid (show dep? y=none by rw [HDW.out])
     unfold okW at q1 q1';unfold anyW at q2 q2'
     clear hbv hw1
     go_upto_region 5 with (first | (go_at_call 16;((with_reducible refine (HCUT.out _ (Below.refl _ _)).mono ?_);rintro e w2 ⟨rfl,hb⟩);have HB2:=Lib.hid hb;have hz2:=hb.size;clear hb) | (go_at_call 70;((with_reducible refine (HMY.out _ HB2.out).mono ?_);rintro e w3 ⟨rfl,rfl⟩)))
     have hR2:R < w2.heap.size:=Nat.lt_of_lt_of_le hRz hz2
     have c4:w2.cell? ⟨R,4,none⟩=some g'.a:=(HA.out.next HB2.out).r.box.cell 4 _
     clear HMY HMN HCUT hc0
     refine wp_region_held_drew (S:=(fun W=>W.cell? ⟨R,4,none⟩=some g'.a)) (by kernel_rfl) (by exact c4) (fun hHeld=>?_)
     refine wpAnyH_take (i:=0) (v:=?_) (ata at0) (by kernel_rfl) (by kernel_rfl) (by kernel_rfl) (fun _ _ _ h=>h) (Or.inl ⟨by rfl,?_⟩) (by assumption) ?_
     rotate_left
     ·(intro w hSw;(try dsimp only at hSw);go_simp;(first | done | with_reducible rfl))
     try simp only [Act.put,List.setIfInBounds_toArray,List.set_cons_zero,List.set_cons_succ]
     refine wpAnyH_take (i:=1) (v:=?_) (ata (atS at0)) (by kernel_rfl) (by kernel_rfl) (by kernel_rfl) (fun _ _ _ h=>h) (Or.inl ⟨by rfl,?_⟩) (by assumption) ?_
     rotate_left
     ·(intro w hSw;(try dsimp only at hSw);go_simp;(first | done | with_reducible rfl))
     try simp only [Act.put,List.setIfInBounds_toArray,List.set_cons_zero,List.set_cons_succ]
     refine wpAnyH_take (i:=2) (v:=?_) (ata (atS (atS at0))) (by kernel_rfl) (by kernel_rfl) (by kernel_rfl) (fun _ _ _ h=>h) (Or.inl ⟨by rfl,?_⟩) (by assumption) ?_
     rotate_left
     ·(intro w hSw;(try dsimp only at hSw);go_simp;(first | done | with_reducible rfl))
     try simp only [Act.put,List.setIfInBounds_toArray,List.set_cons_zero,List.set_cons_succ]
     refine wpAnyH_take (i:=3) (v:=?_) (ata (atS (atS (atS at0)))) (by kernel_rfl) (by kernel_rfl) (by kernel_rfl) (fun _ _ _ h=>h) (Or.inl ⟨by rfl,?_⟩) (by assumption) ?_
     rotate_left
     ·(intro w hSw;(try dsimp only at hSw);go_simp;(first | done | with_reducible rfl))
     try simp only [Act.put,List.setIfInBounds_toArray,List.set_cons_zero,List.set_cons_succ]
     refine wpAnyH_take (i:=4) (v:=?_) (ata (atS (atS (atS (atS at0))))) (by kernel_rfl) (by kernel_rfl) (by kernel_rfl) (fun _ _ _ h=>h) (Or.inl ⟨by rfl,?_⟩) (by assumption) ?_
     rotate_left
     ·(intro w hSw;(try dsimp only at hSw);go_simp;(first | done | with_reducible rfl))
     try simp only [Act.put,List.setIfInBounds_toArray,List.set_cons_zero,List.set_cons_succ]
     refine wpAnyH_take (i:=5) (v:=?_) (ata (atS (atS (atS (atS (atS at0)))))) (by kernel_rfl) (by kernel_rfl) (by kernel_rfl) (fun _ _ _ h=>h) (Or.inl ⟨by rfl,?_⟩) (by assumption) ?_
     rotate_left
     ·(intro w hSw;(try dsimp only at hSw);go_simp;(first | done | with_reducible rfl))
     try simp only [Act.put,List.setIfInBounds_toArray,List.set_cons_zero,List.set_cons_succ]
     refine wpAnyH_take (i:=6) (v:=?_) (ata (atS (atS (atS (atS (atS (atS at0))))))) (by kernel_rfl) (by kernel_rfl) (by kernel_rfl) (fun _ _ _ h=>h) (Or.inl ⟨by rfl,?_⟩) (by assumption) ?_
     rotate_left
     ·(intro w hSw;(try dsimp only at hSw);go_simp;(first | done | with_reducible rfl))
     try simp only [Act.put,List.setIfInBounds_toArray,List.set_cons_zero,List.set_cons_succ]
     refine wpAnyH_take (i:=7) (v:=?_) (ata (atS (atS (atS (atS (atS (atS (atS at0)))))))) (by kernel_rfl) (by kernel_rfl) (by kernel_rfl) (fun _ _ _ h=>h) (Or.inl ⟨by rfl,?_⟩) (by assumption) ?_
     rotate_left
     ·(intro w hSw;(try dsimp only at hSw);go_simp;(first | done | with_reducible rfl))
     try simp only [Act.put,List.setIfInBounds_toArray,List.set_cons_zero,List.set_cons_succ]
     refine wpAnyH_take (i:=9) (v:=?_) (ata (atS (atS (atS (atS (atS (atS (atS (atS (atS at0)))))))))) (by kernel_rfl) (by kernel_rfl) (by kernel_rfl) (fun _ _ _ h=>h) (Or.inl ⟨by rfl,?_⟩) (by assumption) ?_
     rotate_left
     ·(intro w hSw;(try dsimp only at hSw);go_simp;(first | done | with_reducible rfl))
     try simp only [Act.put,List.setIfInBounds_toArray,List.set_cons_zero,List.set_cons_succ]
     refine wpAnyH_take (i:=10) (v:=?_) (ata (atS (atS (atS (atS (atS (atS (atS (atS (atS (atS at0))))))))))) (by kernel_rfl) (by kernel_rfl) (by kernel_rfl) (fun _ _ _ h=>h) (Or.inl ⟨by rfl,?_⟩) (by assumption) ?_
     rotate_left
     ·(intro w hSw;(try dsimp only at hSw);go_simp;(first | done | with_reducible rfl))
     try simp only [Act.put,List.setIfInBounds_toArray,List.set_cons_zero,List.set_cons_succ]
     refine wpAnyH_ready (rs:=[8]) (by kernel_rfl) (by simp) ?_
     refine AllReadyH.cons (ata (atS (atS (atS (atS (atS (atS (atS (atS at0))))))))) (fun K hK=>?_) AllReadyH.nil
     go_simp
     (go_at_call 154;((with_reducible refine (HNU.out _ (HB2.out.trans ((drew_low _).mono hz2))).mono ?_);rintro e w4 ⟨rfl,hb4⟩))
     exact ⟨rfl,HPAN.out _ (HB2.out.trans (((drew_low _).trans hb4).mono hz2)) HD.out⟩
    | some n0 =>
     rw [hw] at HNU HDW
     clear hw
     have HD:=Lib.hid (show dep? y=some ((n0:Int),false) by rw [HDW.out];dsimp only;rw [if_pos (.inl hw1),hbv])
     unfold okW at q1 q1';unfold anyW at q2 q2'
     clear hbv hw1
     go_upto_region 5 with (first | (go_at_call 16;((with_reducible refine (HCUT.out _ (Below.refl _ _)).mono ?_);rintro e w2 ⟨rfl,hb⟩);have HB2:=Lib.hid hb;have hz2:=hb.size;clear hb) | (go_at_call 70;((with_reducible refine (HMY.out _ HB2.out).mono ?_);rintro e w3 ⟨rfl,rfl⟩)))
     have hR2:R < w2.heap.size:=Nat.lt_of_lt_of_le hRz hz2
     have HA2:=Lib.hid (HA.out.next HB2.out)
     have c4:w2.cell? ⟨R,4,none⟩=some g'.a:=HA2.out.r.box.cell 4 _
     clear HMY HMN HCUT HPAN hc0
     have mixed:Tryz.prog.follows .mixedOrders=true:=by kernel_rfl
     obtain ⟨m0,hm0⟩:∃ m0,(x.after++l).length=m0:=⟨_,rfl⟩
     have HM0:=Lib.hid hm0
     clear hm0
     go_region_law_o (first
      | (go_simp;(go_at_call 154;((with_reducible refine (HNU.out _ (HB2.out.trans ((drew_low _).mono hz2))).mono ?_);rintro e w4 ⟨rfl,hb4⟩);have HB4:=Lib.hid (show Below w2.heap.size w2 w4 from (drew_low w2).trans hb4);have c44:w4.cell? ⟨R,4,none⟩=some g'.a:=(Below.cell HB4.out hR2).trans c4;have hR4:R < w4.heap.size:=Nat.lt_of_lt_of_le hR2 HB4.out.size;clear hb4))
      | (refine step_app eltA rfl (.tmp 35) (.tmp 42) rfl (base:=R+1) (n:=m0) (cs:=flA (x.after++l)) (v:=g'.a) (by rfl) (by rw [←HM0.out];exact (HA2.out.next (HB4.out.trans (((Below.refl _ w4).alloc (Nat.le_refl _) (.cells #[.int .i64 n0,.bool false] 88)).mono HB4.out.size))).r.a) ⟨w4.heap.size,0,none⟩ (cA ((n0:Int),false)) (by rfl) (by exact dep_cells w4 n0 false) rfl (by exact flA_one' _) (by have:=HX.out;have:=HA2.out.ll;rw [←HM0.out,List.length_append];omega) (by decide) (by have:=HB4.out.size;simp;omega) ?_;intro gb cb w6 h1 h2 h3;have hmid:=HA2.out.r.mid_a (HB4.out.trans (((Below.refl _ w4).alloc (Nat.le_refl _) (.cells #[.int .i64 n0,.bool false] 88)).mono HB4.out.size)) h2;have c46:w6.cell? ⟨R,4,none⟩=some g'.a:=hmid.cell 4 _;have f46:=hmid.free 4;have hR6:=hmid.lt;have HADD:=Lib.hid (HA2.out.add HY.out HD.out (HB4.out.trans (((Below.refl _ w4).alloc (Nat.le_refl _) (.cells #[.int .i64 n0,.bool false] 88)).mono HB4.out.size)) HM0.out h1 h2 (h3.imp (fun e=>e) (fun e=>congrArg Option.some e)));clear h1 h2 h3 hmid))
     all_goals
      go_wp2
      go_roundw
      case rel=>exact ⟨k+1,_,_,by go_num,by omega,HADD.out⟩
      case measure=>simp [intOf];omega
   ·by_cases hw2:how=anyW
    ·obtain ⟨hbv,q1,q1',q2,q2'⟩:=lits_any hw2
     cases hw:within? job 1 1073741824 with
     | none =>
      rw [hw] at HNU HDW
      clear hw
      have HD:=Lib.hid (show dep? y=none by rw [HDW.out])
      unfold okW at q1 q1';unfold anyW at q2 q2'
      clear hbv hw1 hw2
      go_upto_region 5 with (first | (go_at_call 16;((with_reducible refine (HCUT.out _ (Below.refl _ _)).mono ?_);rintro e w2 ⟨rfl,hb⟩);have HB2:=Lib.hid hb;have hz2:=hb.size;clear hb) | (go_at_call 70;((with_reducible refine (HMY.out _ HB2.out).mono ?_);rintro e w3 ⟨rfl,rfl⟩)))
      have hR2:R < w2.heap.size:=Nat.lt_of_lt_of_le hRz hz2
      have c4:w2.cell? ⟨R,4,none⟩=some g'.a:=(HA.out.next HB2.out).r.box.cell 4 _
      clear HMY HMN HCUT hc0
      refine wp_region_held_drew (S:=(fun W=>W.cell? ⟨R,4,none⟩=some g'.a)) (by kernel_rfl) (by exact c4) (fun hHeld=>?_)
      refine wpAnyH_take (i:=0) (v:=?_) (ata at0) (by kernel_rfl) (by kernel_rfl) (by kernel_rfl) (fun _ _ _ h=>h) (Or.inl ⟨by rfl,?_⟩) (by assumption) ?_
      rotate_left
      ·(intro w hSw;(try dsimp only at hSw);go_simp;(first | done | with_reducible rfl))
      try simp only [Act.put,List.setIfInBounds_toArray,List.set_cons_zero,List.set_cons_succ]
      refine wpAnyH_take (i:=1) (v:=?_) (ata (atS at0)) (by kernel_rfl) (by kernel_rfl) (by kernel_rfl) (fun _ _ _ h=>h) (Or.inl ⟨by rfl,?_⟩) (by assumption) ?_
      rotate_left
      ·(intro w hSw;(try dsimp only at hSw);go_simp;(first | done | with_reducible rfl))
      try simp only [Act.put,List.setIfInBounds_toArray,List.set_cons_zero,List.set_cons_succ]
      refine wpAnyH_take (i:=2) (v:=?_) (ata (atS (atS at0))) (by kernel_rfl) (by kernel_rfl) (by kernel_rfl) (fun _ _ _ h=>h) (Or.inl ⟨by rfl,?_⟩) (by assumption) ?_
      rotate_left
      ·(intro w hSw;(try dsimp only at hSw);go_simp;(first | done | with_reducible rfl))
      try simp only [Act.put,List.setIfInBounds_toArray,List.set_cons_zero,List.set_cons_succ]
      refine wpAnyH_take (i:=3) (v:=?_) (ata (atS (atS (atS at0)))) (by kernel_rfl) (by kernel_rfl) (by kernel_rfl) (fun _ _ _ h=>h) (Or.inl ⟨by rfl,?_⟩) (by assumption) ?_
      rotate_left
      ·(intro w hSw;(try dsimp only at hSw);go_simp;(first | done | with_reducible rfl))
      try simp only [Act.put,List.setIfInBounds_toArray,List.set_cons_zero,List.set_cons_succ]
      refine wpAnyH_take (i:=4) (v:=?_) (ata (atS (atS (atS (atS at0))))) (by kernel_rfl) (by kernel_rfl) (by kernel_rfl) (fun _ _ _ h=>h) (Or.inl ⟨by rfl,?_⟩) (by assumption) ?_
      rotate_left
      ·(intro w hSw;(try dsimp only at hSw);go_simp;(first | done | with_reducible rfl))
      try simp only [Act.put,List.setIfInBounds_toArray,List.set_cons_zero,List.set_cons_succ]
      refine wpAnyH_take (i:=5) (v:=?_) (ata (atS (atS (atS (atS (atS at0)))))) (by kernel_rfl) (by kernel_rfl) (by kernel_rfl) (fun _ _ _ h=>h) (Or.inl ⟨by rfl,?_⟩) (by assumption) ?_
      rotate_left
      ·(intro w hSw;(try dsimp only at hSw);go_simp;(first | done | with_reducible rfl))
      try simp only [Act.put,List.setIfInBounds_toArray,List.set_cons_zero,List.set_cons_succ]
      refine wpAnyH_take (i:=6) (v:=?_) (ata (atS (atS (atS (atS (atS (atS at0))))))) (by kernel_rfl) (by kernel_rfl) (by kernel_rfl) (fun _ _ _ h=>h) (Or.inl ⟨by rfl,?_⟩) (by assumption) ?_
      rotate_left
      ·(intro w hSw;(try dsimp only at hSw);go_simp;(first | done | with_reducible rfl))
      try simp only [Act.put,List.setIfInBounds_toArray,List.set_cons_zero,List.set_cons_succ]
      refine wpAnyH_take (i:=7) (v:=?_) (ata (atS (atS (atS (atS (atS (atS (atS at0)))))))) (by kernel_rfl) (by kernel_rfl) (by kernel_rfl) (fun _ _ _ h=>h) (Or.inl ⟨by rfl,?_⟩) (by assumption) ?_
      rotate_left
      ·(intro w hSw;(try dsimp only at hSw);go_simp;(first | done | with_reducible rfl))
      try simp only [Act.put,List.setIfInBounds_toArray,List.set_cons_zero,List.set_cons_succ]
      refine wpAnyH_take (i:=9) (v:=?_) (ata (atS (atS (atS (atS (atS (atS (atS (atS (atS at0)))))))))) (by kernel_rfl) (by kernel_rfl) (by kernel_rfl) (fun _ _ _ h=>h) (Or.inl ⟨by rfl,?_⟩) (by assumption) ?_
      rotate_left
      ·(intro w hSw;(try dsimp only at hSw);go_simp;(first | done | with_reducible rfl))
      try simp only [Act.put,List.setIfInBounds_toArray,List.set_cons_zero,List.set_cons_succ]
      refine wpAnyH_take (i:=10) (v:=?_) (ata (atS (atS (atS (atS (atS (atS (atS (atS (atS (atS at0))))))))))) (by kernel_rfl) (by kernel_rfl) (by kernel_rfl) (fun _ _ _ h=>h) (Or.inl ⟨by rfl,?_⟩) (by assumption) ?_
      rotate_left
      ·(intro w hSw;(try dsimp only at hSw);go_simp;(first | done | with_reducible rfl))
      try simp only [Act.put,List.setIfInBounds_toArray,List.set_cons_zero,List.set_cons_succ]
      refine wpAnyH_ready (rs:=[8]) (by kernel_rfl) (by simp) ?_
      refine AllReadyH.cons (ata (atS (atS (atS (atS (atS (atS (atS (atS at0))))))))) (fun K hK=>?_) AllReadyH.nil
      go_simp
      (go_at_call 154;((with_reducible refine (HNU.out _ (HB2.out.trans ((drew_low _).mono hz2))).mono ?_);rintro e w4 ⟨rfl,hb4⟩))
      exact ⟨rfl,HPAN.out _ (HB2.out.trans (((drew_low _).trans hb4).mono hz2)) HD.out⟩
     | some n0 =>
      rw [hw] at HNU HDW
      clear hw
      have HD:=Lib.hid (show dep? y=some ((n0:Int),true) by rw [HDW.out];dsimp only;rw [if_pos (.inr hw2),hbv])
      unfold okW at q1 q1';unfold anyW at q2 q2'
      clear hbv hw1 hw2
      go_upto_region 5 with (first | (go_at_call 16;((with_reducible refine (HCUT.out _ (Below.refl _ _)).mono ?_);rintro e w2 ⟨rfl,hb⟩);have HB2:=Lib.hid hb;have hz2:=hb.size;clear hb) | (go_at_call 70;((with_reducible refine (HMY.out _ HB2.out).mono ?_);rintro e w3 ⟨rfl,rfl⟩)))
      have hR2:R < w2.heap.size:=Nat.lt_of_lt_of_le hRz hz2
      have HA2:=Lib.hid (HA.out.next HB2.out)
      have c4:w2.cell? ⟨R,4,none⟩=some g'.a:=HA2.out.r.box.cell 4 _
      clear HMY HMN HCUT HPAN hc0
      have mixed:Tryz.prog.follows .mixedOrders=true:=by kernel_rfl
      obtain ⟨m0,hm0⟩:∃ m0,(x.after++l).length=m0:=⟨_,rfl⟩
      have HM0:=Lib.hid hm0
      clear hm0
      go_region_law_o (first
       | (go_simp;(go_at_call 154;((with_reducible refine (HNU.out _ (HB2.out.trans ((drew_low _).mono hz2))).mono ?_);rintro e w4 ⟨rfl,hb4⟩);have HB4:=Lib.hid (show Below w2.heap.size w2 w4 from (drew_low w2).trans hb4);have c44:w4.cell? ⟨R,4,none⟩=some g'.a:=(Below.cell HB4.out hR2).trans c4;have hR4:R < w4.heap.size:=Nat.lt_of_lt_of_le hR2 HB4.out.size;clear hb4))
       | (refine step_app eltA rfl (.tmp 35) (.tmp 42) rfl (base:=R+1) (n:=m0) (cs:=flA (x.after++l)) (v:=g'.a) (by rfl) (by rw [←HM0.out];exact (HA2.out.next (HB4.out.trans (((Below.refl _ w4).alloc (Nat.le_refl _) (.cells #[.int .i64 n0,.bool true] 88)).mono HB4.out.size))).r.a) ⟨w4.heap.size,0,none⟩ (cA ((n0:Int),true)) (by rfl) (by exact dep_cells w4 n0 true) rfl (by exact flA_one' _) (by have:=HX.out;have:=HA2.out.ll;rw [←HM0.out,List.length_append];omega) (by decide) (by have:=HB4.out.size;simp;omega) ?_;intro gb cb w6 h1 h2 h3;have hmid:=HA2.out.r.mid_a (HB4.out.trans (((Below.refl _ w4).alloc (Nat.le_refl _) (.cells #[.int .i64 n0,.bool true] 88)).mono HB4.out.size)) h2;have c46:w6.cell? ⟨R,4,none⟩=some g'.a:=hmid.cell 4 _;have f46:=hmid.free 4;have hR6:=hmid.lt;have HADD:=Lib.hid (HA2.out.add HY.out HD.out (HB4.out.trans (((Below.refl _ w4).alloc (Nat.le_refl _) (.cells #[.int .i64 n0,.bool true] 88)).mono HB4.out.size)) HM0.out h1 h2 (h3.imp (fun e=>e) (fun e=>congrArg Option.some e)));clear h1 h2 h3 hmid))
      all_goals
       go_wp2
       go_roundw
       case rel=>exact ⟨k+1,_,_,by go_num,by omega,HADD.out⟩
       case measure=>simp [intOf];omega
    ·have HD:=Lib.hid (show dep? y=none by rw [HDW.out];cases within? job 1 1073741824 with
      | none=>rfl
      | some n0=>dsimp only;rw [if_neg (fun h=>h.elim hw1 hw2)])
     obtain ⟨q1,q1'⟩:=lit_no hw1
     obtain ⟨q2,q2'⟩:=lit_no hw2
     unfold okW at q1 q1'
     unfold anyW at q2 q2'
     clear hw1 hw2
     go_wp2_with (first | (go_at_call 16;((with_reducible refine (HCUT.out _ (Below.refl _ _)).mono ?_);rintro e w2 ⟨rfl,hb⟩);have HB2:=Lib.hid hb;have hz2:=hb.size;clear hb) | (go_at_call 70;((with_reducible refine (HMN.out _ HB2.out).mono ?_);rintro e w3 ⟨rfl,rfl⟩)))
     exact ⟨rfl,HPAN.out _ HB2.out HD.out⟩
  ·obtain rfl:k=n:=by omega
   go_wp2
   go_end0
   have hm:=HA.out.hm
   rw [List.take_of_length_le (by rw [HNL.out];exact Nat.le_refl _)] at hm
   rw [hm]
   exact ⟨rfl,g',HA.out.r,HA.out.kp⟩
end Go.Proofs.YtekcjfdllclphaaGreatDoor.gn
end
