/- The contract of the reader's after. (Written by gen_slC.py.) -/
import Derived.Test.YtpmghgfgbkncoaaGreatDoorMSlB
import Derived.Test.YtpmghgfgbkncoaaGreatDoorMDiJ
import Derived.Shelf.RegionOpen
import Derived.Deep.RegionHeld3
import Derived.Deep.LoopGhost
import Derived.Shelf.Abstract
section
set_option linter.unusedVariables false
set_option linter.unusedSimpArgs false
namespace Go.Proofs.YtpmghgfgbkncoaaGreatDoor.gn
open Go.RowKit
open Go.Proofs.YtpmghgfgbkncoaaGreatDoor.un
open Go.Proofs.YtpmghgfgbkncoaaGreatDoor.di
open Go.Proofs.YtpmghgfgbkncoaaGreatDoor.sp (Slip cuts cutB within? dep? fput frun first? userK nodesK wallK qosK afterK okW anyW jobW pput pline pread chkS Ok shortP soundP waitsP storedP apartP dirsP dropD useD capD innD outD txtS line1 dirsS sread fldB fldB_len cutB_lib cuts_len cuts_mem_len countB_cuts splitB_cuts)

theorem drew_low (w : World) : Below w.heap.size w w.drew := (Below.refl _ w).drew
theorem Prts.kept {w w' : World} {p o : Nat} {ws : List Tx} (h : Prts w p o ws) (hs : w.heap.size ≤ w'.heap.size) (hb : w'.heap[p]? = w.heap[p]?) : Prts w' p o ws :=
  ⟨Nat.lt_of_lt_of_le h.1 hs, fun i x hx => (World.cell?_of_block (a := ⟨p, o + i, none⟩) hb).trans (h.2 i x hx)⟩
theorem dep_way {p : Tx} (h : fldB 58 p = ((fldB 58 p).1, (fldB 58 p).2)) : dep? p = match within? (fldB 58 p).2 1 1073741824 with
    | some n => if (fldB 58 p).1 = okW ∨ (fldB 58 p).1 = anyW then some ((n : Int), decide ((fldB 58 p).1 = anyW)) else none
    | none => none := by
  unfold dep? fldB
  cases hc : cutB 58 p with
  | none => rfl
  | some f => rfl
theorem mapM_take {α : Type} (f : Tx → Option α) {L : List Tx} {k : Nat} {x : Tx} {l : List α} (hx : L[k]? = some x) (h : (L.take k).mapM f = some l) : (L.take (k + 1)).mapM f = match f x with
    | some d => some (l ++ [d])
    | none => none := by
  have e : L.take (k + 1) = L.take k ++ [x] := by rw [List.take_add_one, hx]; rfl
  rw [e, List.mapM_append, h]
  cases hf : f x with
  | none => simp [List.mapM_cons, hf]
  | some d => simp [List.mapM_cons, hf]
theorem mapM_none {α : Type} (f : Tx → Option α) : ∀ (L : List Tx) (k : Nat), (L.take k).mapM f = none → L.mapM f = none
  | [], k, h => by simp at h
  | x :: L, 0, h => by simp at h
  | x :: L, k + 1, h => by
    rw [List.take_succ_cons, List.mapM_cons] at h
    rw [List.mapM_cons]
    cases hf : f x with
    | none => rfl
    | some d =>
      rw [hf] at h
      cases hr : (L.take k).mapM f with
      | none => rw [mapM_none f L k hr]; rfl
      | some y => rw [hr] at h; cases h

theorem lits_ok {how : Tx} (h : how = okW) : decide (how = anyW) = false ∧ ((str how).toList == okW) = true ∧ (str how).toList = okW ∧ ((str how).toList == anyW) = false ∧ ¬ (str how).toList = anyW := by
  have h2 : ¬ how = anyW := by rw [h]; decide
  exact ⟨decide_eq_false h2, (lit_yes h).1, (lit_yes h).2, (lit_no h2).1, (lit_no h2).2⟩
theorem lits_any {how : Tx} (h : how = anyW) : decide (how = anyW) = true ∧ ((str how).toList == okW) = false ∧ ¬ (str how).toList = okW ∧ ((str how).toList == anyW) = true ∧ (str how).toList = anyW := by
  have h2 : ¬ how = okW := by rw [h]; decide
  exact ⟨decide_eq_true h, (lit_no h2).1, (lit_no h2).2, (lit_yes h).1, (lit_yes h).2⟩
theorem dep_cells (w : World) (n0 : Nat) (b : Bool) : ∀ j u, (cA ((n0 : Int), b))[j]? = some u → (w.alloc (.cells #[.int .i64 n0, .bool b] 44)).cell? ((⟨w.heap.size, 0, none⟩ : Addr).add j) = some u := fun j u hu => by
  rw [Addr.add_lit, World.cell?_alloc_mark]
  simpa [cA] using hu
theorem flA_one' (d : Dep) : ∀ u ∈ cA d, u.oneCell' = true := fun u hu => by
  simp only [cA, List.mem_cons, List.not_mem_nil, or_false] at hu
  rcases hu with rfl | rfl <;> rfl

/-- How after stands ahead of part k. -/
structure AfS (w : World) (pB R : Nat) (x : Slip) (line : Int) (g : Gh) (L : List Tx) (k : Nat) (l : List Dep) (g' : Gh) (W : World) : Prop where
  hm : (L.take k).mapM dep? = some l
  r : Rdr W R { x with after := x.after ++ l } line g'
  kp : Kp R g g' w W
  p : Prts W pB 0 L
  np : ¬ Mr R g' pB
  ll : l.length ≤ k
theorem AfS.next {w : World} {pB R : Nat} {x : Slip} {line : Int} {g : Gh} {L : List Tx} {k : Nat} {l : List Dep} {g' : Gh} {W W' : World} (h : AfS w pB R x line g L k l g' W) (hb : Below W.heap.size W W') : AfS w pB R x line g L k l g' W' :=
  ⟨h.hm, h.r.next hb, h.kp.trans (Kp.of g' hb (Nat.le_of_lt h.r.box.lt)), h.p.next hb, h.np, h.ll⟩
theorem AfS.add {w : World} {pB R : Nat} {x : Slip} {line : Int} {g : Gh} {L : List Tx} {k : Nat} {l : List Dep} {g' : Gh} {W W1 w6 : World} (h : AfS w pB R x line g L k l g' W) {y : Tx} {d : Dep} (hy : L[k]? = some y) (hd : dep? y = some d) (hW : Below W.heap.size W W1) {v' : Value} {m0 : Nat} (hm0 : (x.after ++ l).length = m0)
    (h1 : w6.ownsRow (R + 1) 44 2 v' (m0 + 1) (flA (x.after ++ l) ++ cA d)) (h2 : W1.grownBy w6 g'.a.ownBlock) (h3 : v'.ownBlock = g'.a.ownBlock ∨ v'.ownBlock = some W1.heap.size) :
    AfS w pB R x line g L (k + 1) (l ++ [d]) { g' with a := v' } (w6.setCell ⟨R, 4, none⟩ v') := by
  subst hm0
  obtain ⟨q1, q2⟩ := h.r.push_a hW d h1 h2 h3
  refine ⟨by rw [mapM_take dep? hy h.hm, hd], ?_, h.kp.trans q2, h.p.kept q2.low.size (q2.same pB h.p.1 h.np), q2.off h.p.1 h.np, by rw [List.length_append]; have := h.ll; simp; omega⟩
  have e : x.after ++ (l ++ [d]) = x.after ++ l ++ [d] := (List.append_assoc _ _ _).symm
  rw [e]
  exact q1

set_option maxRecDepth 100000 in
set_option maxHeartbeats 8000000 in
theorem after_any {w : World} {R : Nat} {x : Slip} {line : Int} {g : Gh} (h : Rdr w R x line g) (v : Tx) (hv : v.length ≤ 20000) (hx : x.after.length ≤ 20000) (hL : LaidB R w) :
    Calls Tryz.prog 88 #[.pointer (some ⟨R, 0, none⟩), .string (str v)] w (StoT2 R g (((cuts 44 v).mapM dep?).map fun l => { x with after := x.after ++ l }) line w) := by
  have HR := Lib.hid h
  have hRw := h.box.lt
  have HX := Lib.hid hx
  have HLB := Lib.hid hL
  have HSP := Lib.hid (split_c 44 v (by omega) w hL.here)
  have HLEN := Lib.hid (cuts_mem_len 44 v)
  have HV := Lib.hid hv
  have hnl := cuts_len 44 v
  generalize cuts 44 v = L at *
  obtain ⟨n, hn⟩ : ∃ n, L.length = n := ⟨_, rfl⟩
  rw [hn] at HSP hnl
  have HNL := Lib.hid hn
  have hn2 : n ≤ 20001 := by omega
  clear h hv hx hL hn hnl
  go_enter Tryz.func88, Tryz.ntmps88
  go_wp2_with (go_at_call 65; ((with_reducible refine HSP.out.mono ?_); rintro e w1 ⟨rfl, hp, hb⟩); have HP := Lib.hid hp; have HB := Lib.hid hb; clear hp hb)
  have HS0 := Lib.hid (show AfS w w.heap.size R x line g L 0 [] g w1 from
    ⟨rfl, by have := HR.out.next HB.out; rwa [List.append_nil], Kp.of g HB.out (Nat.le_of_lt hRw), HP.out, fun hm => by have := (HR.out.lM hm).2.1; omega, Nat.le_refl _⟩)
  clear HSP HP HB
  go_loopw [12] (fun s12 W => ∃ (k : Nat) (l : List Dep) (g' : Gh), s12 = .int .i64 k ∧ k ≤ n ∧ Aside (AfS w w.heap.size R x line g L k l g' W)) (fun s12 _ => n - (intOf s12).toNat)
  case atStart => exact ⟨0, [], g, rfl, Nat.zero_le _, HS0.out⟩
  case round =>
    clear HS0
    obtain ⟨k, l, g', rfl, hk, hst⟩ := hrel
    have HA := Lib.hid (show AfS w w.heap.size R x line g L k l g' wr from hst)
    clear hst
    by_cases hkn : k < n
    · have hkl : k < L.length := by rw [HNL.out]; exact hkn
      obtain ⟨y, hy⟩ : ∃ y, L[k]? = some y := ⟨_, List.getElem?_eq_getElem hkl⟩
      have hc0 := HA.out.p.2 k y hy
      rw [Nat.zero_add] at hc0
      have hyl : y.length ≤ 20000 := Nat.le_trans (HLEN.out y (List.mem_of_getElem? hy)) HV.out
      have hpz : w.heap.size < wr.heap.size := HA.out.p.1
      have hRz : R < wr.heap.size := HA.out.r.box.lt
      have HLD := Lib.hid (HLB.out.next HA.out.kp.low)
      have HCUT := Lib.hid (fun (W : World) (hb : Below wr.heap.size wr W) => cut_c 58 y (by omega) W (HLD.out.next (hb.mono (Nat.le_of_lt hRz))).here)
      have HDW := Lib.hid (dep_way (p := y) rfl)
      obtain ⟨fl1, fl2⟩ := fldB_len 58 y
      generalize (fldB 58 y).1 = how at *
      generalize (fldB 58 y).2 = job at *
      generalize (cutB 58 y).isSome = is at *
      have HY := Lib.hid hy
      have HJL := Lib.hid (show job.length ≤ 140737488355328 by omega)
      have HNU := Lib.hid (fun (W : World) (hb : Below wr.heap.size wr W) => (show Calls Tryz.prog 107 #[.pointer (some ⟨R, 0, none⟩), .string (str job), .int .i64 1, .int .i64 1073741824] W (NumT (within? job 1 1073741824) line W) from number_any (HA.out.r.next hb) job HJL.out 1 1073741824 (HLD.out.next (hb.mono (Nat.le_of_lt hRz))).here.u))
      have HMY := Lib.hid (fun (W : World) (hb : Below wr.heap.size wr W) => must_yes (HA.out.r.next hb))
      have HMN := Lib.hid (fun (W : World) (hb : Below wr.heap.size wr W) => must_no (HA.out.r.next hb))
      have HPAN := Lib.hid (fun (W : World) (hb : Below wr.heap.size wr W) (hd : dep? y = none) => (show StoT2 R g ((L.mapM dep?).map fun l => { x with after := x.after ++ l }) line w (.panicked (pnc 150 line)) W from by
        rw [mapM_none dep? L (k + 1) (by rw [mapM_take dep? HY.out HA.out.hm, hd])]
        exact ⟨rfl, HA.out.kp.lk (Lk.of g' hb (Nat.le_of_lt hRz))⟩))
      clear hy hyl fl1 fl2 hkl
      by_cases hw1 : how = okW
      · obtain ⟨hbv, q1, q1', q2, q2'⟩ := lits_ok hw1
        cases hw : within? job 1 1073741824 with
        | none =>
          rw [hw] at HNU HDW
          clear hw
          have HD := Lib.hid (show dep? y = none by rw [HDW.out])
          unfold okW at q1 q1'; unfold anyW at q2 q2'
          clear hbv hw1
          go_upto_region 5 with (first | (go_at_call 64; ((with_reducible refine (HCUT.out _ (Below.refl _ _)).mono ?_); rintro e w2 ⟨rfl, hb⟩); have HB2 := Lib.hid hb; have hz2 := hb.size; clear hb) | (go_at_call 41; ((with_reducible refine (HMY.out _ HB2.out).mono ?_); rintro e w3 ⟨rfl, rfl⟩)))
          have hR2 : R < w2.heap.size := Nat.lt_of_lt_of_le hRz hz2
          have c4 : w2.cell? ⟨R, 4, none⟩ = some g'.a := (HA.out.next HB2.out).r.box.cell 4 _
          clear HMY HMN HCUT hc0
          refine wp_region_held_drew (S := (fun W => W.cell? ⟨R, 4, none⟩ = some g'.a)) (by kernel_rfl) (by exact c4) (fun hHeld => ?_)
          refine wpAnyH_take (i := 0) (v := ?_) (ata at0) (by kernel_rfl) (by kernel_rfl) (by kernel_rfl) (fun _ _ _ h => h) (Or.inl ⟨by rfl, ?_⟩) (by assumption) ?_
          rotate_left
          · (intro w hSw; (try dsimp only at hSw); go_simp; (first | done | with_reducible rfl))
          try simp only [Act.put, List.setIfInBounds_toArray, List.set_cons_zero, List.set_cons_succ]
          refine wpAnyH_take (i := 1) (v := ?_) (ata (atS at0)) (by kernel_rfl) (by kernel_rfl) (by kernel_rfl) (fun _ _ _ h => h) (Or.inl ⟨by rfl, ?_⟩) (by assumption) ?_
          rotate_left
          · (intro w hSw; (try dsimp only at hSw); go_simp; (first | done | with_reducible rfl))
          try simp only [Act.put, List.setIfInBounds_toArray, List.set_cons_zero, List.set_cons_succ]
          refine wpAnyH_take (i := 2) (v := ?_) (ata (atS (atS at0))) (by kernel_rfl) (by kernel_rfl) (by kernel_rfl) (fun _ _ _ h => h) (Or.inl ⟨by rfl, ?_⟩) (by assumption) ?_
          rotate_left
          · (intro w hSw; (try dsimp only at hSw); go_simp; (first | done | with_reducible rfl))
          try simp only [Act.put, List.setIfInBounds_toArray, List.set_cons_zero, List.set_cons_succ]
          refine wpAnyH_take (i := 3) (v := ?_) (ata (atS (atS (atS at0)))) (by kernel_rfl) (by kernel_rfl) (by kernel_rfl) (fun _ _ _ h => h) (Or.inl ⟨by rfl, ?_⟩) (by assumption) ?_
          rotate_left
          · (intro w hSw; (try dsimp only at hSw); go_simp; (first | done | with_reducible rfl))
          try simp only [Act.put, List.setIfInBounds_toArray, List.set_cons_zero, List.set_cons_succ]
          refine wpAnyH_take (i := 4) (v := ?_) (ata (atS (atS (atS (atS at0))))) (by kernel_rfl) (by kernel_rfl) (by kernel_rfl) (fun _ _ _ h => h) (Or.inl ⟨by rfl, ?_⟩) (by assumption) ?_
          rotate_left
          · (intro w hSw; (try dsimp only at hSw); go_simp; (first | done | with_reducible rfl))
          try simp only [Act.put, List.setIfInBounds_toArray, List.set_cons_zero, List.set_cons_succ]
          refine wpAnyH_take (i := 5) (v := ?_) (ata (atS (atS (atS (atS (atS at0)))))) (by kernel_rfl) (by kernel_rfl) (by kernel_rfl) (fun _ _ _ h => h) (Or.inl ⟨by rfl, ?_⟩) (by assumption) ?_
          rotate_left
          · (intro w hSw; (try dsimp only at hSw); go_simp; (first | done | with_reducible rfl))
          try simp only [Act.put, List.setIfInBounds_toArray, List.set_cons_zero, List.set_cons_succ]
          refine wpAnyH_take (i := 6) (v := ?_) (ata (atS (atS (atS (atS (atS (atS at0))))))) (by kernel_rfl) (by kernel_rfl) (by kernel_rfl) (fun _ _ _ h => h) (Or.inl ⟨by rfl, ?_⟩) (by assumption) ?_
          rotate_left
          · (intro w hSw; (try dsimp only at hSw); go_simp; (first | done | with_reducible rfl))
          try simp only [Act.put, List.setIfInBounds_toArray, List.set_cons_zero, List.set_cons_succ]
          refine wpAnyH_take (i := 7) (v := ?_) (ata (atS (atS (atS (atS (atS (atS (atS at0)))))))) (by kernel_rfl) (by kernel_rfl) (by kernel_rfl) (fun _ _ _ h => h) (Or.inl ⟨by rfl, ?_⟩) (by assumption) ?_
          rotate_left
          · (intro w hSw; (try dsimp only at hSw); go_simp; (first | done | with_reducible rfl))
          try simp only [Act.put, List.setIfInBounds_toArray, List.set_cons_zero, List.set_cons_succ]
          refine wpAnyH_take (i := 9) (v := ?_) (ata (atS (atS (atS (atS (atS (atS (atS (atS (atS at0)))))))))) (by kernel_rfl) (by kernel_rfl) (by kernel_rfl) (fun _ _ _ h => h) (Or.inl ⟨by rfl, ?_⟩) (by assumption) ?_
          rotate_left
          · (intro w hSw; (try dsimp only at hSw); go_simp; (first | done | with_reducible rfl))
          try simp only [Act.put, List.setIfInBounds_toArray, List.set_cons_zero, List.set_cons_succ]
          refine wpAnyH_take (i := 10) (v := ?_) (ata (atS (atS (atS (atS (atS (atS (atS (atS (atS (atS at0))))))))))) (by kernel_rfl) (by kernel_rfl) (by kernel_rfl) (fun _ _ _ h => h) (Or.inl ⟨by rfl, ?_⟩) (by assumption) ?_
          rotate_left
          · (intro w hSw; (try dsimp only at hSw); go_simp; (first | done | with_reducible rfl))
          try simp only [Act.put, List.setIfInBounds_toArray, List.set_cons_zero, List.set_cons_succ]
          refine wpAnyH_ready (rs := [8]) (by kernel_rfl) (by simp) ?_
          refine AllReadyH.cons (ata (atS (atS (atS (atS (atS (atS (atS (atS at0))))))))) (fun K hK => ?_) AllReadyH.nil
          go_simp
          (go_at_call 107; ((with_reducible refine (HNU.out _ (HB2.out.trans ((drew_low _).mono hz2))).mono ?_); rintro e w4 ⟨rfl, hb4⟩))
          exact ⟨rfl, HPAN.out _ (HB2.out.trans (((drew_low _).trans hb4).mono hz2)) HD.out⟩
        | some n0 =>
          rw [hw] at HNU HDW
          clear hw
          have HD := Lib.hid (show dep? y = some ((n0 : Int), false) by rw [HDW.out]; dsimp only; rw [if_pos (.inl hw1), hbv])
          unfold okW at q1 q1'; unfold anyW at q2 q2'
          clear hbv hw1
          go_upto_region 5 with (first | (go_at_call 64; ((with_reducible refine (HCUT.out _ (Below.refl _ _)).mono ?_); rintro e w2 ⟨rfl, hb⟩); have HB2 := Lib.hid hb; have hz2 := hb.size; clear hb) | (go_at_call 41; ((with_reducible refine (HMY.out _ HB2.out).mono ?_); rintro e w3 ⟨rfl, rfl⟩)))
          have hR2 : R < w2.heap.size := Nat.lt_of_lt_of_le hRz hz2
          have HA2 := Lib.hid (HA.out.next HB2.out)
          have c4 : w2.cell? ⟨R, 4, none⟩ = some g'.a := HA2.out.r.box.cell 4 _
          clear HMY HMN HCUT HPAN hc0
          have mixed : Tryz.prog.follows .mixedOrders = true := by kernel_rfl
          obtain ⟨m0, hm0⟩ : ∃ m0, (x.after ++ l).length = m0 := ⟨_, rfl⟩
          have HM0 := Lib.hid hm0
          clear hm0
          go_region_law_o (first
            | (go_simp; (go_at_call 107; ((with_reducible refine (HNU.out _ (HB2.out.trans ((drew_low _).mono hz2))).mono ?_); rintro e w4 ⟨rfl, hb4⟩); have HB4 := Lib.hid (show Below w2.heap.size w2 w4 from (drew_low w2).trans hb4); have c44 : w4.cell? ⟨R, 4, none⟩ = some g'.a := (Below.cell HB4.out hR2).trans c4; have hR4 : R < w4.heap.size := Nat.lt_of_lt_of_le hR2 HB4.out.size; clear hb4))
            | (refine step_app eltA rfl (.tmp 35) (.tmp 42) rfl (base := R + 1) (n := m0) (cs := flA (x.after ++ l)) (v := g'.a) (by rfl) (by rw [← HM0.out]; exact (HA2.out.next (HB4.out.trans (((Below.refl _ w4).alloc (Nat.le_refl _) (.cells #[.int .i64 n0, .bool false] 44)).mono HB4.out.size))).r.a) ⟨w4.heap.size, 0, none⟩ (cA ((n0 : Int), false)) (by rfl) (by exact dep_cells w4 n0 false) rfl (by exact flA_one' _) (by have := HX.out; have := HA2.out.ll; rw [← HM0.out, List.length_append]; omega) (by decide) (by have := HB4.out.size; simp; omega) ?_; intro gb cb w6 h1 h2 h3; have hmid := HA2.out.r.mid_a (HB4.out.trans (((Below.refl _ w4).alloc (Nat.le_refl _) (.cells #[.int .i64 n0, .bool false] 44)).mono HB4.out.size)) h2; have c46 : w6.cell? ⟨R, 4, none⟩ = some g'.a := hmid.cell 4 _; have f46 := hmid.free 4; have hR6 := hmid.lt; have HADD := Lib.hid (HA2.out.add HY.out HD.out (HB4.out.trans (((Below.refl _ w4).alloc (Nat.le_refl _) (.cells #[.int .i64 n0, .bool false] 44)).mono HB4.out.size)) HM0.out h1 h2 (h3.imp (fun e => e) (fun e => congrArg Option.some e))); clear h1 h2 h3 hmid))
          all_goals
            go_wp2
            go_roundw
            case rel => exact ⟨k + 1, _, _, by go_num, by omega, HADD.out⟩
            case measure => simp [intOf]; omega
      · by_cases hw2 : how = anyW
        · obtain ⟨hbv, q1, q1', q2, q2'⟩ := lits_any hw2
          cases hw : within? job 1 1073741824 with
          | none =>
            rw [hw] at HNU HDW
            clear hw
            have HD := Lib.hid (show dep? y = none by rw [HDW.out])
            unfold okW at q1 q1'; unfold anyW at q2 q2'
            clear hbv hw1 hw2
            go_upto_region 5 with (first | (go_at_call 64; ((with_reducible refine (HCUT.out _ (Below.refl _ _)).mono ?_); rintro e w2 ⟨rfl, hb⟩); have HB2 := Lib.hid hb; have hz2 := hb.size; clear hb) | (go_at_call 41; ((with_reducible refine (HMY.out _ HB2.out).mono ?_); rintro e w3 ⟨rfl, rfl⟩)))
            have hR2 : R < w2.heap.size := Nat.lt_of_lt_of_le hRz hz2
            have c4 : w2.cell? ⟨R, 4, none⟩ = some g'.a := (HA.out.next HB2.out).r.box.cell 4 _
            clear HMY HMN HCUT hc0
            refine wp_region_held_drew (S := (fun W => W.cell? ⟨R, 4, none⟩ = some g'.a)) (by kernel_rfl) (by exact c4) (fun hHeld => ?_)
            refine wpAnyH_take (i := 0) (v := ?_) (ata at0) (by kernel_rfl) (by kernel_rfl) (by kernel_rfl) (fun _ _ _ h => h) (Or.inl ⟨by rfl, ?_⟩) (by assumption) ?_
            rotate_left
            · (intro w hSw; (try dsimp only at hSw); go_simp; (first | done | with_reducible rfl))
            try simp only [Act.put, List.setIfInBounds_toArray, List.set_cons_zero, List.set_cons_succ]
            refine wpAnyH_take (i := 1) (v := ?_) (ata (atS at0)) (by kernel_rfl) (by kernel_rfl) (by kernel_rfl) (fun _ _ _ h => h) (Or.inl ⟨by rfl, ?_⟩) (by assumption) ?_
            rotate_left
            · (intro w hSw; (try dsimp only at hSw); go_simp; (first | done | with_reducible rfl))
            try simp only [Act.put, List.setIfInBounds_toArray, List.set_cons_zero, List.set_cons_succ]
            refine wpAnyH_take (i := 2) (v := ?_) (ata (atS (atS at0))) (by kernel_rfl) (by kernel_rfl) (by kernel_rfl) (fun _ _ _ h => h) (Or.inl ⟨by rfl, ?_⟩) (by assumption) ?_
            rotate_left
            · (intro w hSw; (try dsimp only at hSw); go_simp; (first | done | with_reducible rfl))
            try simp only [Act.put, List.setIfInBounds_toArray, List.set_cons_zero, List.set_cons_succ]
            refine wpAnyH_take (i := 3) (v := ?_) (ata (atS (atS (atS at0)))) (by kernel_rfl) (by kernel_rfl) (by kernel_rfl) (fun _ _ _ h => h) (Or.inl ⟨by rfl, ?_⟩) (by assumption) ?_
            rotate_left
            · (intro w hSw; (try dsimp only at hSw); go_simp; (first | done | with_reducible rfl))
            try simp only [Act.put, List.setIfInBounds_toArray, List.set_cons_zero, List.set_cons_succ]
            refine wpAnyH_take (i := 4) (v := ?_) (ata (atS (atS (atS (atS at0))))) (by kernel_rfl) (by kernel_rfl) (by kernel_rfl) (fun _ _ _ h => h) (Or.inl ⟨by rfl, ?_⟩) (by assumption) ?_
            rotate_left
            · (intro w hSw; (try dsimp only at hSw); go_simp; (first | done | with_reducible rfl))
            try simp only [Act.put, List.setIfInBounds_toArray, List.set_cons_zero, List.set_cons_succ]
            refine wpAnyH_take (i := 5) (v := ?_) (ata (atS (atS (atS (atS (atS at0)))))) (by kernel_rfl) (by kernel_rfl) (by kernel_rfl) (fun _ _ _ h => h) (Or.inl ⟨by rfl, ?_⟩) (by assumption) ?_
            rotate_left
            · (intro w hSw; (try dsimp only at hSw); go_simp; (first | done | with_reducible rfl))
            try simp only [Act.put, List.setIfInBounds_toArray, List.set_cons_zero, List.set_cons_succ]
            refine wpAnyH_take (i := 6) (v := ?_) (ata (atS (atS (atS (atS (atS (atS at0))))))) (by kernel_rfl) (by kernel_rfl) (by kernel_rfl) (fun _ _ _ h => h) (Or.inl ⟨by rfl, ?_⟩) (by assumption) ?_
            rotate_left
            · (intro w hSw; (try dsimp only at hSw); go_simp; (first | done | with_reducible rfl))
            try simp only [Act.put, List.setIfInBounds_toArray, List.set_cons_zero, List.set_cons_succ]
            refine wpAnyH_take (i := 7) (v := ?_) (ata (atS (atS (atS (atS (atS (atS (atS at0)))))))) (by kernel_rfl) (by kernel_rfl) (by kernel_rfl) (fun _ _ _ h => h) (Or.inl ⟨by rfl, ?_⟩) (by assumption) ?_
            rotate_left
            · (intro w hSw; (try dsimp only at hSw); go_simp; (first | done | with_reducible rfl))
            try simp only [Act.put, List.setIfInBounds_toArray, List.set_cons_zero, List.set_cons_succ]
            refine wpAnyH_take (i := 9) (v := ?_) (ata (atS (atS (atS (atS (atS (atS (atS (atS (atS at0)))))))))) (by kernel_rfl) (by kernel_rfl) (by kernel_rfl) (fun _ _ _ h => h) (Or.inl ⟨by rfl, ?_⟩) (by assumption) ?_
            rotate_left
            · (intro w hSw; (try dsimp only at hSw); go_simp; (first | done | with_reducible rfl))
            try simp only [Act.put, List.setIfInBounds_toArray, List.set_cons_zero, List.set_cons_succ]
            refine wpAnyH_take (i := 10) (v := ?_) (ata (atS (atS (atS (atS (atS (atS (atS (atS (atS (atS at0))))))))))) (by kernel_rfl) (by kernel_rfl) (by kernel_rfl) (fun _ _ _ h => h) (Or.inl ⟨by rfl, ?_⟩) (by assumption) ?_
            rotate_left
            · (intro w hSw; (try dsimp only at hSw); go_simp; (first | done | with_reducible rfl))
            try simp only [Act.put, List.setIfInBounds_toArray, List.set_cons_zero, List.set_cons_succ]
            refine wpAnyH_ready (rs := [8]) (by kernel_rfl) (by simp) ?_
            refine AllReadyH.cons (ata (atS (atS (atS (atS (atS (atS (atS (atS at0))))))))) (fun K hK => ?_) AllReadyH.nil
            go_simp
            (go_at_call 107; ((with_reducible refine (HNU.out _ (HB2.out.trans ((drew_low _).mono hz2))).mono ?_); rintro e w4 ⟨rfl, hb4⟩))
            exact ⟨rfl, HPAN.out _ (HB2.out.trans (((drew_low _).trans hb4).mono hz2)) HD.out⟩
          | some n0 =>
            rw [hw] at HNU HDW
            clear hw
            have HD := Lib.hid (show dep? y = some ((n0 : Int), true) by rw [HDW.out]; dsimp only; rw [if_pos (.inr hw2), hbv])
            unfold okW at q1 q1'; unfold anyW at q2 q2'
            clear hbv hw1 hw2
            go_upto_region 5 with (first | (go_at_call 64; ((with_reducible refine (HCUT.out _ (Below.refl _ _)).mono ?_); rintro e w2 ⟨rfl, hb⟩); have HB2 := Lib.hid hb; have hz2 := hb.size; clear hb) | (go_at_call 41; ((with_reducible refine (HMY.out _ HB2.out).mono ?_); rintro e w3 ⟨rfl, rfl⟩)))
            have hR2 : R < w2.heap.size := Nat.lt_of_lt_of_le hRz hz2
            have HA2 := Lib.hid (HA.out.next HB2.out)
            have c4 : w2.cell? ⟨R, 4, none⟩ = some g'.a := HA2.out.r.box.cell 4 _
            clear HMY HMN HCUT HPAN hc0
            have mixed : Tryz.prog.follows .mixedOrders = true := by kernel_rfl
            obtain ⟨m0, hm0⟩ : ∃ m0, (x.after ++ l).length = m0 := ⟨_, rfl⟩
            have HM0 := Lib.hid hm0
            clear hm0
            go_region_law_o (first
              | (go_simp; (go_at_call 107; ((with_reducible refine (HNU.out _ (HB2.out.trans ((drew_low _).mono hz2))).mono ?_); rintro e w4 ⟨rfl, hb4⟩); have HB4 := Lib.hid (show Below w2.heap.size w2 w4 from (drew_low w2).trans hb4); have c44 : w4.cell? ⟨R, 4, none⟩ = some g'.a := (Below.cell HB4.out hR2).trans c4; have hR4 : R < w4.heap.size := Nat.lt_of_lt_of_le hR2 HB4.out.size; clear hb4))
              | (refine step_app eltA rfl (.tmp 35) (.tmp 42) rfl (base := R + 1) (n := m0) (cs := flA (x.after ++ l)) (v := g'.a) (by rfl) (by rw [← HM0.out]; exact (HA2.out.next (HB4.out.trans (((Below.refl _ w4).alloc (Nat.le_refl _) (.cells #[.int .i64 n0, .bool true] 44)).mono HB4.out.size))).r.a) ⟨w4.heap.size, 0, none⟩ (cA ((n0 : Int), true)) (by rfl) (by exact dep_cells w4 n0 true) rfl (by exact flA_one' _) (by have := HX.out; have := HA2.out.ll; rw [← HM0.out, List.length_append]; omega) (by decide) (by have := HB4.out.size; simp; omega) ?_; intro gb cb w6 h1 h2 h3; have hmid := HA2.out.r.mid_a (HB4.out.trans (((Below.refl _ w4).alloc (Nat.le_refl _) (.cells #[.int .i64 n0, .bool true] 44)).mono HB4.out.size)) h2; have c46 : w6.cell? ⟨R, 4, none⟩ = some g'.a := hmid.cell 4 _; have f46 := hmid.free 4; have hR6 := hmid.lt; have HADD := Lib.hid (HA2.out.add HY.out HD.out (HB4.out.trans (((Below.refl _ w4).alloc (Nat.le_refl _) (.cells #[.int .i64 n0, .bool true] 44)).mono HB4.out.size)) HM0.out h1 h2 (h3.imp (fun e => e) (fun e => congrArg Option.some e))); clear h1 h2 h3 hmid))
            all_goals
              go_wp2
              go_roundw
              case rel => exact ⟨k + 1, _, _, by go_num, by omega, HADD.out⟩
              case measure => simp [intOf]; omega
        · have HD := Lib.hid (show dep? y = none by rw [HDW.out]; cases within? job 1 1073741824 with
            | none => rfl
            | some n0 => dsimp only; rw [if_neg (fun h => h.elim hw1 hw2)])
          obtain ⟨q1, q1'⟩ := lit_no hw1
          obtain ⟨q2, q2'⟩ := lit_no hw2
          unfold okW at q1 q1'
          unfold anyW at q2 q2'
          clear hw1 hw2
          go_wp2_with (first | (go_at_call 64; ((with_reducible refine (HCUT.out _ (Below.refl _ _)).mono ?_); rintro e w2 ⟨rfl, hb⟩); have HB2 := Lib.hid hb; have hz2 := hb.size; clear hb) | (go_at_call 41; ((with_reducible refine (HMN.out _ HB2.out).mono ?_); rintro e w3 ⟨rfl, rfl⟩)))
          exact ⟨rfl, HPAN.out _ HB2.out HD.out⟩
    · obtain rfl : k = n := by omega
      go_wp2
      go_end0
      have hm := HA.out.hm
      rw [List.take_of_length_le (by rw [HNL.out]; exact Nat.le_refl _)] at hm
      rw [hm]
      exact ⟨rfl, g', HA.out.r, HA.out.kp⟩
end Go.Proofs.YtpmghgfgbkncoaaGreatDoor.gn
end
section
set_option linter.unusedVariables false
set_option linter.unusedSimpArgs false
namespace Go.Proofs.YtpmghgfgbkncoaaGreatDoor.gn
open Go.RowKit
open Go.Proofs.YtpmghgfgbkncoaaGreatDoor.un
open Go.Proofs.YtpmghgfgbkncoaaGreatDoor.di
open Go.Proofs.YtpmghgfgbkncoaaGreatDoor.sp (Slip cuts cutB within? dep? fput frun first? userK nodesK wallK qosK afterK okW anyW jobW pput pline pread chkS Ok shortP soundP waitsP storedP apartP dirsP dropD useD capD innD outD txtS line1 dirsS sread fldB fldB_len cutB_lib cuts_len cuts_mem_len countB_cuts splitB_cuts cuts_ne words_cuts)

/-! ### the methods, by their keys -/
def meth (g : FuncId) (R : Nat) : Value := .func (.func g) #[.pointer (some ⟨R, 0, none⟩)] #[]
def mth (R : Nat) (j : Tx) : Option Value :=
  if j = afterK then some (meth 88 R) else if j = qosK then some (meth 87 R) else if j = wallK then some (meth 86 R)
  else if j = nodesK then some (meth 85 R) else if j = userK then some (meth 84 R) else none
theorem mth_none {R : Nat} {j : Tx} (h : mth R j = none) (x : Slip) (v : Tx) : fput x (j, v) = none := by
  unfold mth at h
  by_cases h1 : j = afterK
  · rw [if_pos h1] at h; cases h
  rw [if_neg h1] at h
  by_cases h2 : j = qosK
  · rw [if_pos h2] at h; cases h
  rw [if_neg h2] at h
  by_cases h3 : j = wallK
  · rw [if_pos h3] at h; cases h
  rw [if_neg h3] at h
  by_cases h4 : j = nodesK
  · rw [if_pos h4] at h; cases h
  rw [if_neg h4] at h
  by_cases h5 : j = userK
  · rw [if_pos h5] at h; cases h
  unfold fput
  rw [if_neg h5, if_neg h4, if_neg h3, if_neg h2, if_neg h1]
theorem mth_call {j : Tx} {R : Nat} {m : Value} (h : mth R j = some m) : ∃ q, m = meth q R ∧ (∀ (x y : Value) (W : World), (callFunc q #[x, y]).run Tryz.prog W = .ok (.enter q #[x, y]) W) ∧
    ∀ (v : Tx) (hv : v.length ≤ 20000) (W : World) (x : Slip) (line : Int) (g : Gh), Rdr W R x line g → (j = afterK → x.after = []) → LaidB R W → Calls Tryz.prog q #[.pointer (some ⟨R, 0, none⟩), .string (str v)] W (StoT2 R g (fput x (j, v)) line W) := by
  unfold mth at h
  by_cases h1 : j = afterK
  · rw [if_pos h1] at h
    subst h1
    cases h
    refine ⟨_, rfl, fun x y W => by kernel_rfl, fun v hv W x line g hr ha hL => ?_⟩
    have := after_any hr v hv (by rw [ha rfl]; exact Nat.zero_le _) hL
    have e : fput x (afterK, v) = ((cuts 44 v).mapM dep?).map fun l => { x with after := x.after ++ l } := by
      unfold fput
      rw [if_neg (show ¬ afterK = userK by decide), if_neg (show ¬ afterK = nodesK by decide), if_neg (show ¬ afterK = wallK by decide), if_neg (show ¬ afterK = qosK by decide), if_pos rfl, ha rfl]
      rfl
    rw [e]
    exact this
  rw [if_neg h1] at h
  by_cases h2 : j = qosK
  · rw [if_pos h2] at h
    subst h2
    cases h
    exact ⟨_, rfl, fun x y W => by kernel_rfl, fun v hv W x line g hr _ hL => qos_any hr v (by omega) hL.here.u⟩
  rw [if_neg h2] at h
  by_cases h3 : j = wallK
  · rw [if_pos h3] at h
    subst h3
    cases h
    exact ⟨_, rfl, fun x y W => by kernel_rfl, fun v hv W x line g hr _ hL => wall_any hr v (by omega) hL.here.u⟩
  rw [if_neg h3] at h
  by_cases h4 : j = nodesK
  · rw [if_pos h4] at h
    subst h4
    cases h
    exact ⟨_, rfl, fun x y W => by kernel_rfl, fun v hv W x line g hr _ hL => nodes_any hr v (by omega) hL.here.u⟩
  rw [if_neg h4] at h
  by_cases h5 : j = userK
  · rw [if_pos h5] at h
    subst h5
    cases h
    exact ⟨_, rfl, fun x y W => by kernel_rfl, fun v hv W x line g hr _ hL => user_any hr v (by omega)⟩
  rw [if_neg h5] at h
  cases h

set_option maxRecDepth 100000 in
set_option maxHeartbeats 3200000 in
theorem fields_any (R : Nat) (w : World) : Calls Tryz.prog 66 #[.pointer (some ⟨R, 0, none⟩)] w fun e w' => ∃ L, e = .returned (.map (some w.heap.size)) ∧ MapV w' w.heap.size L ∧ (∀ j, fi.get j L = mth R j) ∧ Below w.heap.size w w' := by
  have ht := Tryz.underlying101
  have y0 : Below w.heap.size w (w.alloc (.map #[] 0)) := (Below.refl _ _).alloc (Nat.le_refl _) _
  have m0 := MapV.new w
  have l0 : ([] : List (Tx × Value)).length ≤ 0 := Nat.le_refl _
  obtain ⟨v1, L1, r1, m1, l1, q1, g1⟩ := m0.put2 l0 (k := userK) ht (by decide) (by decide) (meth 84 R)
  obtain ⟨v2, L2, r2, m2, l2, q2, g2⟩ := m1.put2 l1 (k := nodesK) ht (by decide) (by decide) (meth 85 R)
  obtain ⟨v3, L3, r3, m3, l3, q3, g3⟩ := m2.put2 l2 (k := wallK) ht (by decide) (by decide) (meth 86 R)
  obtain ⟨v4, L4, r4, m4, l4, q4, g4⟩ := m3.put2 l3 (k := qosK) ht (by decide) (by decide) (meth 87 R)
  obtain ⟨v5, L5, r5, m5, l5, q5, g5⟩ := m4.put2 l4 (k := afterK) ht (by decide) (by decide) (meth 88 R)
  have hg : But w.heap.size (w.alloc (.map #[] 0)) v5 := (((g1.trans g2).trans g3).trans g4).trans g5
  have HB := Lib.hid (y0.grown hg y0.size (fun j hj => by cases hj; exact Nat.le_refl _))
  have HM := Lib.hid m5
  have HG := Lib.hid (show ∀ j, fi.get j L5 = mth R j from fun j => by rw [q5, q4, q3, q2, q1]; rfl)
  have u1 : (Instr.mapUpdate 101 (.map (some w.heap.size)) (.string { data := #[117, 115, 101, 114] }) (.func (.func 84) #[.pointer (some ⟨R, 0, none⟩)] #[])).run Tryz.prog (w.alloc (.map #[] 0)) = .ok () v1 := r1
  have u2 : (Instr.mapUpdate 101 (.map (some w.heap.size)) (.string { data := #[110, 111, 100, 101, 115] }) (.func (.func 85) #[.pointer (some ⟨R, 0, none⟩)] #[])).run Tryz.prog v1 = .ok () v2 := r2
  have u3 : (Instr.mapUpdate 101 (.map (some w.heap.size)) (.string { data := #[119, 97, 108, 108] }) (.func (.func 86) #[.pointer (some ⟨R, 0, none⟩)] #[])).run Tryz.prog v2 = .ok () v3 := r3
  have u4 : (Instr.mapUpdate 101 (.map (some w.heap.size)) (.string { data := #[113, 111, 115] }) (.func (.func 87) #[.pointer (some ⟨R, 0, none⟩)] #[])).run Tryz.prog v3 = .ok () v4 := r4
  have u5 : (Instr.mapUpdate 101 (.map (some w.heap.size)) (.string { data := #[97, 102, 116, 101, 114] }) (.func (.func 88) #[.pointer (some ⟨R, 0, none⟩)] #[])).run Tryz.prog v4 = .ok () v5 := r5
  have hmm := @run_makeMap Tryz.prog
  have hmf : ∀ (fn : Fn) (first cap : Array Value) (w : World), (Instr.makeFunc fn first cap).run Tryz.prog w = .ok (.func fn first cap) w := fun _ _ _ _ => rfl
  clear y0 m0 l0 r1 r2 r3 r4 r5 m1 m2 m3 m4 m5 l1 l2 l3 l4 l5 q1 q2 q3 q4 q5 g1 g2 g3 g4 g5 hg
  go_enter Tryz.func66, Tryz.ntmps66
  go_wp2
  go_ret
  exact ⟨_, rfl, HM.out, HG.out, HB.out⟩

/-! ### the first line -/
theorem frun_app : ∀ (a : List Tx) (s : Slip × List Tx) (b : List Tx), frun s (a ++ b) = match frun s a with
    | some t => frun t b
    | none => none
  | [], s, b => rfl
  | w :: a, s, b => by
    have ih := fun t => frun_app a t b
    rw [List.cons_append, frun, frun]
    cases cut w with
    | none => rfl
    | some f =>
      dsimp only
      split
      · rfl
      · cases fput s.1 f with
        | none => rfl
        | some y => exact ih _
theorem frun_one (s : Slip × List Tx) (w : Tx) : frun s [w] = match cut w with
    | none => none
    | some f => if f.1 ∈ s.2 then none else match fput s.1 f with
      | none => none
      | some y => some (y, s.2 ++ [f.1]) := by
  rw [frun]
  cases cut w with
  | none => rfl
  | some f =>
    dsimp only
    split
    · rfl
    · cases fput s.1 f <;> rfl
theorem frun_take {s t : Slip × List Tx} {ws : List Tx} {k : Nat} {w : Tx} (h : frun s (ws.take k) = some t) (hw : ws[k]? = some w) : frun s (ws.take (k + 1)) = frun t [w] := by
  rw [List.take_add_one, hw, frun_app, h]
  rfl
theorem frun_bad {s : Slip × List Tx} {ws : List Tx} {k : Nat} (h : frun s (ws.take k) = none) : frun s ws = none := by
  rw [← List.take_append_drop k ws, frun_app, h]
theorem first_bad {l j : Tx} {ws : List Tx} (hc : cuts 32 l = j :: ws) (h : frun (Slip.zero, []) ws = none) : first? l = none := by
  unfold first?
  rw [hc]
  dsimp only
  rw [h]
  split <;> rfl
theorem first_word {l j : Tx} {ws : List Tx} (hc : cuts 32 l = j :: ws) (h : ¬ j = jobW) : first? l = none := by
  unfold first?
  rw [hc]
  dsimp only
  rw [if_neg h]
theorem first_end {l : Tx} {ws : List Tx} {t : Slip × List Tx} (hc : cuts 32 l = jobW :: ws) (h : frun (Slip.zero, []) ws = some t) : first? l = if userK ∈ t.2 ∧ nodesK ∈ t.2 ∧ wallK ∈ t.2 then some t.1 else none := by
  unfold first?
  rw [hc]
  dsimp only
  rw [if_pos rfl, h]

set_option maxRecDepth 100000 in
theorem slice_one {w : World} {p nl : Nat} {ws : List Tx} (h : Prts w p 1 ws) (hn : nl - 1 = ws.length) (h2 : 1 ≤ nl) :
    ∃ o, Prts w p o ws ∧ ∀ W, (Instr.slice 25 (.slice (some ⟨p, 0, none⟩) nl nl) (some (.int .i64 1)) none none).run Tryz.prog W = .ok (.slice (some ⟨p, o, none⟩) (nl - 1) (nl - 1)) W := by
  have hz : ∀ W, (sizeOf (Tryz.prog.elem 25)).run Tryz.prog W = .ok 1 W := fun W => by kernel_rfl
  have hr : ∀ W, (Instr.slice 25 (.slice (some ⟨p, 0, none⟩) nl nl) (some (.int .i64 1)) none none).run Tryz.prog W = .ok (sliced (some ⟨p, 0, none⟩) 1 nl nl 1) W := fun W => by
    rw [run_slice_l W 25 _ nl nl Tryz.underlying25 .i64 1 (by omega) (by omega), hz]
    rfl
  by_cases he : nl = 1
  · refine ⟨0, ⟨h.1, fun i x hx => ?_⟩, fun W => ?_⟩
    · have : ws = [] := List.eq_nil_of_length_eq_zero (by omega)
      rw [this] at hx
      simp at hx
    · rw [hr, sliced, if_pos he]
  · refine ⟨1, h, fun W => ?_⟩
    rw [hr, sliced, if_neg he]
    rfl

/-- How job stands ahead of field k. -/
structure JbS (w : World) (pB o mB R : Nat) (line : Int) (g : Gh) (ws : List Tx) (k : Nat) (y : Slip) (seen : List Tx) (g' : Gh) (Lm : List (Tx × Value)) (W : World) : Prop where
  hm : frun (Slip.zero, []) (ws.take k) = some (y, seen)
  r : Rdr W R y line g'
  kp : Kp R g g' w W
  p : Prts W pB o ws
  np : ¬ Mr R g' pB
  m : MapV W mB Lm
  get : ∀ j, fi.get j Lm = if j ∈ seen then none else mth R j
  nm : ¬ Mr R g' mB
  ne : pB ≠ mB
  af : afterK ∉ seen → y.after = []
  hw : w.heap.size ≤ mB
  rw_ : R < w.heap.size
theorem JbS.next {w : World} {pB o mB R : Nat} {line : Int} {g : Gh} {ws : List Tx} {k : Nat} {y : Slip} {seen : List Tx} {g' : Gh} {Lm : List (Tx × Value)} {W W' : World} (h : JbS w pB o mB R line g ws k y seen g' Lm W) (hb : Below W.heap.size W W') : JbS w pB o mB R line g ws k y seen g' Lm W' :=
  ⟨h.hm, h.r.next hb, h.kp.trans (Kp.of g' hb (Nat.le_of_lt h.r.box.lt)), h.p.next hb, h.np, h.m.next hb, h.get, h.nm, h.ne, h.af, h.hw, h.rw_⟩
/-- The map is turned. -/
theorem Rdr.but {w w' : World} {R b : Nat} {x : Slip} {line : Int} {g : Gh} (h : Rdr w R x line g) (hb : But b w w') (hn : ¬ Mr R g b) : Rdr w' R x line g :=
  h.kept fun k hk => hb.block k (h.lM hk).2.1 fun e => hn (by cases e; exact hk)
theorem JbS.del {w : World} {pB o mB R : Nat} {line : Int} {g : Gh} {ws : List Tx} {k : Nat} {y : Slip} {seen : List Tx} {g' : Gh} {Lm : List (Tx × Value)} {W W' W2 : World} (h : JbS w pB o mB R line g ws k y seen g' Lm W) {x : Tx} (hx : ws[k]? = some x) {key v : Tx} (hc : cut x = some (key, v)) (hs : key ∉ seen) {y2 : Slip} (hp : fput y (key, v) = some y2) {g2 : Gh} (hr : Rdr W' R y2 line g2) (hk : Kp R g' g2 W W')
    (hm : MapV W2 mB (fi.del key Lm)) (hb : But mB W' W2) : JbS w pB o mB R line g ws (k + 1) y2 (seen ++ [key]) g2 (fi.del key Lm) W2 := by
  have hmz : mB < W.heap.size := h.m.lt
  have hpz := h.p.1
  have nm2 := hk.off hmz h.nm
  have np2 := hk.off hpz h.np
  have h9 := h.rw_
  have hkk := h.kp.trans hk
  refine ⟨?_, hr.but hb nm2, ⟨?_, fun b hb2 hm2 => ?_, ?_⟩, ?_, np2, hm, fun j => ?_, nm2, h.ne, fun ha => ?_, h.hw, h.rw_⟩
  · rw [frun_take h.hm hx, frun_one, hc]
    dsimp only
    rw [if_neg hs, hp]
  · exact hkk.low.grown hb (Nat.le_of_lt hr.box.lt) (fun j e => by cases e; have := h.hw; omega)
  · exact (hb.block b (Nat.lt_of_lt_of_le hb2 hkk.low.size) (fun e => by cases e; have := h.hw; omega)).trans (hkk.same b hb2 hm2)
  · exact hkk.mv
  · have h1 : Prts W' pB o ws := h.p.kept hk.low.size (hk.same pB hpz h.np)
    exact h1.kept hb.size (hb.block pB h1.1 fun e => h.ne (Option.some.inj e))
  · rw [get_del, h.get]
    by_cases hj : j = key
    · rw [if_pos hj, if_pos (by rw [hj]; simp)]
    · rw [if_neg hj]
      have : j ∈ seen ++ [key] ↔ j ∈ seen := by simp [hj]
      simp only [this]
  · have h1 : afterK ∉ seen := fun h2 => ha (by simp [h2])
    have h2 : ¬ key = afterK := fun h2 => ha (by simp [h2])
    rw [← h.af h1]
    unfold fput at hp
    split at hp
    · cases hp; rfl
    split at hp
    · obtain ⟨n, _, rfl⟩ := Option.map_eq_some_iff.1 hp; rfl
    split at hp
    · obtain ⟨n, _, rfl⟩ := Option.map_eq_some_iff.1 hp; rfl
    split at hp
    · obtain ⟨n, _, rfl⟩ := Option.map_eq_some_iff.1 hp; rfl
    · first
      | cases hp
      | (split at hp
         · next h3 => exact absurd h3 h2
         · cases hp)
end Go.Proofs.YtpmghgfgbkncoaaGreatDoor.gn
end
section
set_option linter.unusedVariables false
set_option linter.unusedSimpArgs false
namespace Go.Proofs.YtpmghgfgbkncoaaGreatDoor.gn
open Go.RowKit
open Go.Proofs.YtpmghgfgbkncoaaGreatDoor.un
open Go.Proofs.YtpmghgfgbkncoaaGreatDoor.di
open Go.Proofs.YtpmghgfgbkncoaaGreatDoor.sp (Slip cuts cutB within? dep? fput frun first? userK nodesK wallK qosK afterK okW anyW jobW pput pline pread chkS Ok shortP soundP waitsP storedP apartP dirsP dropD useD capD innD outD txtS line1 dirsS sread fldB fldB_len cutB_lib cuts_len cuts_mem_len countB_cuts splitB_cuts cuts_ne words_cuts)

theorem get_empty (L : List (Tx × Value)) : (∀ j, fi.get j L = none) ↔ L.length = 0 := by
  constructor
  · intro h
    cases L with
    | nil => rfl
    | cons a r =>
      have := h a.1
      unfold fi.get at this
      simp at this
  · intro h j
    have : L = [] := List.eq_nil_of_length_eq_zero h
    subst this
    rfl
/-- What is left behind the last field: none, just if all three have come. -/
theorem left_none {R : Nat} {seen : List Tx} {L : List (Tx × Value)} (hg : ∀ j, fi.get j L = if j = afterK ∨ j = qosK then none else if j ∈ seen then none else mth R j) : L.length = 0 ↔ userK ∈ seen ∧ nodesK ∈ seen ∧ wallK ∈ seen := by
  rw [← get_empty]
  constructor
  · intro h
    have key : ∀ j, ¬ (j = afterK ∨ j = qosK) → mth R j ≠ none → j ∈ seen := fun j h1 h2 => by
      have := h j
      rw [hg, if_neg h1] at this
      by_cases h3 : j ∈ seen
      · exact h3
      · rw [if_neg h3] at this; exact absurd this h2
    refine ⟨key _ (by decide) ?_, key _ (by decide) ?_, key _ (by decide) ?_⟩
    · unfold mth
      rw [if_neg (by decide), if_neg (by decide), if_neg (by decide), if_neg (by decide), if_pos rfl]
      exact Option.some_ne_none _
    · unfold mth
      rw [if_neg (by decide), if_neg (by decide), if_neg (by decide), if_pos rfl]
      exact Option.some_ne_none _
    · unfold mth
      rw [if_neg (by decide), if_neg (by decide), if_pos rfl]
      exact Option.some_ne_none _
  · rintro ⟨h1, h2, h3⟩ j
    rw [hg]
    by_cases h4 : j = afterK ∨ j = qosK
    · rw [if_pos h4]
    rw [if_neg h4]
    by_cases h5 : j ∈ seen
    · rw [if_pos h5]
    rw [if_neg h5]
    unfold mth
    rw [if_neg (fun h => h4 (.inl h)), if_neg (fun h => h4 (.inr h)), if_neg (fun e => h5 (by rw [e]; exact h3)), if_neg (fun e => h5 (by rw [e]; exact h2)), if_neg (fun e => h5 (by rw [e]; exact h1))]
theorem zeroFn (W : World) : (zeroValue 71).run Tryz.prog W = .ok .nilFunc W := by kernel_rfl

def JobT (R : Nat) (g : Gh) (l : Tx) (line : Int) (w : World) (e : Ending) (w' : World) : Prop := StoT2 R g (first? l) line w e w'
theorem JobT.no {R : Nat} {g : Gh} {l : Tx} {line : Int} {w w' : World} (h : first? l = none) (hb : Lk R g w w') : JobT R g l line w (.panicked (pnc 150 line)) w' := by
  unfold JobT
  rw [h]
  exact ⟨rfl, hb⟩

set_option maxRecDepth 100000 in
set_option maxHeartbeats 16000000 in
theorem job_any {w : World} {R : Nat} {line : Int} {g : Gh} (h : Rdr w R Slip.zero line g) (l : Tx) (hl : l.length ≤ 20000) (hL : LaidB R w) :
    Calls Tryz.prog 38 #[.pointer (some ⟨R, 0, none⟩), .string (str l)] w (JobT R g l line w) := by
  have HR := Lib.hid h
  have hRw := h.box.lt
  have HLB := Lib.hid hL
  have HSP := Lib.hid (split_c 32 l (by omega) w hL.here)
  have hll := cuts_mem_len 32 l
  have hnl := cuts_len 32 l
  cases hc : cuts 32 l with
  | nil => exact absurd hc (cuts_ne 32 l)
  | cons j ws =>
  have HC := Lib.hid hc
  rw [hc] at HSP hll hnl
  obtain ⟨n, hn⟩ : ∃ n, ws.length = n := ⟨_, rfl⟩
  rw [List.length_cons, hn] at HSP hnl
  have HNL := Lib.hid hn
  have HLL := Lib.hid hll
  have hn2 : n ≤ 20001 := by omega
  have HLX := Lib.hid hl
  clear h hL hn hnl hll hc hl
  by_cases hj : j = jobW
  · have HW := Lib.hid (show cuts 32 l = jobW :: ws by rw [HC.out, hj])
    obtain ⟨q1, q2⟩ := lit_yes hj
    unfold jobW at q1 q2
    clear hj
    go_enter Tryz.func38, Tryz.ntmps38
    go_upto_region 1 with (go_at_call 65; ((with_reducible refine HSP.out.mono ?_); rintro e w1 ⟨rfl, hp, hb⟩); have HP := Lib.hid hp; have HB := Lib.hid hb; clear hp hb)
    have c0 := HP.out.2 0 j rfl
    rw [Nat.zero_add] at c0
    have hpz : w.heap.size < w1.heap.size := HP.out.1
    have HMY := Lib.hid (fun (W : World) (hb : Below w1.heap.size w1 W) => must_yes ((HR.out.next HB.out).next hb))
    obtain ⟨o, hpo, hsl⟩ := slice_one (nl := n + 1) (HP.out.drop 1) (by rw [Nat.add_sub_cancel]; exact HNL.out.symm) (by omega)
    rw [Nat.add_sub_cancel] at hsl
    have HPO := Lib.hid (show Prts w1 w.heap.size o ws from hpo)
    have hlt0 : (0 : Int) < (n : Int) + 1 := by omega
    clear HSP hpo
    go_upto_region 3 with (first
      | (go_at_call 41; ((with_reducible refine (HMY.out _ (Below.refl _ _)).mono ?_); rintro e w2 ⟨rfl, rfl⟩))
      | (go_at_call 66; ((with_reducible refine (fields_any R _).mono ?_); rintro e w3 ⟨Lm, rfl, hm, hg, hb⟩); have HM := Lib.hid hm; have HG := Lib.hid hg; have HB3 := Lib.hid hb; clear hm hg hb))
    have HS0 := Lib.hid (show JbS w w.heap.size o w1.heap.size R line g ws 0 Slip.zero [] g Lm w3 from
      ⟨rfl, (HR.out.next HB.out).next HB3.out, (Kp.of g HB.out (Nat.le_of_lt hRw)).trans (Kp.of g HB3.out (Nat.le_trans (Nat.le_of_lt hRw) HB.out.size)), HPO.out.next HB3.out, fun hm => by have := (HR.out.lM hm).2.1; omega, HM.out, fun j => by rw [HG.out]; rfl,
        fun hm => by have := (HR.out.lM hm).2.1; omega, by omega, fun _ => rfl, Nat.le_of_lt hpz, hRw⟩)
    clear HMY HM HG HB3 HPO HP HB c0 q1 q2
    generalize w1.heap.size = mB at *
    generalize w.heap.size = pB at *
    clear hpz
    go_upto_region 4 with fail
    go_loopw [26] (fun s26 W => ∃ (k : Nat) (y : Slip) (seen : List Tx) (g' : Gh) (L : List (Tx × Value)), s26 = .int .i64 k ∧ k ≤ n ∧ Aside (JbS w pB o mB R line g ws k y seen g' L W)) (fun s26 _ => n - (intOf s26).toNat)
    case atStart => exact ⟨0, _, _, _, _, rfl, Nat.zero_le _, HS0.out⟩
    case round =>
      clear HS0
      obtain ⟨k, y, seen, g', L, rfl, hk, hst⟩ := hrel
      have HA := Lib.hid (show JbS w pB o mB R line g ws k y seen g' L wr from hst)
      clear hst
      have hRz : R < wr.heap.size := HA.out.r.box.lt
      have HLD := Lib.hid (HLB.out.next HA.out.kp.low)
      by_cases hkn : k < n
      · have hkl : k < ws.length := by rw [HNL.out]; exact hkn
        obtain ⟨x, hx⟩ : ∃ x, ws[k]? = some x := ⟨_, List.getElem?_eq_getElem hkl⟩
        have hc0 := HA.out.p.2 k x hx
        have hpz : pB < wr.heap.size := HA.out.p.1
        have hxl : x.length ≤ 20000 := Nat.le_trans (HLL.out x (List.mem_cons_of_mem _ (List.mem_of_getElem? hx))) HLX.out
        obtain ⟨kl1, kl2⟩ := fld_len x
        have HKW := Lib.hid (show ∀ kv, cut x = some kv → fld x = kv from fun kv h => by unfold fld; rw [h]; rfl)
        obtain ⟨key, hkey⟩ : ∃ key, (fld x).1 = key := ⟨_, rfl⟩
        obtain ⟨v, hv⟩ : ∃ v, (fld x).2 = v := ⟨_, rfl⟩
        have HKV := Lib.hid (show fld x = (key, v) by rw [← hkey, ← hv])
        have HCUT := Lib.hid (show Calls Tryz.prog 64 #[.string (str x), .string { data := #[61] }] wr (Told (.tuple #[.string (str key), .string (str v), .bool (cut x).isSome]) wr) from by
          rw [← hkey, ← hv]; exact cut_any x (by omega) wr HLD.out.here)
        have HKL := Lib.hid (show key.length ≤ maxLen by rw [← hkey]; unfold maxLen; omega)
        have HVL := Lib.hid (show v.length ≤ 20000 by rw [← hv]; omega)
        have HX := Lib.hid hx
        have HMY := Lib.hid (fun (W : World) (hb : Below wr.heap.size wr W) => must_yes (HA.out.r.next hb))
        have HMN := Lib.hid (fun (W : World) (hb : Below wr.heap.size wr W) => must_no (HA.out.r.next hb))
        have HBAD := Lib.hid (fun (h : frun (y, seen) [x] = none) => (show first? l = none from first_bad HW.out (frun_bad (k := k + 1) (by rw [frun_take HA.out.hm HX.out, h]))))
        have HLK := Lib.hid HA.out.kp
        clear hx hxl kl1 kl2 hkey hv hkl
        have CUTA := True.intro
        cases hcx : cut x with
        | none =>
          have HF := Lib.hid (HBAD.out (by have h9 := frun_one (y, seen) x; rw [hcx] at h9; exact h9))
          rw [hcx] at HCUT
          clear hcx
          cases hgt : fi.get key L with
          | none =>
            have HGT := Lib.hid hgt
            clear hgt
            go_wp2_with (first
              | (go_at_call 64; ((with_reducible refine HCUT.out.mono ?_); rintro e w4 ⟨rfl, hb⟩); have HB4 := Lib.hid hb; clear hb)
              | (at_lookup; refine wpList_look_no _ rfl _ _ 101 _ rfl Tryz.underlying101 zeroFn mB L rfl (HA.out.next HB4.out).m key rfl HKL.out HGT.out ?_)
              | (go_at_call 41; ((with_reducible refine (HMN.out _ HB4.out).mono ?_); rintro e w5 ⟨rfl, rfl⟩)))
            exact ⟨rfl, JobT.no HF.out (HLK.out.lk (Lk.of g' HB4.out (Nat.le_of_lt hRz)))⟩
          | some m =>
            have HGT := Lib.hid hgt
            clear hgt
            go_wp2_with (first
              | (go_at_call 64; ((with_reducible refine HCUT.out.mono ?_); rintro e w4 ⟨rfl, hb⟩); have HB4 := Lib.hid hb; clear hb)
              | (at_lookup; refine wpList_look_yes _ rfl _ _ 101 _ rfl Tryz.underlying101 zeroFn mB L rfl (HA.out.next HB4.out).m key rfl HKL.out _ HGT.out ?_)
              | (go_at_call 41; ((with_reducible refine (HMN.out _ HB4.out).mono ?_); rintro e w5 ⟨rfl, rfl⟩)))
            exact ⟨rfl, JobT.no HF.out (HLK.out.lk (Lk.of g' HB4.out (Nat.le_of_lt hRz)))⟩
        | some kv =>
          obtain rfl : kv = (key, v) := (HKW.out kv hcx).symm.trans HKV.out
          have HCX := Lib.hid hcx
          rw [hcx] at HCUT
          clear hcx
          have hone : frun (y, seen) [x] = if key ∈ seen then none else match fput y (key, v) with
              | none => none
              | some y2 => some (y2, seen ++ [key]) := by have h9 := frun_one (y, seen) x; rw [HCX.out] at h9; exact h9
          cases hgt : fi.get key L with
          | none =>
            have HF := Lib.hid (HBAD.out (by
              rw [hone]
              have := HA.out.get key
              rw [hgt] at this
              by_cases hs : key ∈ seen
              · rw [if_pos hs]
              · rw [if_neg hs] at this
                rw [if_neg hs, mth_none this.symm]))
            have HGT := Lib.hid hgt
            clear hgt hone
            go_wp2_with (first
              | (go_at_call 64; ((with_reducible refine HCUT.out.mono ?_); rintro e w4 ⟨rfl, hb⟩); have HB4 := Lib.hid hb; clear hb)
              | (at_lookup; refine wpList_look_no _ rfl _ _ 101 _ rfl Tryz.underlying101 zeroFn mB L rfl (HA.out.next HB4.out).m key rfl HKL.out HGT.out ?_)
              | (go_at_call 41; ((with_reducible refine (HMN.out _ HB4.out).mono ?_); rintro e w5 ⟨rfl, rfl⟩)))
            exact ⟨rfl, JobT.no HF.out (HLK.out.lk (Lk.of g' HB4.out (Nat.le_of_lt hRz)))⟩
          | some m =>
            have hgm : mth R key = some m ∧ key ∉ seen := by
              have := HA.out.get key
              rw [hgt] at this
              by_cases hs : key ∈ seen
              · rw [if_pos hs] at this; cases this
              · rw [if_neg hs] at this; exact ⟨this.symm, hs⟩
            have HNS := Lib.hid hgm.2
            obtain ⟨q, rfl, hgo, hdo⟩ := mth_call hgm.1
            unfold meth at hgt
            have HGT := Lib.hid hgt
            have HDO := Lib.hid (fun (W : World) (hb : Below wr.heap.size wr W) => hdo v HVL.out W y line g' (HA.out.r.next hb) (fun e => HA.out.af (by rw [← e]; exact HNS.out)) (HLD.out.next (hb.mono (Nat.le_of_lt hRz))))
            rw [if_neg HNS.out] at hone
            clear hgt hgm hdo
            cases hp : fput y (key, v) with
            | none =>
              rw [hp] at hone HDO
              have HF := Lib.hid (HBAD.out hone)
              clear hone hp
              go_wp2_with (first
                | (go_at_call 64; ((with_reducible refine HCUT.out.mono ?_); rintro e w4 ⟨rfl, hb⟩); have HB4 := Lib.hid hb; clear hb)
                | (at_lookup; refine wpList_look_yes _ rfl _ _ 101 _ rfl Tryz.underlying101 zeroFn mB L rfl (HA.out.next HB4.out).m key rfl HKL.out _ HGT.out ?_)
                | (go_at_call 41; ((with_reducible refine (HMY.out _ HB4.out).mono ?_); rintro e w5 ⟨rfl, rfl⟩))
                | (go_at_fn q; refine (HDO.out _ HB4.out).mono ?_; rintro e w6 ⟨rfl, hb6⟩; have HB6 := Lib.hid hb6; clear hb6))
              exact ⟨rfl, JobT.no HF.out ((HLK.out.trans (Kp.of g' HB4.out (Nat.le_of_lt hRz))).lk HB6.out)⟩
            | some y2 =>
              rw [hp] at HDO
              have HPP := Lib.hid hp
              clear hone hp
              go_wp2_with (first
                | (go_at_call 64; ((with_reducible refine HCUT.out.mono ?_); rintro e w4 ⟨rfl, hb⟩); have HB4 := Lib.hid hb; clear hb)
                | (at_lookup; refine wpList_look_yes _ rfl _ _ 101 _ rfl Tryz.underlying101 zeroFn mB L rfl (HA.out.next HB4.out).m key rfl HKL.out _ HGT.out ?_)
                | (go_at_call 41; ((with_reducible refine (HMY.out _ HB4.out).mono ?_); rintro e w5 ⟨rfl, rfl⟩))
                | (go_at_fn q; refine (HDO.out _ HB4.out).mono ?_; rintro e w6 ⟨rfl, g2, hr6, hk6⟩; have HR6 := Lib.hid hr6; have HK6 := Lib.hid hk6; have HM6 := Lib.hid (show MapV w6 mB L from (HA.out.next HB4.out).m.kept (hk6.same mB (HA.out.next HB4.out).m.lt (HA.out.next HB4.out).nm)); clear hr6 hk6)
                | (at_delete; refine wpList_del_map _ rfl _ _ 101 _ rfl Tryz.underlying101 mB L rfl HM6.out key rfl HKL.out ?_; intro w7 hm7 hb7; have HM7 := Lib.hid hm7; have HB7 := Lib.hid hb7; clear hm7 hb7))
              go_roundw
              case rel => exact ⟨k + 1, y2, _, g2, _, by go_num, by omega, (HA.out.next HB4.out).del HX.out HCX.out HNS.out HPP.out HR6.out HK6.out HM7.out HB7.out⟩
              case measure => simp [intOf]; omega
      · obtain rfl : k = n := by omega
        have hfr : frun (Slip.zero, []) ws = some (y, seen) := by
          have := HA.out.hm
          rwa [List.take_of_length_le (by rw [HNL.out]; exact Nat.le_refl _)] at this
        have HEND := Lib.hid (first_end HW.out hfr)
        have HLOW := Lib.hid HA.out.kp.low
        have HMm := Lib.hid HA.out.m
        clear hfr hk hkn
        have HND := Lib.hid (And.intro HA.out.nm (Nat.le_trans (Nat.le_of_lt HA.out.rw_) HA.out.hw))
        have HWM := Lib.hid HA.out.hw
        have HGET := Lib.hid (show ∀ j, fi.get j (fi.del afterK (fi.del qosK L)) = if j = afterK ∨ j = qosK then none else if j ∈ seen then none else mth R j from fun j => by
          rw [get_del, get_del, HA.out.get]
          by_cases h1 : j = afterK
          · rw [if_pos h1, if_pos (.inl h1)]
          · by_cases h2 : j = qosK
            · rw [if_neg h1, if_pos h2, if_pos (.inr h2)]
            · rw [if_neg h1, if_neg h2, if_neg (show ¬ (j = afterK ∨ j = qosK) from fun h => h.elim h1 h2)])
        have HR1 := Lib.hid HA.out.r
        have HKP := Lib.hid HA.out.kp
        clear HA
        obtain ⟨D, hD⟩ : ∃ D, fi.del qosK L = D := ⟨_, rfl⟩
        obtain ⟨D2, hD2⟩ : ∃ D2, fi.del afterK D = D2 := ⟨_, rfl⟩
        rw [hD, hD2] at HGET
        have HD := Lib.hid hD
        have HD2 := Lib.hid hD2
        clear hD hD2
        have HLN := Lib.hid (left_none HGET.out)
        obtain ⟨m, hm⟩ : ∃ m, D2.length = m := ⟨_, rfl⟩
        rw [hm] at HLN
        have HM2 := Lib.hid hm
        clear hm
        have bnd : ∀ W, But mB wr W → Below R wr W ∧ (∀ b, b < w.heap.size → W.heap[b]? = wr.heap[b]?) := fun W hb => ⟨(Below.refl R wr).grown hb (Nat.le_of_lt hRz) (fun j e => by cases e; have := HND.out.2; omega), fun b hb2 => hb.block b (Nat.lt_of_lt_of_le hb2 HKP.out.low.size) (fun e => by cases e; have := HWM.out; omega)⟩
        have HBND := Lib.hid bnd
        clear bnd
        by_cases hz : m = 0
        · have hzb : ((m : Int) == 0) = true := by rw [beq_iff_eq]; omega
          have HEN := HEND.out
          rw [if_pos (HLN.out.1 hz)] at HEN
          have HFF := Lib.hid HEN
          clear HEN hz
          go_wp2_with (first
            | (at_delete; first
              | (refine wpList_del_map _ rfl _ _ 101 _ rfl Tryz.underlying101 mB D rfl HM8.out afterK rfl (by decide) ?_; intro w9 hm9 hb9; rw [HD2.out] at hm9; have HM9 := Lib.hid hm9; have HB9 := Lib.hid (HB8.out.trans hb9); have HMY := Lib.hid (must_yes (HR1.out.but HB9.out HND.out.1)); clear hm9 hb9)
              | (refine wpList_del_map _ rfl _ _ 101 _ rfl Tryz.underlying101 mB L rfl HMm.out qosK rfl (by decide) ?_; intro w8 hm8 hb8; rw [HD.out] at hm8; have HM8 := Lib.hid hm8; have HB8 := Lib.hid hb8; clear hm8 hb8))
            | (at_len; refine wpList_len_own _ rfl _ 101 rfl _ _ Tryz.underlying101 _ mB D2.length (datV D2) rfl HM9.out.exact ?_; rw [datV_size, HM2.out])
            | (go_at_call 41; ((with_reducible refine HMY.out.mono ?_); rintro e w5 ⟨rfl, rfl⟩)))
          go_end0
          unfold JobT
          rw [HFF.out]
          exact ⟨rfl, g', HR1.out.but HB9.out HND.out.1, ⟨HLOW.out.trans (HBND.out _ HB9.out).1, fun b hb2 hm2 => ((HBND.out _ HB9.out).2 b hb2).trans (HKP.out.same b hb2 hm2), HKP.out.mv⟩⟩
        · have hzb : ((m : Int) == 0) = false := by rw [beq_eq_false_iff_ne]; omega
          have HEN := HEND.out
          rw [if_neg (fun h => hz (HLN.out.2 h))] at HEN
          have HFF := Lib.hid HEN
          clear HEN hz
          go_wp2_with (first
            | (at_delete; first
              | (refine wpList_del_map _ rfl _ _ 101 _ rfl Tryz.underlying101 mB D rfl HM8.out afterK rfl (by decide) ?_; intro w9 hm9 hb9; rw [HD2.out] at hm9; have HM9 := Lib.hid hm9; have HB9 := Lib.hid (HB8.out.trans hb9); have HMN := Lib.hid (must_no (HR1.out.but HB9.out HND.out.1)); clear hm9 hb9)
              | (refine wpList_del_map _ rfl _ _ 101 _ rfl Tryz.underlying101 mB L rfl HMm.out qosK rfl (by decide) ?_; intro w8 hm8 hb8; rw [HD.out] at hm8; have HM8 := Lib.hid hm8; have HB8 := Lib.hid hb8; clear hm8 hb8))
            | (at_len; refine wpList_len_own _ rfl _ 101 rfl _ _ Tryz.underlying101 _ mB D2.length (datV D2) rfl HM9.out.exact ?_; rw [datV_size, HM2.out])
            | (go_at_call 41; ((with_reducible refine HMN.out.mono ?_); rintro e w5 ⟨rfl, rfl⟩)))
          exact ⟨rfl, JobT.no HFF.out ⟨HLOW.out.trans (HBND.out _ HB9.out).1, fun b hb2 hm2 => ((HBND.out _ HB9.out).2 b hb2).trans (HKP.out.same b hb2 hm2)⟩⟩
  · have HF := Lib.hid (first_word HC.out hj)
    obtain ⟨q1, q2⟩ := lit_no hj
    unfold jobW at q1 q2
    clear hj
    go_enter Tryz.func38, Tryz.ntmps38
    go_upto_region 1 with (go_at_call 65; ((with_reducible refine HSP.out.mono ?_); rintro e w1 ⟨rfl, hp, hb⟩); have HP := Lib.hid hp; have HB := Lib.hid hb; clear hp hb)
    have c0 := HP.out.2 0 j rfl
    rw [Nat.zero_add] at c0
    have hpz : w.heap.size < w1.heap.size := HP.out.1
    have HMN := Lib.hid (fun (W : World) (hb : Below w1.heap.size w1 W) => must_no ((HR.out.next HB.out).next hb))
    have hlt0 : (0 : Int) < (n : Int) + 1 := by omega
    clear HSP
    go_wp2_with (go_at_call 41; ((with_reducible refine (HMN.out _ (Below.refl _ _)).mono ?_); rintro e w2 ⟨rfl, rfl⟩))
    exact ⟨rfl, JobT.no HF.out (Lk.of g HB.out (Nat.le_of_lt hRw))⟩
end Go.Proofs.YtpmghgfgbkncoaaGreatDoor.gn
end
section
set_option linter.unusedVariables false
set_option linter.unusedSimpArgs false
namespace Go.Proofs.YtpmghgfgbkncoaaGreatDoor.gn
open Go.RowKit
open Go.Proofs.YtpmghgfgbkncoaaGreatDoor.un
open Go.Proofs.YtpmghgfgbkncoaaGreatDoor.di
open Go.Proofs.YtpmghgfgbkncoaaGreatDoor.sp (Slip cuts cutB within? dep? fput frun first? userK nodesK wallK qosK afterK okW anyW jobW pput pline pread put ldir_chk small_size chkS Ok shortP soundP waitsP storedP apartP dirsP dropD useD capD innD outD txtS line1 dirsS sread fldB fldB_len cutB_lib cuts_len cuts_mem_len countB_cuts splitB_cuts cuts_ne words_cuts)

theorem once_no {w : World} {R : Nat} {x : Slip} {line : Int} {g : Gh} (h : Rdr w R x line g) (j : Nat) (c n : Int) (hc : w.cell? ⟨R, j, none⟩ = some (.int .i64 c)) (h0 : ¬ c = 0) :
    Calls Tryz.prog 70 #[.pointer (some ⟨R, 0, none⟩), .pointer (some ⟨R, j, none⟩), .int .i64 n] w fun en w' => en = .panicked (pnc 150 line) ∧ w = w' := by
  have HM := Lib.hid (must_no h)
  have hlt := h.box.lt
  have hb : (c == 0) = false := by rw [beq_eq_false_iff_ne]; exact h0
  clear h h0
  go_enter Tryz.func70, Tryz.ntmps70
  go_wp2_with (go_at_call 41; ((with_reducible refine HM.out.mono ?_); rintro e w' ⟨rfl, rfl⟩))
  exact ⟨rfl, rfl, rfl⟩
theorem once_yes {w : World} {R : Nat} {x : Slip} {line : Int} {g : Gh} (h : Rdr w R x line g) (j : Nat) (n : Int) (hc : w.cell? ⟨R, j, none⟩ = some (.int .i64 0)) :
    Calls Tryz.prog 70 #[.pointer (some ⟨R, 0, none⟩), .pointer (some ⟨R, j, none⟩), .int .i64 n] w fun en w' => en = .returned (.tuple #[]) ∧ w' = w.setCell ⟨R, j, none⟩ (.int .i64 n) := by
  have HM := Lib.hid (must_yes h)
  have hlt := h.box.lt
  have hf := h.box.free j
  clear h
  go_enter Tryz.func70, Tryz.ntmps70
  go_wp2_with (go_at_call 41; ((with_reducible refine HM.out.mono ?_); rintro e w' ⟨rfl, rfl⟩))
  go_end0
  exact ⟨rfl, rfl⟩

/-- What a directive's storing does. -/
def DirT (R : Nat) (g : Gh) (x : Slip) (l : Tx) (line : Int) (w : World) (en : Ending) (w' : World) : Prop :=
  if lerr l = 0 then StoT2 R g (pput x (ldir l)) line w en w' else en = .panicked (pnc (lerr l) line) ∧ Lk R g w w'
theorem DirT.go {R : Nat} {g g' : Gh} {x y : Slip} {l : Tx} {line : Int} {w w' : World} (he : lerr l = 0) (hp : pput x (ldir l) = some y) (hr : Rdr w' R y line g') (hk : Kp R g g' w w') : DirT R g x l line w (.returned (.tuple #[])) w' := by
  unfold DirT
  rw [if_pos he, hp]
  exact ⟨rfl, g', hr, hk⟩
theorem DirT.no {R : Nat} {g : Gh} {x : Slip} {l : Tx} {line : Int} {w w' : World} (he : lerr l = 0) (hp : pput x (ldir l) = none) (hb : Lk R g w w') : DirT R g x l line w (.panicked (pnc 150 line)) w' := by
  unfold DirT
  rw [if_pos he, hp]
  exact ⟨rfl, hb⟩
theorem DirT.bad {R : Nat} {g : Gh} {x : Slip} {l : Tx} {line : Int} {w w' : World} {e : Int} (he : lerr l = e) (h0 : ¬ e = 0) (hb : Lk R g w w') : DirT R g x l line w (.panicked (pnc e line)) w' := by
  unfold DirT
  rw [he, if_neg h0]
  exact ⟨rfl, hb⟩
theorem cM_one (d : Dir) : ∀ u ∈ cM d, u.oneCell' = true := fun u hu => by
  simp only [cM, List.mem_cons, List.not_mem_nil, or_false] at hu
  rcases hu with rfl | rfl | rfl | rfl | rfl <;> rfl
theorem cS_one (d : Tx) : ∀ u ∈ cS d, u.oneCell' = true := fun u hu => by
  simp only [cS, List.mem_cons, List.not_mem_nil, or_false] at hu
  subst hu; rfl
theorem row_cells (w : World) (cs : List Value) (t : TypeId) : ∀ j u, cs[j]? = some u → (w.alloc (.cells cs.toArray t)).cell? ((⟨w.heap.size, 0, none⟩ : Addr).add j) = some u := fun j u hu => by
  rw [Addr.add_lit, World.cell?_alloc_mark]
  simpa using hu

set_option maxRecDepth 100000 in
set_option maxHeartbeats 8000000 in
theorem dirk_1 {w : World} {R : Nat} {x : Slip} {line : Int} {g : Gh} (h : Rdr w R x line g) (l : Tx) (hl : l.length ≤ 20000) (hL : LaidB R w) (n p : Tx) (z : Int) (o : Bool) (he : lerr l = 0) (hd : ldir l = ⟨1, n, p, z, o⟩) :
    Calls Tryz.prog 40 #[.pointer (some ⟨R, 0, none⟩), .string (str l)] w (DirT R g x l line w) := by
  have HR := Lib.hid h
  have hRw := h.box.lt
  have HP := Lib.hid (Parse_any l (by omega) w hL.here)
  have HE := Lib.hid he
  have HD := Lib.hid hd
  unfold ParseT at HP
  rw [hd, he] at HP
  unfold dV dcs at HP
  clear h hL he hd hl
  go_enter Tryz.func40, Tryz.ntmps40
  go_upto_region 3 with (go_at_call 68; ((with_reducible refine HP.out.mono ?_); rintro e w1 ⟨rfl, hb⟩); have HB := Lib.hid hb; clear hb)
  have hD : BoxA (w1.alloc (.cells #[.int .u8 1, .string (str n), .string (str p), .int .i64 z, .bool o] 51)) w1.heap.size 51 #[.int .u8 1, .string (str n), .string (str p), .int .i64 z, .bool o] := BoxA.new _ _ _
  have hB2 : Below w.heap.size w (w1.alloc (.cells #[.int .u8 1, .string (str n), .string (str p), .int .i64 z, .bool o] 51)) := HB.out.alloc HB.out.size _
  have hRD : R < w1.heap.size := Nat.lt_of_lt_of_le hRw HB.out.size
  obtain ⟨w2, hw2⟩ : ∃ w2, w1.alloc (.cells #[.int .u8 1, .string (str n), .string (str p), .int .i64 z, .bool o] 51) = w2 := ⟨_, rfl⟩
  first | rw [hw2] at hD hB2 ⊢ | (simp only [Nat.cast_ofNat, Nat.cast_one] at hw2 ⊢; rw [hw2] at hD hB2 ⊢)
  clear hw2
  have HR2 := Lib.hid (HR.out.next hB2)
  have HBW := Lib.hid hB2
  have y0 := hD.cell 0 _
  have y1 := hD.cell 1 _
  have y2 := hD.cell 2 _
  have y3 := hD.cell 3 _
  have y4 := hD.cell 4 _
  have hDz := hD.lt
  have HDB := Lib.hid hD
  have hR2 : R < w2.heap.size := HR2.out.box.lt
  generalize w1.heap.size = D at *
  have hDR : ¬ D = R := by omega
  have hRD2 : ¬ R = D := by omega
  clear hD hB2 HP HB
  by_cases hz : x.cap = 0
  · have HPP := Lib.hid (show pput x (ldir l) = some { x with cap := z, pool := p } by rw [HD.out]; unfold pput; dsimp only; rw [if_pos rfl]; rw [if_pos hz])
    have cj : w2.cell? ⟨R, 5, none⟩ = some (.int .i64 0) := by have := HR2.out.box.cell 5 (.int .i64 x.cap); rwa [hz] at this
    have HO := Lib.hid (fun (W : World) (hb : Below w2.heap.size w2 W) => once_yes (HR2.out.next hb) 5 z ((Below.cell hb hR2).trans cj))
    clear hz
    go_upto_region 5 with fail
    refine wp_region_held_drew (S := (fun W => W.cell? ⟨D, 3, none⟩ = some (.int .i64 z))) (by kernel_rfl) (by exact y3) (fun hHeld => ?_)
    refine wpAnyH_take (i := 0) (v := ?_) (ata at0) (by kernel_rfl) (by kernel_rfl) (by kernel_rfl) (fun _ _ _ h => h) (Or.inl ⟨by rfl, ?_⟩) (by assumption) ?_
    rotate_left
    · (intro w hSw; (try dsimp only at hSw); go_simp; (first | done | with_reducible rfl))
    try simp only [Act.put, List.setIfInBounds_toArray, List.set_cons_zero, List.set_cons_succ]
    refine wpAnyH_take (i := 1) (v := ?_) (ata (atS at0)) (by kernel_rfl) (by kernel_rfl) (by kernel_rfl) (fun _ _ _ h => h) (Or.inl ⟨by rfl, ?_⟩) (by assumption) ?_
    rotate_left
    · (intro w hSw; (try dsimp only at hSw); go_simp; (first | done | with_reducible rfl))
    try simp only [Act.put, List.setIfInBounds_toArray, List.set_cons_zero, List.set_cons_succ]
    refine wpAnyH_take (i := 2) (v := ?_) (ata (atS (atS at0))) (by kernel_rfl) (by kernel_rfl) (by kernel_rfl) (fun _ _ _ h => h) (Or.inl ⟨by rfl, ?_⟩) (by assumption) ?_
    rotate_left
    · (intro w hSw; (try dsimp only at hSw); go_simp; (first | done | with_reducible rfl))
    try simp only [Act.put, List.setIfInBounds_toArray, List.set_cons_zero, List.set_cons_succ]
    refine wpAnyH_take (i := 3) (v := ?_) (ata (atS (atS (atS at0)))) (by kernel_rfl) (by kernel_rfl) (by kernel_rfl) (fun _ _ _ h => h) (Or.inl ⟨by rfl, ?_⟩) (by assumption) ?_
    rotate_left
    · (intro w hSw; (try dsimp only at hSw); go_simp; (first | done | with_reducible rfl))
    try simp only [Act.put, List.setIfInBounds_toArray, List.set_cons_zero, List.set_cons_succ]
    refine wpAnyH_take (i := 4) (v := ?_) (ata (atS (atS (atS (atS at0))))) (by kernel_rfl) (by kernel_rfl) (by kernel_rfl) (fun _ _ _ h => h) (Or.inl ⟨by rfl, ?_⟩) (by assumption) ?_
    rotate_left
    · (intro w hSw; (try dsimp only at hSw); go_simp; (first | done | with_reducible rfl))
    try simp only [Act.put, List.setIfInBounds_toArray, List.set_cons_zero, List.set_cons_succ]
    refine wpAnyH_take (i := 5) (v := ?_) (ata (atS (atS (atS (atS (atS at0)))))) (by kernel_rfl) (by kernel_rfl) (by kernel_rfl) (fun _ _ _ h => h) (Or.inl ⟨by rfl, ?_⟩) (by assumption) ?_
    rotate_left
    · (intro w hSw; (try dsimp only at hSw); go_simp; (first | done | with_reducible rfl))
    try simp only [Act.put, List.setIfInBounds_toArray, List.set_cons_zero, List.set_cons_succ]
    refine wpAnyH_take (i := 6) (v := ?_) (ata (atS (atS (atS (atS (atS (atS at0))))))) (by kernel_rfl) (by kernel_rfl) (by kernel_rfl) (fun _ _ _ h => h) (Or.inl ⟨by rfl, ?_⟩) (by assumption) ?_
    rotate_left
    · (intro w hSw; (try dsimp only at hSw); go_simp; (first | done | with_reducible rfl))
    try simp only [Act.put, List.setIfInBounds_toArray, List.set_cons_zero, List.set_cons_succ]
    refine wpAnyH_ready (rs := [7]) (by kernel_rfl) (by simp) ?_
    refine AllReadyH.cons (ata (atS (atS (atS (atS (atS (atS (atS at0)))))))) (fun K hK => ?_) AllReadyH.nil
    go_simp
    (go_at_call 70; ((with_reducible refine (HO.out _ (drew_low w2)).mono ?_); rintro e w4 ⟨rfl, rfl⟩))
    refine hK.out _ _ (by exact (World.cell?_of_block (a := ⟨D, 3, none⟩) (Below.heap_setCell _ _ _ _ (by exact hDR))).trans y3) (fun hHeld => ?_)
    clear hK K
    try simp only [Act.put, List.setIfInBounds_toArray, List.set_cons_zero, List.set_cons_succ]
    refine wpAnyH_done (by kernel_rfl) ?_ _
    have HR4 := Lib.hid ((HR2.out.next (drew_low w2)).put (y := { x with cap := z }) (l2 := line) 5 (.int .i64 z) rfl rfl rfl rfl rfl)
    have HK4 := Lib.hid ((Kp.of g (HBW.out.trans ((drew_low w2).mono HBW.out.size)) (Nat.le_of_lt hRw)).trans (Kp.set g w2.drew R 5 (.int .i64 z)))
    have y2b : (w2.drew.setCell ⟨R, 5, none⟩ (.int .i64 z)).cell? ⟨D, 2, none⟩ = some (.string (str p)) := (World.cell?_of_block (a := ⟨D, 2, none⟩) (Below.heap_setCell _ _ _ _ (by exact hDR))).trans y2
    obtain ⟨w5, hw5⟩ : ∃ w5, w2.drew.setCell ⟨R, 5, none⟩ (.int .i64 z) = w5 := ⟨_, rfl⟩
    rw [hw5] at HR4 HK4 y2b ⊢
    have hR5 : R < w5.heap.size := HR4.out.box.lt
    have hD5 : D < w5.heap.size := by rw [← hw5]; simpa using hDz
    clear hw5 cj HO y0 y1 y2 y3 y4
    have c8 := HR4.out.box.cell 8 _
    have f8 := HR4.out.box.free 8
    go_wp2
    go_end0
    exact DirT.go HE.out HPP.out (HR4.out.put (y := { x with cap := z, pool := p }) (l2 := line) 8 (.string (str p)) rfl rfl rfl rfl rfl) (HK4.out.trans (Kp.set g w5 R 8 (.string (str p))))
  · have HPP := Lib.hid (show pput x (ldir l) = none by rw [HD.out]; unfold pput; dsimp only; rw [if_pos rfl]; rw [if_neg hz])
    have cj : w2.cell? ⟨R, 5, none⟩ = some (.int .i64 x.cap) := HR2.out.box.cell 5 _
    have HO := Lib.hid (fun (W : World) (hb : Below w2.heap.size w2 W) => once_no (HR2.out.next hb) 5 x.cap z ((Below.cell hb hR2).trans cj) hz)
    clear hz
    go_upto_region 5 with fail
    refine wp_region_held_drew (S := (fun W => W.cell? ⟨D, 3, none⟩ = some (.int .i64 z))) (by kernel_rfl) (by exact y3) (fun hHeld => ?_)
    refine wpAnyH_take (i := 0) (v := ?_) (ata at0) (by kernel_rfl) (by kernel_rfl) (by kernel_rfl) (fun _ _ _ h => h) (Or.inl ⟨by rfl, ?_⟩) (by assumption) ?_
    rotate_left
    · (intro w hSw; (try dsimp only at hSw); go_simp; (first | done | with_reducible rfl))
    try simp only [Act.put, List.setIfInBounds_toArray, List.set_cons_zero, List.set_cons_succ]
    refine wpAnyH_take (i := 1) (v := ?_) (ata (atS at0)) (by kernel_rfl) (by kernel_rfl) (by kernel_rfl) (fun _ _ _ h => h) (Or.inl ⟨by rfl, ?_⟩) (by assumption) ?_
    rotate_left
    · (intro w hSw; (try dsimp only at hSw); go_simp; (first | done | with_reducible rfl))
    try simp only [Act.put, List.setIfInBounds_toArray, List.set_cons_zero, List.set_cons_succ]
    refine wpAnyH_take (i := 2) (v := ?_) (ata (atS (atS at0))) (by kernel_rfl) (by kernel_rfl) (by kernel_rfl) (fun _ _ _ h => h) (Or.inl ⟨by rfl, ?_⟩) (by assumption) ?_
    rotate_left
    · (intro w hSw; (try dsimp only at hSw); go_simp; (first | done | with_reducible rfl))
    try simp only [Act.put, List.setIfInBounds_toArray, List.set_cons_zero, List.set_cons_succ]
    refine wpAnyH_take (i := 3) (v := ?_) (ata (atS (atS (atS at0)))) (by kernel_rfl) (by kernel_rfl) (by kernel_rfl) (fun _ _ _ h => h) (Or.inl ⟨by rfl, ?_⟩) (by assumption) ?_
    rotate_left
    · (intro w hSw; (try dsimp only at hSw); go_simp; (first | done | with_reducible rfl))
    try simp only [Act.put, List.setIfInBounds_toArray, List.set_cons_zero, List.set_cons_succ]
    refine wpAnyH_take (i := 4) (v := ?_) (ata (atS (atS (atS (atS at0))))) (by kernel_rfl) (by kernel_rfl) (by kernel_rfl) (fun _ _ _ h => h) (Or.inl ⟨by rfl, ?_⟩) (by assumption) ?_
    rotate_left
    · (intro w hSw; (try dsimp only at hSw); go_simp; (first | done | with_reducible rfl))
    try simp only [Act.put, List.setIfInBounds_toArray, List.set_cons_zero, List.set_cons_succ]
    refine wpAnyH_take (i := 5) (v := ?_) (ata (atS (atS (atS (atS (atS at0)))))) (by kernel_rfl) (by kernel_rfl) (by kernel_rfl) (fun _ _ _ h => h) (Or.inl ⟨by rfl, ?_⟩) (by assumption) ?_
    rotate_left
    · (intro w hSw; (try dsimp only at hSw); go_simp; (first | done | with_reducible rfl))
    try simp only [Act.put, List.setIfInBounds_toArray, List.set_cons_zero, List.set_cons_succ]
    refine wpAnyH_take (i := 6) (v := ?_) (ata (atS (atS (atS (atS (atS (atS at0))))))) (by kernel_rfl) (by kernel_rfl) (by kernel_rfl) (fun _ _ _ h => h) (Or.inl ⟨by rfl, ?_⟩) (by assumption) ?_
    rotate_left
    · (intro w hSw; (try dsimp only at hSw); go_simp; (first | done | with_reducible rfl))
    try simp only [Act.put, List.setIfInBounds_toArray, List.set_cons_zero, List.set_cons_succ]
    refine wpAnyH_ready (rs := [7]) (by kernel_rfl) (by simp) ?_
    refine AllReadyH.cons (ata (atS (atS (atS (atS (atS (atS (atS at0)))))))) (fun K hK => ?_) AllReadyH.nil
    go_simp
    (go_at_call 70; ((with_reducible refine (HO.out _ (drew_low w2)).mono ?_); rintro e w4 ⟨rfl, rfl⟩))
    exact ⟨rfl, DirT.no HE.out HPP.out (Lk.of g (HBW.out.trans ((drew_low w2).mono HBW.out.size)) (Nat.le_of_lt hRw))⟩

set_option maxRecDepth 100000 in
set_option maxHeartbeats 8000000 in
theorem dirk_2 {w : World} {R : Nat} {x : Slip} {line : Int} {g : Gh} (h : Rdr w R x line g) (l : Tx) (hl : l.length ≤ 20000) (hL : LaidB R w) (n p : Tx) (z : Int) (o : Bool) (he : lerr l = 0) (hd : ldir l = ⟨2, n, p, z, o⟩) :
    Calls Tryz.prog 40 #[.pointer (some ⟨R, 0, none⟩), .string (str l)] w (DirT R g x l line w) := by
  have HR := Lib.hid h
  have hRw := h.box.lt
  have HP := Lib.hid (Parse_any l (by omega) w hL.here)
  have HE := Lib.hid he
  have HD := Lib.hid hd
  unfold ParseT at HP
  rw [hd, he] at HP
  unfold dV dcs at HP
  clear h hL he hd hl
  go_enter Tryz.func40, Tryz.ntmps40
  go_upto_region 3 with (go_at_call 68; ((with_reducible refine HP.out.mono ?_); rintro e w1 ⟨rfl, hb⟩); have HB := Lib.hid hb; clear hb)
  have hD : BoxA (w1.alloc (.cells #[.int .u8 2, .string (str n), .string (str p), .int .i64 z, .bool o] 51)) w1.heap.size 51 #[.int .u8 2, .string (str n), .string (str p), .int .i64 z, .bool o] := BoxA.new _ _ _
  have hB2 : Below w.heap.size w (w1.alloc (.cells #[.int .u8 2, .string (str n), .string (str p), .int .i64 z, .bool o] 51)) := HB.out.alloc HB.out.size _
  have hRD : R < w1.heap.size := Nat.lt_of_lt_of_le hRw HB.out.size
  obtain ⟨w2, hw2⟩ : ∃ w2, w1.alloc (.cells #[.int .u8 2, .string (str n), .string (str p), .int .i64 z, .bool o] 51) = w2 := ⟨_, rfl⟩
  first | rw [hw2] at hD hB2 ⊢ | (simp only [Nat.cast_ofNat, Nat.cast_one] at hw2 ⊢; rw [hw2] at hD hB2 ⊢)
  clear hw2
  have HR2 := Lib.hid (HR.out.next hB2)
  have HBW := Lib.hid hB2
  have y0 := hD.cell 0 _
  have y1 := hD.cell 1 _
  have y2 := hD.cell 2 _
  have y3 := hD.cell 3 _
  have y4 := hD.cell 4 _
  have hDz := hD.lt
  have HDB := Lib.hid hD
  have hR2 : R < w2.heap.size := HR2.out.box.lt
  generalize w1.heap.size = D at *
  have hDR : ¬ D = R := by omega
  have hRD2 : ¬ R = D := by omega
  clear hD hB2 HP HB
  by_cases hz : x.inn = 0
  · have HPP := Lib.hid (show pput x (ldir l) = some { x with inn := z } by rw [HD.out]; unfold pput; dsimp only; rw [if_neg (by decide), if_pos rfl]; rw [if_pos hz])
    have cj : w2.cell? ⟨R, 6, none⟩ = some (.int .i64 0) := by have := HR2.out.box.cell 6 (.int .i64 x.inn); rwa [hz] at this
    have HO := Lib.hid (fun (W : World) (hb : Below w2.heap.size w2 W) => once_yes (HR2.out.next hb) 6 z ((Below.cell hb hR2).trans cj))
    clear hz
    go_upto_region 8 with fail
    refine wp_region_held_drew (S := (fun W => W.cell? ⟨D, 3, none⟩ = some (.int .i64 z))) (by kernel_rfl) (by exact y3) (fun hHeld => ?_)
    refine wpAnyH_take (i := 0) (v := ?_) (ata at0) (by kernel_rfl) (by kernel_rfl) (by kernel_rfl) (fun _ _ _ h => h) (Or.inl ⟨by rfl, ?_⟩) (by assumption) ?_
    rotate_left
    · (intro w hSw; (try dsimp only at hSw); go_simp; (first | done | with_reducible rfl))
    try simp only [Act.put, List.setIfInBounds_toArray, List.set_cons_zero, List.set_cons_succ]
    refine wpAnyH_take (i := 1) (v := ?_) (ata (atS at0)) (by kernel_rfl) (by kernel_rfl) (by kernel_rfl) (fun _ _ _ h => h) (Or.inl ⟨by rfl, ?_⟩) (by assumption) ?_
    rotate_left
    · (intro w hSw; (try dsimp only at hSw); go_simp; (first | done | with_reducible rfl))
    try simp only [Act.put, List.setIfInBounds_toArray, List.set_cons_zero, List.set_cons_succ]
    refine wpAnyH_take (i := 2) (v := ?_) (ata (atS (atS at0))) (by kernel_rfl) (by kernel_rfl) (by kernel_rfl) (fun _ _ _ h => h) (Or.inl ⟨by rfl, ?_⟩) (by assumption) ?_
    rotate_left
    · (intro w hSw; (try dsimp only at hSw); go_simp; (first | done | with_reducible rfl))
    try simp only [Act.put, List.setIfInBounds_toArray, List.set_cons_zero, List.set_cons_succ]
    refine wpAnyH_take (i := 3) (v := ?_) (ata (atS (atS (atS at0)))) (by kernel_rfl) (by kernel_rfl) (by kernel_rfl) (fun _ _ _ h => h) (Or.inl ⟨by rfl, ?_⟩) (by assumption) ?_
    rotate_left
    · (intro w hSw; (try dsimp only at hSw); go_simp; (first | done | with_reducible rfl))
    try simp only [Act.put, List.setIfInBounds_toArray, List.set_cons_zero, List.set_cons_succ]
    refine wpAnyH_take (i := 4) (v := ?_) (ata (atS (atS (atS (atS at0))))) (by kernel_rfl) (by kernel_rfl) (by kernel_rfl) (fun _ _ _ h => h) (Or.inl ⟨by rfl, ?_⟩) (by assumption) ?_
    rotate_left
    · (intro w hSw; (try dsimp only at hSw); go_simp; (first | done | with_reducible rfl))
    try simp only [Act.put, List.setIfInBounds_toArray, List.set_cons_zero, List.set_cons_succ]
    refine wpAnyH_take (i := 5) (v := ?_) (ata (atS (atS (atS (atS (atS at0)))))) (by kernel_rfl) (by kernel_rfl) (by kernel_rfl) (fun _ _ _ h => h) (Or.inl ⟨by rfl, ?_⟩) (by assumption) ?_
    rotate_left
    · (intro w hSw; (try dsimp only at hSw); go_simp; (first | done | with_reducible rfl))
    try simp only [Act.put, List.setIfInBounds_toArray, List.set_cons_zero, List.set_cons_succ]
    refine wpAnyH_take (i := 6) (v := ?_) (ata (atS (atS (atS (atS (atS (atS at0))))))) (by kernel_rfl) (by kernel_rfl) (by kernel_rfl) (fun _ _ _ h => h) (Or.inl ⟨by rfl, ?_⟩) (by assumption) ?_
    rotate_left
    · (intro w hSw; (try dsimp only at hSw); go_simp; (first | done | with_reducible rfl))
    try simp only [Act.put, List.setIfInBounds_toArray, List.set_cons_zero, List.set_cons_succ]
    refine wpAnyH_ready (rs := [7]) (by kernel_rfl) (by simp) ?_
    refine AllReadyH.cons (ata (atS (atS (atS (atS (atS (atS (atS at0)))))))) (fun K hK => ?_) AllReadyH.nil
    go_simp
    (go_at_call 70; ((with_reducible refine (HO.out _ (drew_low w2)).mono ?_); rintro e w4 ⟨rfl, rfl⟩))
    refine hK.out _ _ (by exact (World.cell?_of_block (a := ⟨D, 3, none⟩) (Below.heap_setCell _ _ _ _ (by exact hDR))).trans y3) (fun hHeld => ?_)
    clear hK K
    try simp only [Act.put, List.setIfInBounds_toArray, List.set_cons_zero, List.set_cons_succ]
    refine wpAnyH_done (by kernel_rfl) ?_ _
    have HR4 := Lib.hid ((HR2.out.next (drew_low w2)).put (y := { x with inn := z }) (l2 := line) 6 (.int .i64 z) rfl rfl rfl rfl rfl)
    have HK4 := Lib.hid ((Kp.of g (HBW.out.trans ((drew_low w2).mono HBW.out.size)) (Nat.le_of_lt hRw)).trans (Kp.set g w2.drew R 6 (.int .i64 z)))
    have y2b : (w2.drew.setCell ⟨R, 6, none⟩ (.int .i64 z)).cell? ⟨D, 2, none⟩ = some (.string (str p)) := (World.cell?_of_block (a := ⟨D, 2, none⟩) (Below.heap_setCell _ _ _ _ (by exact hDR))).trans y2
    obtain ⟨w5, hw5⟩ : ∃ w5, w2.drew.setCell ⟨R, 6, none⟩ (.int .i64 z) = w5 := ⟨_, rfl⟩
    rw [hw5] at HR4 HK4 y2b ⊢
    have hR5 : R < w5.heap.size := HR4.out.box.lt
    have hD5 : D < w5.heap.size := by rw [← hw5]; simpa using hDz
    clear hw5 cj HO y0 y1 y2 y3 y4
    go_wp2
    go_end0
    exact DirT.go HE.out HPP.out HR4.out HK4.out
  · have HPP := Lib.hid (show pput x (ldir l) = none by rw [HD.out]; unfold pput; dsimp only; rw [if_neg (by decide), if_pos rfl]; rw [if_neg hz])
    have cj : w2.cell? ⟨R, 6, none⟩ = some (.int .i64 x.inn) := HR2.out.box.cell 6 _
    have HO := Lib.hid (fun (W : World) (hb : Below w2.heap.size w2 W) => once_no (HR2.out.next hb) 6 x.inn z ((Below.cell hb hR2).trans cj) hz)
    clear hz
    go_upto_region 8 with fail
    refine wp_region_held_drew (S := (fun W => W.cell? ⟨D, 3, none⟩ = some (.int .i64 z))) (by kernel_rfl) (by exact y3) (fun hHeld => ?_)
    refine wpAnyH_take (i := 0) (v := ?_) (ata at0) (by kernel_rfl) (by kernel_rfl) (by kernel_rfl) (fun _ _ _ h => h) (Or.inl ⟨by rfl, ?_⟩) (by assumption) ?_
    rotate_left
    · (intro w hSw; (try dsimp only at hSw); go_simp; (first | done | with_reducible rfl))
    try simp only [Act.put, List.setIfInBounds_toArray, List.set_cons_zero, List.set_cons_succ]
    refine wpAnyH_take (i := 1) (v := ?_) (ata (atS at0)) (by kernel_rfl) (by kernel_rfl) (by kernel_rfl) (fun _ _ _ h => h) (Or.inl ⟨by rfl, ?_⟩) (by assumption) ?_
    rotate_left
    · (intro w hSw; (try dsimp only at hSw); go_simp; (first | done | with_reducible rfl))
    try simp only [Act.put, List.setIfInBounds_toArray, List.set_cons_zero, List.set_cons_succ]
    refine wpAnyH_take (i := 2) (v := ?_) (ata (atS (atS at0))) (by kernel_rfl) (by kernel_rfl) (by kernel_rfl) (fun _ _ _ h => h) (Or.inl ⟨by rfl, ?_⟩) (by assumption) ?_
    rotate_left
    · (intro w hSw; (try dsimp only at hSw); go_simp; (first | done | with_reducible rfl))
    try simp only [Act.put, List.setIfInBounds_toArray, List.set_cons_zero, List.set_cons_succ]
    refine wpAnyH_take (i := 3) (v := ?_) (ata (atS (atS (atS at0)))) (by kernel_rfl) (by kernel_rfl) (by kernel_rfl) (fun _ _ _ h => h) (Or.inl ⟨by rfl, ?_⟩) (by assumption) ?_
    rotate_left
    · (intro w hSw; (try dsimp only at hSw); go_simp; (first | done | with_reducible rfl))
    try simp only [Act.put, List.setIfInBounds_toArray, List.set_cons_zero, List.set_cons_succ]
    refine wpAnyH_take (i := 4) (v := ?_) (ata (atS (atS (atS (atS at0))))) (by kernel_rfl) (by kernel_rfl) (by kernel_rfl) (fun _ _ _ h => h) (Or.inl ⟨by rfl, ?_⟩) (by assumption) ?_
    rotate_left
    · (intro w hSw; (try dsimp only at hSw); go_simp; (first | done | with_reducible rfl))
    try simp only [Act.put, List.setIfInBounds_toArray, List.set_cons_zero, List.set_cons_succ]
    refine wpAnyH_take (i := 5) (v := ?_) (ata (atS (atS (atS (atS (atS at0)))))) (by kernel_rfl) (by kernel_rfl) (by kernel_rfl) (fun _ _ _ h => h) (Or.inl ⟨by rfl, ?_⟩) (by assumption) ?_
    rotate_left
    · (intro w hSw; (try dsimp only at hSw); go_simp; (first | done | with_reducible rfl))
    try simp only [Act.put, List.setIfInBounds_toArray, List.set_cons_zero, List.set_cons_succ]
    refine wpAnyH_take (i := 6) (v := ?_) (ata (atS (atS (atS (atS (atS (atS at0))))))) (by kernel_rfl) (by kernel_rfl) (by kernel_rfl) (fun _ _ _ h => h) (Or.inl ⟨by rfl, ?_⟩) (by assumption) ?_
    rotate_left
    · (intro w hSw; (try dsimp only at hSw); go_simp; (first | done | with_reducible rfl))
    try simp only [Act.put, List.setIfInBounds_toArray, List.set_cons_zero, List.set_cons_succ]
    refine wpAnyH_ready (rs := [7]) (by kernel_rfl) (by simp) ?_
    refine AllReadyH.cons (ata (atS (atS (atS (atS (atS (atS (atS at0)))))))) (fun K hK => ?_) AllReadyH.nil
    go_simp
    (go_at_call 70; ((with_reducible refine (HO.out _ (drew_low w2)).mono ?_); rintro e w4 ⟨rfl, rfl⟩))
    exact ⟨rfl, DirT.no HE.out HPP.out (Lk.of g (HBW.out.trans ((drew_low w2).mono HBW.out.size)) (Nat.le_of_lt hRw))⟩

set_option maxRecDepth 100000 in
set_option maxHeartbeats 8000000 in
theorem dirk_3 {w : World} {R : Nat} {x : Slip} {line : Int} {g : Gh} (h : Rdr w R x line g) (l : Tx) (hl : l.length ≤ 20000) (hL : LaidB R w) (n p : Tx) (z : Int) (o : Bool) (he : lerr l = 0) (hd : ldir l = ⟨3, n, p, z, o⟩) :
    Calls Tryz.prog 40 #[.pointer (some ⟨R, 0, none⟩), .string (str l)] w (DirT R g x l line w) := by
  have HR := Lib.hid h
  have hRw := h.box.lt
  have HP := Lib.hid (Parse_any l (by omega) w hL.here)
  have HE := Lib.hid he
  have HD := Lib.hid hd
  unfold ParseT at HP
  rw [hd, he] at HP
  unfold dV dcs at HP
  clear h hL he hd hl
  go_enter Tryz.func40, Tryz.ntmps40
  go_upto_region 3 with (go_at_call 68; ((with_reducible refine HP.out.mono ?_); rintro e w1 ⟨rfl, hb⟩); have HB := Lib.hid hb; clear hb)
  have hD : BoxA (w1.alloc (.cells #[.int .u8 3, .string (str n), .string (str p), .int .i64 z, .bool o] 51)) w1.heap.size 51 #[.int .u8 3, .string (str n), .string (str p), .int .i64 z, .bool o] := BoxA.new _ _ _
  have hB2 : Below w.heap.size w (w1.alloc (.cells #[.int .u8 3, .string (str n), .string (str p), .int .i64 z, .bool o] 51)) := HB.out.alloc HB.out.size _
  have hRD : R < w1.heap.size := Nat.lt_of_lt_of_le hRw HB.out.size
  obtain ⟨w2, hw2⟩ : ∃ w2, w1.alloc (.cells #[.int .u8 3, .string (str n), .string (str p), .int .i64 z, .bool o] 51) = w2 := ⟨_, rfl⟩
  first | rw [hw2] at hD hB2 ⊢ | (simp only [Nat.cast_ofNat, Nat.cast_one] at hw2 ⊢; rw [hw2] at hD hB2 ⊢)
  clear hw2
  have HR2 := Lib.hid (HR.out.next hB2)
  have HBW := Lib.hid hB2
  have y0 := hD.cell 0 _
  have y1 := hD.cell 1 _
  have y2 := hD.cell 2 _
  have y3 := hD.cell 3 _
  have y4 := hD.cell 4 _
  have hDz := hD.lt
  have HDB := Lib.hid hD
  have hR2 : R < w2.heap.size := HR2.out.box.lt
  generalize w1.heap.size = D at *
  have hDR : ¬ D = R := by omega
  have hRD2 : ¬ R = D := by omega
  clear hD hB2 HP HB
  by_cases hz : x.out = 0
  · have HPP := Lib.hid (show pput x (ldir l) = some { x with out := z } by rw [HD.out]; unfold pput; dsimp only; rw [if_neg (by decide), if_neg (by decide), if_pos rfl]; rw [if_pos hz])
    have cj : w2.cell? ⟨R, 7, none⟩ = some (.int .i64 0) := by have := HR2.out.box.cell 7 (.int .i64 x.out); rwa [hz] at this
    have HO := Lib.hid (fun (W : World) (hb : Below w2.heap.size w2 W) => once_yes (HR2.out.next hb) 7 z ((Below.cell hb hR2).trans cj))
    clear hz
    go_upto_region 10 with fail
    refine wp_region_held_drew (S := (fun W => W.cell? ⟨D, 3, none⟩ = some (.int .i64 z))) (by kernel_rfl) (by exact y3) (fun hHeld => ?_)
    refine wpAnyH_take (i := 0) (v := ?_) (ata at0) (by kernel_rfl) (by kernel_rfl) (by kernel_rfl) (fun _ _ _ h => h) (Or.inl ⟨by rfl, ?_⟩) (by assumption) ?_
    rotate_left
    · (intro w hSw; (try dsimp only at hSw); go_simp; (first | done | with_reducible rfl))
    try simp only [Act.put, List.setIfInBounds_toArray, List.set_cons_zero, List.set_cons_succ]
    refine wpAnyH_take (i := 1) (v := ?_) (ata (atS at0)) (by kernel_rfl) (by kernel_rfl) (by kernel_rfl) (fun _ _ _ h => h) (Or.inl ⟨by rfl, ?_⟩) (by assumption) ?_
    rotate_left
    · (intro w hSw; (try dsimp only at hSw); go_simp; (first | done | with_reducible rfl))
    try simp only [Act.put, List.setIfInBounds_toArray, List.set_cons_zero, List.set_cons_succ]
    refine wpAnyH_take (i := 2) (v := ?_) (ata (atS (atS at0))) (by kernel_rfl) (by kernel_rfl) (by kernel_rfl) (fun _ _ _ h => h) (Or.inl ⟨by rfl, ?_⟩) (by assumption) ?_
    rotate_left
    · (intro w hSw; (try dsimp only at hSw); go_simp; (first | done | with_reducible rfl))
    try simp only [Act.put, List.setIfInBounds_toArray, List.set_cons_zero, List.set_cons_succ]
    refine wpAnyH_take (i := 3) (v := ?_) (ata (atS (atS (atS at0)))) (by kernel_rfl) (by kernel_rfl) (by kernel_rfl) (fun _ _ _ h => h) (Or.inl ⟨by rfl, ?_⟩) (by assumption) ?_
    rotate_left
    · (intro w hSw; (try dsimp only at hSw); go_simp; (first | done | with_reducible rfl))
    try simp only [Act.put, List.setIfInBounds_toArray, List.set_cons_zero, List.set_cons_succ]
    refine wpAnyH_take (i := 4) (v := ?_) (ata (atS (atS (atS (atS at0))))) (by kernel_rfl) (by kernel_rfl) (by kernel_rfl) (fun _ _ _ h => h) (Or.inl ⟨by rfl, ?_⟩) (by assumption) ?_
    rotate_left
    · (intro w hSw; (try dsimp only at hSw); go_simp; (first | done | with_reducible rfl))
    try simp only [Act.put, List.setIfInBounds_toArray, List.set_cons_zero, List.set_cons_succ]
    refine wpAnyH_take (i := 5) (v := ?_) (ata (atS (atS (atS (atS (atS at0)))))) (by kernel_rfl) (by kernel_rfl) (by kernel_rfl) (fun _ _ _ h => h) (Or.inl ⟨by rfl, ?_⟩) (by assumption) ?_
    rotate_left
    · (intro w hSw; (try dsimp only at hSw); go_simp; (first | done | with_reducible rfl))
    try simp only [Act.put, List.setIfInBounds_toArray, List.set_cons_zero, List.set_cons_succ]
    refine wpAnyH_take (i := 6) (v := ?_) (ata (atS (atS (atS (atS (atS (atS at0))))))) (by kernel_rfl) (by kernel_rfl) (by kernel_rfl) (fun _ _ _ h => h) (Or.inl ⟨by rfl, ?_⟩) (by assumption) ?_
    rotate_left
    · (intro w hSw; (try dsimp only at hSw); go_simp; (first | done | with_reducible rfl))
    try simp only [Act.put, List.setIfInBounds_toArray, List.set_cons_zero, List.set_cons_succ]
    refine wpAnyH_ready (rs := [7]) (by kernel_rfl) (by simp) ?_
    refine AllReadyH.cons (ata (atS (atS (atS (atS (atS (atS (atS at0)))))))) (fun K hK => ?_) AllReadyH.nil
    go_simp
    (go_at_call 70; ((with_reducible refine (HO.out _ (drew_low w2)).mono ?_); rintro e w4 ⟨rfl, rfl⟩))
    refine hK.out _ _ (by exact (World.cell?_of_block (a := ⟨D, 3, none⟩) (Below.heap_setCell _ _ _ _ (by exact hDR))).trans y3) (fun hHeld => ?_)
    clear hK K
    try simp only [Act.put, List.setIfInBounds_toArray, List.set_cons_zero, List.set_cons_succ]
    refine wpAnyH_done (by kernel_rfl) ?_ _
    have HR4 := Lib.hid ((HR2.out.next (drew_low w2)).put (y := { x with out := z }) (l2 := line) 7 (.int .i64 z) rfl rfl rfl rfl rfl)
    have HK4 := Lib.hid ((Kp.of g (HBW.out.trans ((drew_low w2).mono HBW.out.size)) (Nat.le_of_lt hRw)).trans (Kp.set g w2.drew R 7 (.int .i64 z)))
    have y2b : (w2.drew.setCell ⟨R, 7, none⟩ (.int .i64 z)).cell? ⟨D, 2, none⟩ = some (.string (str p)) := (World.cell?_of_block (a := ⟨D, 2, none⟩) (Below.heap_setCell _ _ _ _ (by exact hDR))).trans y2
    obtain ⟨w5, hw5⟩ : ∃ w5, w2.drew.setCell ⟨R, 7, none⟩ (.int .i64 z) = w5 := ⟨_, rfl⟩
    rw [hw5] at HR4 HK4 y2b ⊢
    have hR5 : R < w5.heap.size := HR4.out.box.lt
    have hD5 : D < w5.heap.size := by rw [← hw5]; simpa using hDz
    clear hw5 cj HO y0 y1 y2 y3 y4
    go_wp2
    go_end0
    exact DirT.go HE.out HPP.out HR4.out HK4.out
  · have HPP := Lib.hid (show pput x (ldir l) = none by rw [HD.out]; unfold pput; dsimp only; rw [if_neg (by decide), if_neg (by decide), if_pos rfl]; rw [if_neg hz])
    have cj : w2.cell? ⟨R, 7, none⟩ = some (.int .i64 x.out) := HR2.out.box.cell 7 _
    have HO := Lib.hid (fun (W : World) (hb : Below w2.heap.size w2 W) => once_no (HR2.out.next hb) 7 x.out z ((Below.cell hb hR2).trans cj) hz)
    clear hz
    go_upto_region 10 with fail
    refine wp_region_held_drew (S := (fun W => W.cell? ⟨D, 3, none⟩ = some (.int .i64 z))) (by kernel_rfl) (by exact y3) (fun hHeld => ?_)
    refine wpAnyH_take (i := 0) (v := ?_) (ata at0) (by kernel_rfl) (by kernel_rfl) (by kernel_rfl) (fun _ _ _ h => h) (Or.inl ⟨by rfl, ?_⟩) (by assumption) ?_
    rotate_left
    · (intro w hSw; (try dsimp only at hSw); go_simp; (first | done | with_reducible rfl))
    try simp only [Act.put, List.setIfInBounds_toArray, List.set_cons_zero, List.set_cons_succ]
    refine wpAnyH_take (i := 1) (v := ?_) (ata (atS at0)) (by kernel_rfl) (by kernel_rfl) (by kernel_rfl) (fun _ _ _ h => h) (Or.inl ⟨by rfl, ?_⟩) (by assumption) ?_
    rotate_left
    · (intro w hSw; (try dsimp only at hSw); go_simp; (first | done | with_reducible rfl))
    try simp only [Act.put, List.setIfInBounds_toArray, List.set_cons_zero, List.set_cons_succ]
    refine wpAnyH_take (i := 2) (v := ?_) (ata (atS (atS at0))) (by kernel_rfl) (by kernel_rfl) (by kernel_rfl) (fun _ _ _ h => h) (Or.inl ⟨by rfl, ?_⟩) (by assumption) ?_
    rotate_left
    · (intro w hSw; (try dsimp only at hSw); go_simp; (first | done | with_reducible rfl))
    try simp only [Act.put, List.setIfInBounds_toArray, List.set_cons_zero, List.set_cons_succ]
    refine wpAnyH_take (i := 3) (v := ?_) (ata (atS (atS (atS at0)))) (by kernel_rfl) (by kernel_rfl) (by kernel_rfl) (fun _ _ _ h => h) (Or.inl ⟨by rfl, ?_⟩) (by assumption) ?_
    rotate_left
    · (intro w hSw; (try dsimp only at hSw); go_simp; (first | done | with_reducible rfl))
    try simp only [Act.put, List.setIfInBounds_toArray, List.set_cons_zero, List.set_cons_succ]
    refine wpAnyH_take (i := 4) (v := ?_) (ata (atS (atS (atS (atS at0))))) (by kernel_rfl) (by kernel_rfl) (by kernel_rfl) (fun _ _ _ h => h) (Or.inl ⟨by rfl, ?_⟩) (by assumption) ?_
    rotate_left
    · (intro w hSw; (try dsimp only at hSw); go_simp; (first | done | with_reducible rfl))
    try simp only [Act.put, List.setIfInBounds_toArray, List.set_cons_zero, List.set_cons_succ]
    refine wpAnyH_take (i := 5) (v := ?_) (ata (atS (atS (atS (atS (atS at0)))))) (by kernel_rfl) (by kernel_rfl) (by kernel_rfl) (fun _ _ _ h => h) (Or.inl ⟨by rfl, ?_⟩) (by assumption) ?_
    rotate_left
    · (intro w hSw; (try dsimp only at hSw); go_simp; (first | done | with_reducible rfl))
    try simp only [Act.put, List.setIfInBounds_toArray, List.set_cons_zero, List.set_cons_succ]
    refine wpAnyH_take (i := 6) (v := ?_) (ata (atS (atS (atS (atS (atS (atS at0))))))) (by kernel_rfl) (by kernel_rfl) (by kernel_rfl) (fun _ _ _ h => h) (Or.inl ⟨by rfl, ?_⟩) (by assumption) ?_
    rotate_left
    · (intro w hSw; (try dsimp only at hSw); go_simp; (first | done | with_reducible rfl))
    try simp only [Act.put, List.setIfInBounds_toArray, List.set_cons_zero, List.set_cons_succ]
    refine wpAnyH_ready (rs := [7]) (by kernel_rfl) (by simp) ?_
    refine AllReadyH.cons (ata (atS (atS (atS (atS (atS (atS (atS at0)))))))) (fun K hK => ?_) AllReadyH.nil
    go_simp
    (go_at_call 70; ((with_reducible refine (HO.out _ (drew_low w2)).mono ?_); rintro e w4 ⟨rfl, rfl⟩))
    exact ⟨rfl, DirT.no HE.out HPP.out (Lk.of g (HBW.out.trans ((drew_low w2).mono HBW.out.size)) (Nat.le_of_lt hRw))⟩

set_option maxRecDepth 100000 in
set_option maxHeartbeats 8000000 in
theorem dirk_4 {w : World} {R : Nat} {x : Slip} {line : Int} {g : Gh} (h : Rdr w R x line g) (l : Tx) (hl : l.length ≤ 20000) (hL : LaidB R w) (n p : Tx) (z : Int) (o : Bool) (he : lerr l = 0) (hd : ldir l = ⟨4, n, p, z, o⟩) (hx : x.make.length ≤ 20000) :
    Calls Tryz.prog 40 #[.pointer (some ⟨R, 0, none⟩), .string (str l)] w (DirT R g x l line w) := by
  have HR := Lib.hid h
  have hRw := h.box.lt
  have HP := Lib.hid (Parse_any l (by omega) w hL.here)
  have HE := Lib.hid he
  have HD := Lib.hid hd
  have HX := Lib.hid hx
  clear hx
  unfold ParseT at HP
  rw [hd, he] at HP
  unfold dV dcs at HP
  clear h hL he hd hl
  go_enter Tryz.func40, Tryz.ntmps40
  go_upto_region 3 with (go_at_call 68; ((with_reducible refine HP.out.mono ?_); rintro e w1 ⟨rfl, hb⟩); have HB := Lib.hid hb; clear hb)
  have hD : BoxA (w1.alloc (.cells #[.int .u8 4, .string (str n), .string (str p), .int .i64 z, .bool o] 51)) w1.heap.size 51 #[.int .u8 4, .string (str n), .string (str p), .int .i64 z, .bool o] := BoxA.new _ _ _
  have hB2 : Below w.heap.size w (w1.alloc (.cells #[.int .u8 4, .string (str n), .string (str p), .int .i64 z, .bool o] 51)) := HB.out.alloc HB.out.size _
  have hRD : R < w1.heap.size := Nat.lt_of_lt_of_le hRw HB.out.size
  obtain ⟨w2, hw2⟩ : ∃ w2, w1.alloc (.cells #[.int .u8 4, .string (str n), .string (str p), .int .i64 z, .bool o] 51) = w2 := ⟨_, rfl⟩
  first | rw [hw2] at hD hB2 ⊢ | (simp only [Nat.cast_ofNat, Nat.cast_one] at hw2 ⊢; rw [hw2] at hD hB2 ⊢)
  clear hw2
  have HR2 := Lib.hid (HR.out.next hB2)
  have HBW := Lib.hid hB2
  have y0 := hD.cell 0 _
  have y1 := hD.cell 1 _
  have y2 := hD.cell 2 _
  have y3 := hD.cell 3 _
  have y4 := hD.cell 4 _
  have hDz := hD.lt
  have HDB := Lib.hid hD
  have hR2 : R < w2.heap.size := HR2.out.box.lt
  generalize w1.heap.size = D at *
  have hDR : ¬ D = R := by omega
  have hRD2 : ¬ R = D := by omega
  clear hD hB2 HP HB
  have HPP := Lib.hid (show pput x (ldir l) = some { x with make := x.make ++ [⟨4, n, p, z, o⟩] } by rw [HD.out]; rfl)
  have cj : w2.cell? ⟨R, 9, none⟩ = some g.m := HR2.out.box.cell 9 _
  have mixed : Tryz.prog.follows .mixedOrders = true := by kernel_rfl
  obtain ⟨m0, hm0⟩ : ∃ m0, x.make.length = m0 := ⟨_, rfl⟩
  have HM0 := Lib.hid hm0
  clear hm0
  go_upto_region 12 with fail
  have HW1 : Hid (Below w2.heap.size w2 (w2.alloc (.cells #[.int .u8 4, .string (str n), .string (str p), .int .i64 z, .bool o] 51)).drew) := ((Below.refl _ w2).alloc (Nat.le_refl _) _).drew
  have HO1 : Hid ((w2.alloc (.cells #[.int .u8 4, .string (str n), .string (str p), .int .i64 z, .bool o] 51)).drew.ownsRow (R + 1) 51 5 g.m m0 (flM x.make)) := by rw [← HM0.out]; exact (HR2.out.next HW1.out).m
  have HC1 : Hid (∀ j u, (cM ⟨4, n, p, z, o⟩)[j]? = some u → (w2.alloc (.cells #[.int .u8 4, .string (str n), .string (str p), .int .i64 z, .bool o] 51)).drew.cell? ((⟨w2.heap.size, 0, none⟩ : Addr).add j) = some u) := row_cells w2 (cM ⟨4, n, p, z, o⟩) 51
  have HZ1 : Hid (R + 1 ≤ (w2.alloc (.cells #[.int .u8 4, .string (str n), .string (str p), .int .i64 z, .bool o] 51)).drew.heap.size) := by show R + 1 ≤ (w2.alloc (.cells #[.int .u8 4, .string (str n), .string (str p), .int .i64 z, .bool o] 51)).heap.size; simp; omega
  have HM1 : Hid (m0 ≤ 1000000) := by show _ ≤ _; have := HX.out; rw [← HM0.out]; omega
  go_region_law_o (go_loud (refine step_app eltM rfl (.tmp 61) (.tmp 63) rfl (base := R + 1) (n := m0) (cs := flM x.make) (v := g.m) (by rfl) (by exact HO1.out) ⟨w2.heap.size, 0, none⟩ (cM ⟨4, n, p, z, o⟩) (by rfl) (by exact HC1.out) rfl (by exact cM_one _) HM1.out (by decide) (by exact HZ1.out) ?_; intro gb cb w6 h1 h2 h3; have hmid := HR2.out.mid_m HW1.out h2; have c46 : w6.cell? ⟨R, 9, none⟩ = some g.m := hmid.cell 9 _; have f46 := hmid.free 9; have hR6 := hmid.lt; have HADD := Lib.hid (HR2.out.push_m HW1.out ⟨4, n, p, z, o⟩ (v' := .slice (some ⟨gb, 0, none⟩) (m0 + 1) cb) (by rw [HM0.out]; exact h1) h2 (h3.imp (fun e => e) (fun e => congrArg Option.some e))); clear h1 h2 h3 hmid))
  all_goals
    go_wp2
    go_end0
    exact DirT.go HE.out HPP.out HADD.out.1 ((Kp.of g HBW.out (Nat.le_of_lt hRw)).trans HADD.out.2)

set_option maxRecDepth 100000 in
set_option maxHeartbeats 8000000 in
theorem dirk_5 {w : World} {R : Nat} {x : Slip} {line : Int} {g : Gh} (h : Rdr w R x line g) (l : Tx) (hl : l.length ≤ 20000) (hL : LaidB R w) (n p : Tx) (z : Int) (o : Bool) (he : lerr l = 0) (hd : ldir l = ⟨5, n, p, z, o⟩) (hx : x.drop.length ≤ 20000) :
    Calls Tryz.prog 40 #[.pointer (some ⟨R, 0, none⟩), .string (str l)] w (DirT R g x l line w) := by
  have HR := Lib.hid h
  have hRw := h.box.lt
  have HP := Lib.hid (Parse_any l (by omega) w hL.here)
  have HE := Lib.hid he
  have HD := Lib.hid hd
  have HX := Lib.hid hx
  clear hx
  unfold ParseT at HP
  rw [hd, he] at HP
  unfold dV dcs at HP
  clear h hL he hd hl
  go_enter Tryz.func40, Tryz.ntmps40
  go_upto_region 3 with (go_at_call 68; ((with_reducible refine HP.out.mono ?_); rintro e w1 ⟨rfl, hb⟩); have HB := Lib.hid hb; clear hb)
  have hD : BoxA (w1.alloc (.cells #[.int .u8 5, .string (str n), .string (str p), .int .i64 z, .bool o] 51)) w1.heap.size 51 #[.int .u8 5, .string (str n), .string (str p), .int .i64 z, .bool o] := BoxA.new _ _ _
  have hB2 : Below w.heap.size w (w1.alloc (.cells #[.int .u8 5, .string (str n), .string (str p), .int .i64 z, .bool o] 51)) := HB.out.alloc HB.out.size _
  have hRD : R < w1.heap.size := Nat.lt_of_lt_of_le hRw HB.out.size
  obtain ⟨w2, hw2⟩ : ∃ w2, w1.alloc (.cells #[.int .u8 5, .string (str n), .string (str p), .int .i64 z, .bool o] 51) = w2 := ⟨_, rfl⟩
  first | rw [hw2] at hD hB2 ⊢ | (simp only [Nat.cast_ofNat, Nat.cast_one] at hw2 ⊢; rw [hw2] at hD hB2 ⊢)
  clear hw2
  have HR2 := Lib.hid (HR.out.next hB2)
  have HBW := Lib.hid hB2
  have y0 := hD.cell 0 _
  have y1 := hD.cell 1 _
  have y2 := hD.cell 2 _
  have y3 := hD.cell 3 _
  have y4 := hD.cell 4 _
  have hDz := hD.lt
  have HDB := Lib.hid hD
  have hR2 : R < w2.heap.size := HR2.out.box.lt
  generalize w1.heap.size = D at *
  have hDR : ¬ D = R := by omega
  have hRD2 : ¬ R = D := by omega
  clear hD hB2 HP HB
  have HPP := Lib.hid (show pput x (ldir l) = some { x with drop := x.drop ++ [n] } by rw [HD.out]; rfl)
  have cj : w2.cell? ⟨R, 10, none⟩ = some g.d := HR2.out.box.cell 10 _
  have mixed : Tryz.prog.follows .mixedOrders = true := by kernel_rfl
  obtain ⟨m0, hm0⟩ : ∃ m0, x.drop.length = m0 := ⟨_, rfl⟩
  have HM0 := Lib.hid hm0
  clear hm0
  go_upto_region 14 with fail
  have HW1 : Hid (Below w2.heap.size w2 (w2.alloc (.cells #[.string (str n)] 9)).drew) := ((Below.refl _ w2).alloc (Nat.le_refl _) _).drew
  have HO1 : Hid ((w2.alloc (.cells #[.string (str n)] 9)).drew.ownsRow (R + 1) 9 1 g.d m0 (flS x.drop)) := by rw [← HM0.out]; exact (HR2.out.next HW1.out).d
  have HC1 : Hid (∀ j u, (cS n)[j]? = some u → (w2.alloc (.cells #[.string (str n)] 9)).drew.cell? ((⟨w2.heap.size, 0, none⟩ : Addr).add j) = some u) := row_cells w2 (cS n) 9
  have HZ1 : Hid (R + 1 ≤ (w2.alloc (.cells #[.string (str n)] 9)).drew.heap.size) := by show R + 1 ≤ (w2.alloc (.cells #[.string (str n)] 9)).heap.size; simp; omega
  have HM1 : Hid (m0 ≤ 1000000) := by show _ ≤ _; have := HX.out; rw [← HM0.out]; omega
  go_region_law_o (go_loud (refine step_app eltS rfl (.tmp 75) (.tmp 78) rfl (base := R + 1) (n := m0) (cs := flS x.drop) (v := g.d) (by rfl) (by exact HO1.out) ⟨w2.heap.size, 0, none⟩ (cS n) (by rfl) (by exact HC1.out) rfl (by exact cS_one _) HM1.out (by decide) (by exact HZ1.out) ?_; intro gb cb w6 h1 h2 h3; have hmid := HR2.out.mid_d HW1.out h2; have c46 : w6.cell? ⟨R, 10, none⟩ = some g.d := hmid.cell 10 _; have f46 := hmid.free 10; have hR6 := hmid.lt; have HADD := Lib.hid (HR2.out.push_d HW1.out n (v' := .slice (some ⟨gb, 0, none⟩) (m0 + 1) cb) (by rw [HM0.out]; exact h1) h2 (h3.imp (fun e => e) (fun e => congrArg Option.some e))); clear h1 h2 h3 hmid))
  all_goals
    go_wp2
    go_end0
    exact DirT.go HE.out HPP.out HADD.out.1 ((Kp.of g HBW.out (Nat.le_of_lt hRw)).trans HADD.out.2)

set_option maxRecDepth 100000 in
set_option maxHeartbeats 8000000 in
theorem dirk_6 {w : World} {R : Nat} {x : Slip} {line : Int} {g : Gh} (h : Rdr w R x line g) (l : Tx) (hl : l.length ≤ 20000) (hL : LaidB R w) (n p : Tx) (z : Int) (o : Bool) (he : lerr l = 0) (hd : ldir l = ⟨6, n, p, z, o⟩) (hx : x.use.length ≤ 20000) :
    Calls Tryz.prog 40 #[.pointer (some ⟨R, 0, none⟩), .string (str l)] w (DirT R g x l line w) := by
  have HR := Lib.hid h
  have hRw := h.box.lt
  have HP := Lib.hid (Parse_any l (by omega) w hL.here)
  have HE := Lib.hid he
  have HD := Lib.hid hd
  have HX := Lib.hid hx
  clear hx
  unfold ParseT at HP
  rw [hd, he] at HP
  unfold dV dcs at HP
  clear h hL he hd hl
  go_enter Tryz.func40, Tryz.ntmps40
  go_upto_region 3 with (go_at_call 68; ((with_reducible refine HP.out.mono ?_); rintro e w1 ⟨rfl, hb⟩); have HB := Lib.hid hb; clear hb)
  have hD : BoxA (w1.alloc (.cells #[.int .u8 6, .string (str n), .string (str p), .int .i64 z, .bool o] 51)) w1.heap.size 51 #[.int .u8 6, .string (str n), .string (str p), .int .i64 z, .bool o] := BoxA.new _ _ _
  have hB2 : Below w.heap.size w (w1.alloc (.cells #[.int .u8 6, .string (str n), .string (str p), .int .i64 z, .bool o] 51)) := HB.out.alloc HB.out.size _
  have hRD : R < w1.heap.size := Nat.lt_of_lt_of_le hRw HB.out.size
  obtain ⟨w2, hw2⟩ : ∃ w2, w1.alloc (.cells #[.int .u8 6, .string (str n), .string (str p), .int .i64 z, .bool o] 51) = w2 := ⟨_, rfl⟩
  first | rw [hw2] at hD hB2 ⊢ | (simp only [Nat.cast_ofNat, Nat.cast_one] at hw2 ⊢; rw [hw2] at hD hB2 ⊢)
  clear hw2
  have HR2 := Lib.hid (HR.out.next hB2)
  have HBW := Lib.hid hB2
  have y0 := hD.cell 0 _
  have y1 := hD.cell 1 _
  have y2 := hD.cell 2 _
  have y3 := hD.cell 3 _
  have y4 := hD.cell 4 _
  have hDz := hD.lt
  have HDB := Lib.hid hD
  have hR2 : R < w2.heap.size := HR2.out.box.lt
  generalize w1.heap.size = D at *
  have hDR : ¬ D = R := by omega
  have hRD2 : ¬ R = D := by omega
  clear hD hB2 HP HB
  have HPP := Lib.hid (show pput x (ldir l) = some { x with use := x.use ++ [n] } by rw [HD.out]; rfl)
  have cj : w2.cell? ⟨R, 11, none⟩ = some g.u := HR2.out.box.cell 11 _
  have mixed : Tryz.prog.follows .mixedOrders = true := by kernel_rfl
  obtain ⟨m0, hm0⟩ : ∃ m0, x.use.length = m0 := ⟨_, rfl⟩
  have HM0 := Lib.hid hm0
  clear hm0
  go_upto_region 16 with fail
  have HW1 : Hid (Below w2.heap.size w2 (w2.alloc (.cells #[.string (str n)] 9)).drew) := ((Below.refl _ w2).alloc (Nat.le_refl _) _).drew
  have HO1 : Hid ((w2.alloc (.cells #[.string (str n)] 9)).drew.ownsRow (R + 1) 9 1 g.u m0 (flS x.use)) := by rw [← HM0.out]; exact (HR2.out.next HW1.out).u
  have HC1 : Hid (∀ j u, (cS n)[j]? = some u → (w2.alloc (.cells #[.string (str n)] 9)).drew.cell? ((⟨w2.heap.size, 0, none⟩ : Addr).add j) = some u) := row_cells w2 (cS n) 9
  have HZ1 : Hid (R + 1 ≤ (w2.alloc (.cells #[.string (str n)] 9)).drew.heap.size) := by show R + 1 ≤ (w2.alloc (.cells #[.string (str n)] 9)).heap.size; simp; omega
  have HM1 : Hid (m0 ≤ 1000000) := by show _ ≤ _; have := HX.out; rw [← HM0.out]; omega
  go_region_law_o (go_loud (refine step_app eltS rfl (.tmp 90) (.tmp 93) rfl (base := R + 1) (n := m0) (cs := flS x.use) (v := g.u) (by rfl) (by exact HO1.out) ⟨w2.heap.size, 0, none⟩ (cS n) (by rfl) (by exact HC1.out) rfl (by exact cS_one _) HM1.out (by decide) (by exact HZ1.out) ?_; intro gb cb w6 h1 h2 h3; have hmid := HR2.out.mid_u HW1.out h2; have c46 : w6.cell? ⟨R, 11, none⟩ = some g.u := hmid.cell 11 _; have f46 := hmid.free 11; have hR6 := hmid.lt; have HADD := Lib.hid (HR2.out.push_u HW1.out n (v' := .slice (some ⟨gb, 0, none⟩) (m0 + 1) cb) (by rw [HM0.out]; exact h1) h2 (h3.imp (fun e => e) (fun e => congrArg Option.some e))); clear h1 h2 h3 hmid))
  all_goals
    go_wp2
    go_end0
    exact DirT.go HE.out HPP.out HADD.out.1 ((Kp.of g HBW.out (Nat.le_of_lt hRw)).trans HADD.out.2)

set_option maxRecDepth 100000 in
theorem dirk_bad {w : World} {R : Nat} {x : Slip} {line : Int} {g : Gh} (h : Rdr w R x line g) (l : Tx) (hl : l.length ≤ 20000) (hL : LaidB R w) (he : ¬ lerr l = 0) :
    Calls Tryz.prog 40 #[.pointer (some ⟨R, 0, none⟩), .string (str l)] w (DirT R g x l line w) := by
  have HR := Lib.hid h
  have hRw := h.box.lt
  have HP := Lib.hid (Parse_any l (by omega) w hL.here)
  obtain ⟨e0, he0⟩ : ∃ e0, lerr l = e0 := ⟨_, rfl⟩
  have HE := Lib.hid he0
  unfold ParseT at HP
  rw [he0] at HP he
  unfold dV dcs at HP
  have hb0 : (e0 == 0) = false := by rw [beq_eq_false_iff_ne]; exact he
  have HE0 := Lib.hid he
  clear h hL he hl he0
  go_enter Tryz.func40, Tryz.ntmps40
  go_wp2_with (first
    | (go_at_call 68; ((with_reducible refine HP.out.mono ?_); rintro e w1 ⟨rfl, hb⟩); have HB := Lib.hid hb; clear hb)
    | (go_at_call 69; ((with_reducible refine (fail_any (HR.out.next (HB.out.alloc HB.out.size _)) _).mono ?_); rintro e w5 ⟨rfl, rfl⟩)))
  exact ⟨rfl, DirT.bad HE.out HE0.out (Lk.of g (HB.out.alloc HB.out.size _) (Nat.le_of_lt hRw))⟩

theorem directive_any {w : World} {R : Nat} {x : Slip} {line : Int} {g : Gh} (h : Rdr w R x line g) (l : Tx) (hl : l.length ≤ 20000) (hL : LaidB R w) (hm : x.make.length ≤ 20000) (hd : x.drop.length ≤ 20000) (hu : x.use.length ≤ 20000) :
    Calls Tryz.prog 40 #[.pointer (some ⟨R, 0, none⟩), .string (str l)] w (DirT R g x l line w) := by
  by_cases he : lerr l = 0
  · have hk := ((chk_iff _).1 (ldir_chk he)).1
    cases hx : ldir l with
    | mk k n p z o =>
      rw [hx] at hk
      dsimp only at hk
      have six : k = 1 ∨ k = 2 ∨ k = 3 ∨ k = 4 ∨ k = 5 ∨ k = 6 := by omega
      rcases six with rfl | rfl | rfl | rfl | rfl | rfl
      · exact dirk_1 h l hl hL n p z o he hx
      · exact dirk_2 h l hl hL n p z o he hx
      · exact dirk_3 h l hl hL n p z o he hx
      · exact dirk_4 h l hl hL n p z o he hx hm
      · exact dirk_5 h l hl hL n p z o he hx hd
      · exact dirk_6 h l hl hL n p z o he hx hu
  · exact dirk_bad h l hl hL he
end Go.Proofs.YtpmghgfgbkncoaaGreatDoor.gn
end
