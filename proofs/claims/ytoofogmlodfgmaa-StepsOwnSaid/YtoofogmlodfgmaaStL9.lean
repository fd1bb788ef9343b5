/- StepsOwn: the law's walk. -/
import Derived.Test.YtoofogmlodfgmaaStL8
namespace Go.Proofs.Ytoofogmlodfgmaa.gn
open Go.RowKit Go.Shelf
open Go.Proofs.Ytoofogmlodfgmaa.sp

theorem same_self (l : List Int) : same l l = true := decide_eq_true rfl
/-- StepsOwn's copy. -/
def OwnCut (w : World) (v1 v2 : Value) (at_ m : List Int) (lo hi n : Int) (s5 : Value) (W : World) : Prop :=
  ∃ go u1 u2, s5 = .pointer (some ⟨go, 0, none⟩) ∧ Box2 W go 24 u1 u2 ∧ Ints W u1 at_ ∧ Ints W u2 m ∧ St w v1 v2 at_ m lo hi n W

set_option maxRecDepth 20000 in
set_option maxHeartbeats 16000000 in
theorem own_law (v1 v2 : Value) (a1 a2 : Option Addr) (n1 n2 c1 c2 : Nat) (at_ m : List Int) (lo hi n : Int) (w : World) (e1 : v1 = .slice a1 n1 c1) (e2 : v2 = .slice a2 n2 c2) (hP : Prof w (.agg #[v1, v2]) at_ m) (h1 : n1 ≤ 60) (h2 : n2 ≤ 60) (hl1 : at_.length = n1) (hl2 : m.length = n2) :
    Calls Try.prog 5 #[.agg #[v1, v2], .agg #[.int .i64 lo, .int .i64 hi, .int .i64 n]] w (Yes w) := by
  have HS := Lib.hid (St.start w lo hi n hP)
  subst e1 e2
  have HG := Lib.hid fun W => great_no a1 a2 n1 n2 c1 c2 h1 h2 W
  have HLn := Lib.hid (And.intro (show at_.length ≤ 60 by omega) (show m.length ≤ 60 by omega))
  clear h1 h2 hP hl1 hl2
  go_enter Try.func5, Try.ntmps5
  go_wp2_with fail
  refine (HG.out _).mono ?_
  rintro e w1 ⟨rfl, hb1⟩
  have S1 := HS.out.next hb1
  have s0 := S1.bS.cell0
  have s1 := S1.bS.cell1
  have HS1 := Lib.hid S1
  clear hb1 S1
  go_upto_region 3 with fail
  go_cut [5] (fun s5 wx => OwnCut w (.slice a1 n1 c1) (.slice a2 n2 c2) at_ m lo hi n s5 wx)
  case first =>
    have R := Lib.hid (Rg.start w1 at_ m)
    have HI1 : Hid (∀ W, Below w1.heap.size w1 W → Ints W (.slice a1 n1 c1) at_) := fun W hW => by
      obtain ⟨_, _, e, i, _⟩ := HS1.out.hP
      obtain ⟨rfl, rfl⟩ := by simpa using e
      exact i.below hW (Nat.le_refl _)
    have HI2 : Hid (∀ W, Below w1.heap.size w1 W → Ints W (.slice a2 n2 c2) m) := fun W hW => by
      obtain ⟨_, _, e, _, i⟩ := HS1.out.hP
      obtain ⟨rfl, rfl⟩ := by simpa using e
      exact i.below hW (Nat.le_refl _)
    have HELD : Hid (∀ W, Below w1.heap.size w1 W → W.cell? ⟨w.heap.size, 0, none⟩ = some (.slice a1 n1 c1) ∧ W.cell? ⟨w.heap.size, 1, none⟩ = some (.slice a2 n2 c2)) := fun W hW => ⟨(HS1.out.next hW).bS.cell0, (HS1.out.next hW).bS.cell1⟩
    refine wp_region_held_drew (S := (fun W => W.cell? ⟨w.heap.size, 0, none⟩ = some (.slice a1 n1 c1) ∧ W.cell? ⟨w.heap.size, 1, none⟩ = some (.slice a2 n2 c2))) (by kernel_rfl) (by exact HELD.out _ (Below.refl _ _).drew) (fun hHeld => ?_)
    have R := Lib.hid (Rg.next R.out (Below.refl _ _).drew)
    generalize w1.drew = V0 at *
    refine wpAnyH_take (i := 1) (v := ?_) (ata (atS at0)) (by kernel_rfl) (by kernel_rfl) (by kernel_rfl) (fun _ _ _ h => h) (Or.inl ⟨by rfl, ?_⟩) (by assumption) ?_
    rotate_left
    · (intro w hSw; (try dsimp only at hSw); go_simp; (first | done | with_reducible rfl))
    try simp only [Act.put, List.setIfInBounds_toArray, List.set_cons_zero, List.set_cons_succ]
    refine wpAnyH_take (i := 2) (v := ?_) (ata (atS (atS at0))) (by kernel_rfl) (by kernel_rfl) (by kernel_rfl) (fun _ _ _ h => h) (Or.inl ⟨by rfl, ?_⟩) (by assumption) ?_
    rotate_left
    · (intro w hSw; (try dsimp only at hSw); go_simp; (first | done | with_reducible rfl))
    try simp only [Act.put, List.setIfInBounds_toArray, List.set_cons_zero, List.set_cons_succ]
    refine wpAnyH_take (i := 5) (v := ?_) (ata (atS (atS (atS (atS (atS at0)))))) (by kernel_rfl) (by kernel_rfl) (by kernel_rfl) (fun _ _ _ h => h) (Or.inl ⟨by rfl, ?_⟩) (by assumption) ?_
    rotate_left
    · (intro w hSw; (try dsimp only at hSw); go_simp; (first | done | with_reducible rfl))
    try simp only [Act.put, List.setIfInBounds_toArray, List.set_cons_zero, List.set_cons_succ]
    refine wpAnyH_take (i := 6) (v := ?_) (ata (atS (atS (atS (atS (atS (atS at0))))))) (by kernel_rfl) (by kernel_rfl) (by kernel_rfl) (fun _ _ _ h => h) (Or.inl ⟨by rfl, ?_⟩) (by assumption) ?_
    rotate_left
    · (intro w hSw; (try dsimp only at hSw); go_simp; (first | done | with_reducible rfl))
    try simp only [Act.put, List.setIfInBounds_toArray, List.set_cons_zero, List.set_cons_succ]
    refine wpAnyH_ready (rs := [0, 4, 9]) (by kernel_rfl) (by simp) ?_
    refine AllReadyH.cons (ata at0) (fun K hK => ?_) ?_
    · go_simp
      refine hK.out _ _ (by exact HELD.out _ (Rg.next R.out ((Below.refl _ _).alloc (Nat.le_refl _) _)).hB) (fun hHeld => ?_)
      clear hK K
      try simp only [Act.put, List.setIfInBounds_toArray, List.set_cons_zero, List.set_cons_succ]
      have hb := (Below.refl V0.heap.size V0).alloc (Nat.le_refl _) (.cells #[] 2)
      have R := Lib.hid (Rg.next R.out hb)
      clear hb
      generalize V0.alloc (.cells #[] 2) = V1 at *
      refine wpAnyH_ready (rs := [3, 4, 9]) (by kernel_rfl) (by simp) ?_
      refine AllReadyH.cons (ata (atS (atS (atS at0)))) (fun K hK => ?_) ?_
      · refine step_append_copy rfl _ _ rfl _ rfl (.slice a1 n1 c1) at_ rfl (HI1.out _ R.out.hB) (by have := HLn.out.1; omega) ?_
        intro da na ca V2 hi hb
        have R := Lib.hid (Rg.put1 R.out hb hi)
        clear hb hi
        refine hK.out _ _ (by exact HELD.out _ R.out.hB) (fun hHeld => ?_)
        clear hK K
        try simp only [Act.put, List.setIfInBounds_toArray, List.set_cons_zero, List.set_cons_succ]
        refine wpAnyH_ready (rs := [4, 9]) (by kernel_rfl) (by simp) ?_
        refine AllReadyH.cons (ata (atS (atS (atS (atS at0))))) (fun K hK => ?_) ?_
        · go_simp
          refine hK.out _ _ (by exact HELD.out _ (Rg.next R.out ((Below.refl _ _).alloc (Nat.le_refl _) _)).hB) (fun hHeld => ?_)
          clear hK K
          try simp only [Act.put, List.setIfInBounds_toArray, List.set_cons_zero, List.set_cons_succ]
          have hb := (Below.refl V2.heap.size V2).alloc (Nat.le_refl _) (.cells #[] 2)
          have R := Lib.hid (Rg.next R.out hb)
          clear hb
          generalize V2.alloc (.cells #[] 2) = V3 at *
          refine wpAnyH_ready (rs := [7, 9]) (by kernel_rfl) (by simp) ?_
          refine AllReadyH.cons (ata (atS (atS (atS (atS (atS (atS (atS at0)))))))) (fun K hK => ?_) ?_
          · refine step_append_copy rfl _ _ rfl _ rfl (.slice a2 n2 c2) m rfl (HI2.out _ R.out.hB) (by have := HLn.out.2; omega) ?_
            intro db nb cb V4 hi hb
            have R := Lib.hid (Rg.put2 R.out hb hi)
            clear hb hi
            refine hK.out _ _ (by exact HELD.out _ R.out.hB) (fun hHeld => ?_)
            clear hK K
            try simp only [Act.put, List.setIfInBounds_toArray, List.set_cons_zero, List.set_cons_succ]
            refine wpAnyH_take (i := 8) (v := ?_) (ata (atS (atS (atS (atS (atS (atS (atS (atS at0))))))))) (by kernel_rfl) (by kernel_rfl) (by kernel_rfl) (fun _ _ _ h => h) (Or.inl ⟨by rfl, ?_⟩) (by assumption) ?_
            rotate_left
            · (intro w hSw; (try dsimp only at hSw); go_simp; (first | done | with_reducible rfl))
            try simp only [Act.put, List.setIfInBounds_toArray, List.set_cons_zero, List.set_cons_succ]
            refine wpAnyH_ready (rs := [9]) (by kernel_rfl) (by simp) ?_
            refine AllReadyH.cons (ata (atS (atS (atS (atS (atS (atS (atS (atS (atS at0)))))))))) (fun K hK => ?_) ?_
            · go_simp
              refine hK.out _ _ (by exact HELD.out _ (Rg.next R.out ((Below.refl _ _).alloc (Nat.le_refl _) _)).hB) (fun hHeld => ?_)
              clear hK K
              try simp only [Act.put, List.setIfInBounds_toArray, List.set_cons_zero, List.set_cons_succ]
              have hb := (Below.refl V4.heap.size V4).alloc (Nat.le_refl _) (.cells #[.slice none 0 0, .slice none 0 0] 24)
              have hge := Lib.hid R.out.hB.size
              have R := Lib.hid (Rg.next R.out hb)
              have hx := Lib.hid (Box2.new V4 24 (.slice none 0 0) (.slice none 0 0))
              clear hb
              generalize V4.alloc (.cells #[.slice none 0 0, .slice none 0 0] 24) = V5 at *
              generalize V4.heap.size = gB at *
              refine wpAnyH_ready (rs := [10]) (by kernel_rfl) (by simp) ?_
              refine AllReadyH.cons (ata (atS (atS (atS (atS (atS (atS (atS (atS (atS (atS at0))))))))))) (fun K hK => ?_) ?_
              · have q0 := hx.out.cell0
                have q1 := hx.out.cell1
                have f0 := hx.out.free 0
                have f1 := hx.out.free 1
                go_simp
                have R := Lib.hid (Rg.set2 R.out hx.out hge.out (a3 := da) (n3 := na) (c3 := ca) (a4 := db) (n4 := nb) (c4 := cb))
                have hx := Lib.hid (hx.out.set2 (.slice da na ca) (.slice db nb cb))
                clear q0 q1 f0 f1
                refine hK.out _ _ (by exact HELD.out _ R.out.hB) (fun hHeld => ?_)
                clear hK K
                try simp only [Act.put, List.setIfInBounds_toArray, List.set_cons_zero, List.set_cons_succ]
                refine wpAnyH_done (by kernel_rfl) ?_ _
                go_wp2_with fail
                go_meet
                exact ⟨_, _, _, rfl, hx.out, R.out.h1 _ rfl, R.out.h2 _ rfl, HS1.out.next R.out.hB⟩
              exact AllReadyH.nil
            exact AllReadyH.nil
          refine AllReadyH.cons (ata (atS (atS (atS (atS (atS (atS (atS (atS (atS at0)))))))))) (fun K hK => ?_) ?_
          · go_simp
            refine hK.out _ _ (by exact HELD.out _ (Rg.next R.out ((Below.refl _ _).alloc (Nat.le_refl _) _)).hB) (fun hHeld => ?_)
            clear hK K
            try simp only [Act.put, List.setIfInBounds_toArray, List.set_cons_zero, List.set_cons_succ]
            have hb := (Below.refl V3.heap.size V3).alloc (Nat.le_refl _) (.cells #[.slice none 0 0, .slice none 0 0] 24)
            have hge := Lib.hid R.out.hB.size
            have R := Lib.hid (Rg.next R.out hb)
            have hx := Lib.hid (Box2.new V3 24 (.slice none 0 0) (.slice none 0 0))
            clear hb
            generalize V3.alloc (.cells #[.slice none 0 0, .slice none 0 0] 24) = V4 at *
            generalize V3.heap.size = gB at *
            refine wpAnyH_ready (rs := [7]) (by kernel_rfl) (by simp) ?_
            refine AllReadyH.cons (ata (atS (atS (atS (atS (atS (atS (atS at0)))))))) (fun K hK => ?_) ?_
            · refine step_append_copy rfl _ _ rfl _ rfl (.slice a2 n2 c2) m rfl (HI2.out _ R.out.hB) (by have := HLn.out.2; omega) ?_
              intro db nb cb V5 hi hb
              have R := Lib.hid (Rg.put2 R.out hb hi)
              have hx := Lib.hid (box2_next hb hx.out)
              clear hb hi
              refine hK.out _ _ (by exact HELD.out _ R.out.hB) (fun hHeld => ?_)
              clear hK K
              try simp only [Act.put, List.setIfInBounds_toArray, List.set_cons_zero, List.set_cons_succ]
              refine wpAnyH_take (i := 8) (v := ?_) (ata (atS (atS (atS (atS (atS (atS (atS (atS at0))))))))) (by kernel_rfl) (by kernel_rfl) (by kernel_rfl) (fun _ _ _ h => h) (Or.inl ⟨by rfl, ?_⟩) (by assumption) ?_
              rotate_left
              · (intro w hSw; (try dsimp only at hSw); go_simp; (first | done | with_reducible rfl))
              try simp only [Act.put, List.setIfInBounds_toArray, List.set_cons_zero, List.set_cons_succ]
              refine wpAnyH_ready (rs := [10]) (by kernel_rfl) (by simp) ?_
              refine AllReadyH.cons (ata (atS (atS (atS (atS (atS (atS (atS (atS (atS (atS at0))))))))))) (fun K hK => ?_) ?_
              · have q0 := hx.out.cell0
                have q1 := hx.out.cell1
                have f0 := hx.out.free 0
                have f1 := hx.out.free 1
                go_simp
                have R := Lib.hid (Rg.set2 R.out hx.out hge.out (a3 := da) (n3 := na) (c3 := ca) (a4 := db) (n4 := nb) (c4 := cb))
                have hx := Lib.hid (hx.out.set2 (.slice da na ca) (.slice db nb cb))
                clear q0 q1 f0 f1
                refine hK.out _ _ (by exact HELD.out _ R.out.hB) (fun hHeld => ?_)
                clear hK K
                try simp only [Act.put, List.setIfInBounds_toArray, List.set_cons_zero, List.set_cons_succ]
                refine wpAnyH_done (by kernel_rfl) ?_ _
                go_wp2_with fail
                go_meet
                exact ⟨_, _, _, rfl, hx.out, R.out.h1 _ rfl, R.out.h2 _ rfl, HS1.out.next R.out.hB⟩
              exact AllReadyH.nil
            exact AllReadyH.nil
          exact AllReadyH.nil
        refine AllReadyH.cons (ata (atS (atS (atS (atS (atS (atS (atS (atS (atS at0)))))))))) (fun K hK => ?_) ?_
        · go_simp
          refine hK.out _ _ (by exact HELD.out _ (Rg.next R.out ((Below.refl _ _).alloc (Nat.le_refl _) _)).hB) (fun hHeld => ?_)
          clear hK K
          try simp only [Act.put, List.setIfInBounds_toArray, List.set_cons_zero, List.set_cons_succ]
          have hb := (Below.refl V2.heap.size V2).alloc (Nat.le_refl _) (.cells #[.slice none 0 0, .slice none 0 0] 24)
          have hge := Lib.hid R.out.hB.size
          have R := Lib.hid (Rg.next R.out hb)
          have hx := Lib.hid (Box2.new V2 24 (.slice none 0 0) (.slice none 0 0))
          clear hb
          generalize V2.alloc (.cells #[.slice none 0 0, .slice none 0 0] 24) = V3 at *
          generalize V2.heap.size = gB at *
          refine wpAnyH_ready (rs := [4]) (by kernel_rfl) (by simp) ?_
          refine AllReadyH.cons (ata (atS (atS (atS (atS at0))))) (fun K hK => ?_) ?_
          · go_simp
            refine hK.out _ _ (by exact HELD.out _ (Rg.next R.out ((Below.refl _ _).alloc (Nat.le_refl _) _)).hB) (fun hHeld => ?_)
            clear hK K
            try simp only [Act.put, List.setIfInBounds_toArray, List.set_cons_zero, List.set_cons_succ]
            have hb := (Below.refl V3.heap.size V3).alloc (Nat.le_refl _) (.cells #[] 2)
            have R := Lib.hid (Rg.next R.out hb)
            have hx := Lib.hid (box2_next hb hx.out)
            clear hb
            generalize V3.alloc (.cells #[] 2) = V4 at *
            refine wpAnyH_ready (rs := [7]) (by kernel_rfl) (by simp) ?_
            refine AllReadyH.cons (ata (atS (atS (atS (atS (atS (atS (atS at0)))))))) (fun K hK => ?_) ?_
            · refine step_append_copy rfl _ _ rfl _ rfl (.slice a2 n2 c2) m rfl (HI2.out _ R.out.hB) (by have := HLn.out.2; omega) ?_
              intro db nb cb V5 hi hb
              have R := Lib.hid (Rg.put2 R.out hb hi)
              have hx := Lib.hid (box2_next hb hx.out)
              clear hb hi
              refine hK.out _ _ (by exact HELD.out _ R.out.hB) (fun hHeld => ?_)
              clear hK K
              try simp only [Act.put, List.setIfInBounds_toArray, List.set_cons_zero, List.set_cons_succ]
              refine wpAnyH_take (i := 8) (v := ?_) (ata (atS (atS (atS (atS (atS (atS (atS (atS at0))))))))) (by kernel_rfl) (by kernel_rfl) (by kernel_rfl) (fun _ _ _ h => h) (Or.inl ⟨by rfl, ?_⟩) (by assumption) ?_
              rotate_left
              · (intro w hSw; (try dsimp only at hSw); go_simp; (first | done | with_reducible rfl))
              try simp only [Act.put, List.setIfInBounds_toArray, List.set_cons_zero, List.set_cons_succ]
              refine wpAnyH_ready (rs := [10]) (by kernel_rfl) (by simp) ?_
              refine AllReadyH.cons (ata (atS (atS (atS (atS (atS (atS (atS (atS (atS (atS at0))))))))))) (fun K hK => ?_) ?_
              · have q0 := hx.out.cell0
                have q1 := hx.out.cell1
                have f0 := hx.out.free 0
                have f1 := hx.out.free 1
                go_simp
                have R := Lib.hid (Rg.set2 R.out hx.out hge.out (a3 := da) (n3 := na) (c3 := ca) (a4 := db) (n4 := nb) (c4 := cb))
                have hx := Lib.hid (hx.out.set2 (.slice da na ca) (.slice db nb cb))
                clear q0 q1 f0 f1
                refine hK.out _ _ (by exact HELD.out _ R.out.hB) (fun hHeld => ?_)
                clear hK K
                try simp only [Act.put, List.setIfInBounds_toArray, List.set_cons_zero, List.set_cons_succ]
                refine wpAnyH_done (by kernel_rfl) ?_ _
                go_wp2_with fail
                go_meet
                exact ⟨_, _, _, rfl, hx.out, R.out.h1 _ rfl, R.out.h2 _ rfl, HS1.out.next R.out.hB⟩
              exact AllReadyH.nil
            exact AllReadyH.nil
          exact AllReadyH.nil
        exact AllReadyH.nil
      refine AllReadyH.cons (ata (atS (atS (atS (atS at0))))) (fun K hK => ?_) ?_
      · go_simp
        refine hK.out _ _ (by exact HELD.out _ (Rg.next R.out ((Below.refl _ _).alloc (Nat.le_refl _) _)).hB) (fun hHeld => ?_)
        clear hK K
        try simp only [Act.put, List.setIfInBounds_toArray, List.set_cons_zero, List.set_cons_succ]
        have hb := (Below.refl V1.heap.size V1).alloc (Nat.le_refl _) (.cells #[] 2)
        have R := Lib.hid (Rg.next R.out hb)
        clear hb
        generalize V1.alloc (.cells #[] 2) = V2 at *
        refine wpAnyH_ready (rs := [3, 9]) (by kernel_rfl) (by simp) ?_
        refine AllReadyH.cons (ata (atS (atS (atS at0)))) (fun K hK => ?_) ?_
        · refine step_append_copy rfl _ _ rfl _ rfl (.slice a1 n1 c1) at_ rfl (HI1.out _ R.out.hB) (by have := HLn.out.1; omega) ?_
          intro da na ca V3 hi hb
          have R := Lib.hid (Rg.put1 R.out hb hi)
          clear hb hi
          refine hK.out _ _ (by exact HELD.out _ R.out.hB) (fun hHeld => ?_)
          clear hK K
          try simp only [Act.put, List.setIfInBounds_toArray, List.set_cons_zero, List.set_cons_succ]
          refine wpAnyH_ready (rs := [7, 9]) (by kernel_rfl) (by simp) ?_
          refine AllReadyH.cons (ata (atS (atS (atS (atS (atS (atS (atS at0)))))))) (fun K hK => ?_) ?_
          · refine step_append_copy rfl _ _ rfl _ rfl (.slice a2 n2 c2) m rfl (HI2.out _ R.out.hB) (by have := HLn.out.2; omega) ?_
            intro db nb cb V4 hi hb
            have R := Lib.hid (Rg.put2 R.out hb hi)
            clear hb hi
            refine hK.out _ _ (by exact HELD.out _ R.out.hB) (fun hHeld => ?_)
            clear hK K
            try simp only [Act.put, List.setIfInBounds_toArray, List.set_cons_zero, List.set_cons_succ]
            refine wpAnyH_take (i := 8) (v := ?_) (ata (atS (atS (atS (atS (atS (atS (atS (atS at0))))))))) (by kernel_rfl) (by kernel_rfl) (by kernel_rfl) (fun _ _ _ h => h) (Or.inl ⟨by rfl, ?_⟩) (by assumption) ?_
            rotate_left
            · (intro w hSw; (try dsimp only at hSw); go_simp; (first | done | with_reducible rfl))
            try simp only [Act.put, List.setIfInBounds_toArray, List.set_cons_zero, List.set_cons_succ]
            refine wpAnyH_ready (rs := [9]) (by kernel_rfl) (by simp) ?_
            refine AllReadyH.cons (ata (atS (atS (atS (atS (atS (atS (atS (atS (atS at0)))))))))) (fun K hK => ?_) ?_
            · go_simp
              refine hK.out _ _ (by exact HELD.out _ (Rg.next R.out ((Below.refl _ _).alloc (Nat.le_refl _) _)).hB) (fun hHeld => ?_)
              clear hK K
              try simp only [Act.put, List.setIfInBounds_toArray, List.set_cons_zero, List.set_cons_succ]
              have hb := (Below.refl V4.heap.size V4).alloc (Nat.le_refl _) (.cells #[.slice none 0 0, .slice none 0 0] 24)
              have hge := Lib.hid R.out.hB.size
              have R := Lib.hid (Rg.next R.out hb)
              have hx := Lib.hid (Box2.new V4 24 (.slice none 0 0) (.slice none 0 0))
              clear hb
              generalize V4.alloc (.cells #[.slice none 0 0, .slice none 0 0] 24) = V5 at *
              generalize V4.heap.size = gB at *
              refine wpAnyH_ready (rs := [10]) (by kernel_rfl) (by simp) ?_
              refine AllReadyH.cons (ata (atS (atS (atS (atS (atS (atS (atS (atS (atS (atS at0))))))))))) (fun K hK => ?_) ?_
              · have q0 := hx.out.cell0
                have q1 := hx.out.cell1
                have f0 := hx.out.free 0
                have f1 := hx.out.free 1
                go_simp
                have R := Lib.hid (Rg.set2 R.out hx.out hge.out (a3 := da) (n3 := na) (c3 := ca) (a4 := db) (n4 := nb) (c4 := cb))
                have hx := Lib.hid (hx.out.set2 (.slice da na ca) (.slice db nb cb))
                clear q0 q1 f0 f1
                refine hK.out _ _ (by exact HELD.out _ R.out.hB) (fun hHeld => ?_)
                clear hK K
                try simp only [Act.put, List.setIfInBounds_toArray, List.set_cons_zero, List.set_cons_succ]
                refine wpAnyH_done (by kernel_rfl) ?_ _
                go_wp2_with fail
                go_meet
                exact ⟨_, _, _, rfl, hx.out, R.out.h1 _ rfl, R.out.h2 _ rfl, HS1.out.next R.out.hB⟩
              exact AllReadyH.nil
            exact AllReadyH.nil
          refine AllReadyH.cons (ata (atS (atS (atS (atS (atS (atS (atS (atS (atS at0)))))))))) (fun K hK => ?_) ?_
          · go_simp
            refine hK.out _ _ (by exact HELD.out _ (Rg.next R.out ((Below.refl _ _).alloc (Nat.le_refl _) _)).hB) (fun hHeld => ?_)
            clear hK K
            try simp only [Act.put, List.setIfInBounds_toArray, List.set_cons_zero, List.set_cons_succ]
            have hb := (Below.refl V3.heap.size V3).alloc (Nat.le_refl _) (.cells #[.slice none 0 0, .slice none 0 0] 24)
            have hge := Lib.hid R.out.hB.size
            have R := Lib.hid (Rg.next R.out hb)
            have hx := Lib.hid (Box2.new V3 24 (.slice none 0 0) (.slice none 0 0))
            clear hb
            generalize V3.alloc (.cells #[.slice none 0 0, .slice none 0 0] 24) = V4 at *
            generalize V3.heap.size = gB at *
            refine wpAnyH_ready (rs := [7]) (by kernel_rfl) (by simp) ?_
            refine AllReadyH.cons (ata (atS (atS (atS (atS (atS (atS (atS at0)))))))) (fun K hK => ?_) ?_
            · refine step_append_copy rfl _ _ rfl _ rfl (.slice a2 n2 c2) m rfl (HI2.out _ R.out.hB) (by have := HLn.out.2; omega) ?_
              intro db nb cb V5 hi hb
              have R := Lib.hid (Rg.put2 R.out hb hi)
              have hx := Lib.hid (box2_next hb hx.out)
              clear hb hi
              refine hK.out _ _ (by exact HELD.out _ R.out.hB) (fun hHeld => ?_)
              clear hK K
              try simp only [Act.put, List.setIfInBounds_toArray, List.set_cons_zero, List.set_cons_succ]
              refine wpAnyH_take (i := 8) (v := ?_) (ata (atS (atS (atS (atS (atS (atS (atS (atS at0))))))))) (by kernel_rfl) (by kernel_rfl) (by kernel_rfl) (fun _ _ _ h => h) (Or.inl ⟨by rfl, ?_⟩) (by assumption) ?_
              rotate_left
              · (intro w hSw; (try dsimp only at hSw); go_simp; (first | done | with_reducible rfl))
              try simp only [Act.put, List.setIfInBounds_toArray, List.set_cons_zero, List.set_cons_succ]
              refine wpAnyH_ready (rs := [10]) (by kernel_rfl) (by simp) ?_
              refine AllReadyH.cons (ata (atS (atS (atS (atS (atS (atS (atS (atS (atS (atS at0))))))))))) (fun K hK => ?_) ?_
              · have q0 := hx.out.cell0
                have q1 := hx.out.cell1
                have f0 := hx.out.free 0
                have f1 := hx.out.free 1
                go_simp
                have R := Lib.hid (Rg.set2 R.out hx.out hge.out (a3 := da) (n3 := na) (c3 := ca) (a4 := db) (n4 := nb) (c4 := cb))
                have hx := Lib.hid (hx.out.set2 (.slice da na ca) (.slice db nb cb))
                clear q0 q1 f0 f1
                refine hK.out _ _ (by exact HELD.out _ R.out.hB) (fun hHeld => ?_)
                clear hK K
                try simp only [Act.put, List.setIfInBounds_toArray, List.set_cons_zero, List.set_cons_succ]
                refine wpAnyH_done (by kernel_rfl) ?_ _
                go_wp2_with fail
                go_meet
                exact ⟨_, _, _, rfl, hx.out, R.out.h1 _ rfl, R.out.h2 _ rfl, HS1.out.next R.out.hB⟩
              exact AllReadyH.nil
            exact AllReadyH.nil
          exact AllReadyH.nil
        refine AllReadyH.cons (ata (atS (atS (atS (atS (atS (atS (atS (atS (atS at0)))))))))) (fun K hK => ?_) ?_
        · go_simp
          refine hK.out _ _ (by exact HELD.out _ (Rg.next R.out ((Below.refl _ _).alloc (Nat.le_refl _) _)).hB) (fun hHeld => ?_)
          clear hK K
          try simp only [Act.put, List.setIfInBounds_toArray, List.set_cons_zero, List.set_cons_succ]
          have hb := (Below.refl V2.heap.size V2).alloc (Nat.le_refl _) (.cells #[.slice none 0 0, .slice none 0 0] 24)
          have hge := Lib.hid R.out.hB.size
          have R := Lib.hid (Rg.next R.out hb)
          have hx := Lib.hid (Box2.new V2 24 (.slice none 0 0) (.slice none 0 0))
          clear hb
          generalize V2.alloc (.cells #[.slice none 0 0, .slice none 0 0] 24) = V3 at *
          generalize V2.heap.size = gB at *
          refine wpAnyH_ready (rs := [3]) (by kernel_rfl) (by simp) ?_
          refine AllReadyH.cons (ata (atS (atS (atS at0)))) (fun K hK => ?_) ?_
          · refine step_append_copy rfl _ _ rfl _ rfl (.slice a1 n1 c1) at_ rfl (HI1.out _ R.out.hB) (by have := HLn.out.1; omega) ?_
            intro da na ca V4 hi hb
            have R := Lib.hid (Rg.put1 R.out hb hi)
            have hx := Lib.hid (box2_next hb hx.out)
            clear hb hi
            refine hK.out _ _ (by exact HELD.out _ R.out.hB) (fun hHeld => ?_)
            clear hK K
            try simp only [Act.put, List.setIfInBounds_toArray, List.set_cons_zero, List.set_cons_succ]
            refine wpAnyH_ready (rs := [7]) (by kernel_rfl) (by simp) ?_
            refine AllReadyH.cons (ata (atS (atS (atS (atS (atS (atS (atS at0)))))))) (fun K hK => ?_) ?_
            · refine step_append_copy rfl _ _ rfl _ rfl (.slice a2 n2 c2) m rfl (HI2.out _ R.out.hB) (by have := HLn.out.2; omega) ?_
              intro db nb cb V5 hi hb
              have R := Lib.hid (Rg.put2 R.out hb hi)
              have hx := Lib.hid (box2_next hb hx.out)
              clear hb hi
              refine hK.out _ _ (by exact HELD.out _ R.out.hB) (fun hHeld => ?_)
              clear hK K
              try simp only [Act.put, List.setIfInBounds_toArray, List.set_cons_zero, List.set_cons_succ]
              refine wpAnyH_take (i := 8) (v := ?_) (ata (atS (atS (atS (atS (atS (atS (atS (atS at0))))))))) (by kernel_rfl) (by kernel_rfl) (by kernel_rfl) (fun _ _ _ h => h) (Or.inl ⟨by rfl, ?_⟩) (by assumption) ?_
              rotate_left
              · (intro w hSw; (try dsimp only at hSw); go_simp; (first | done | with_reducible rfl))
              try simp only [Act.put, List.setIfInBounds_toArray, List.set_cons_zero, List.set_cons_succ]
              refine wpAnyH_ready (rs := [10]) (by kernel_rfl) (by simp) ?_
              refine AllReadyH.cons (ata (atS (atS (atS (atS (atS (atS (atS (atS (atS (atS at0))))))))))) (fun K hK => ?_) ?_
              · have q0 := hx.out.cell0
                have q1 := hx.out.cell1
                have f0 := hx.out.free 0
                have f1 := hx.out.free 1
                go_simp
                have R := Lib.hid (Rg.set2 R.out hx.out hge.out (a3 := da) (n3 := na) (c3 := ca) (a4 := db) (n4 := nb) (c4 := cb))
                have hx := Lib.hid (hx.out.set2 (.slice da na ca) (.slice db nb cb))
                clear q0 q1 f0 f1
                refine hK.out _ _ (by exact HELD.out _ R.out.hB) (fun hHeld => ?_)
                clear hK K
                try simp only [Act.put, List.setIfInBounds_toArray, List.set_cons_zero, List.set_cons_succ]
                refine wpAnyH_done (by kernel_rfl) ?_ _
                go_wp2_with fail
                go_meet
                exact ⟨_, _, _, rfl, hx.out, R.out.h1 _ rfl, R.out.h2 _ rfl, HS1.out.next R.out.hB⟩
              exact AllReadyH.nil
            exact AllReadyH.nil
          exact AllReadyH.nil
        exact AllReadyH.nil
      refine AllReadyH.cons (ata (atS (atS (atS (atS (atS (atS (atS (atS (atS at0)))))))))) (fun K hK => ?_) ?_
      · go_simp
        refine hK.out _ _ (by exact HELD.out _ (Rg.next R.out ((Below.refl _ _).alloc (Nat.le_refl _) _)).hB) (fun hHeld => ?_)
        clear hK K
        try simp only [Act.put, List.setIfInBounds_toArray, List.set_cons_zero, List.set_cons_succ]
        have hb := (Below.refl V1.heap.size V1).alloc (Nat.le_refl _) (.cells #[.slice none 0 0, .slice none 0 0] 24)
        have hge := Lib.hid R.out.hB.size
        have R := Lib.hid (Rg.next R.out hb)
        have hx := Lib.hid (Box2.new V1 24 (.slice none 0 0) (.slice none 0 0))
        clear hb
        generalize V1.alloc (.cells #[.slice none 0 0, .slice none 0 0] 24) = V2 at *
        generalize V1.heap.size = gB at *
        refine wpAnyH_ready (rs := [3, 4]) (by kernel_rfl) (by simp) ?_
        refine AllReadyH.cons (ata (atS (atS (atS at0)))) (fun K hK => ?_) ?_
        · refine step_append_copy rfl _ _ rfl _ rfl (.slice a1 n1 c1) at_ rfl (HI1.out _ R.out.hB) (by have := HLn.out.1; omega) ?_
          intro da na ca V3 hi hb
          have R := Lib.hid (Rg.put1 R.out hb hi)
          have hx := Lib.hid (box2_next hb hx.out)
          clear hb hi
          refine hK.out _ _ (by exact HELD.out _ R.out.hB) (fun hHeld => ?_)
          clear hK K
          try simp only [Act.put, List.setIfInBounds_toArray, List.set_cons_zero, List.set_cons_succ]
          refine wpAnyH_ready (rs := [4]) (by kernel_rfl) (by simp) ?_
          refine AllReadyH.cons (ata (atS (atS (atS (atS at0))))) (fun K hK => ?_) ?_
          · go_simp
            refine hK.out _ _ (by exact HELD.out _ (Rg.next R.out ((Below.refl _ _).alloc (Nat.le_refl _) _)).hB) (fun hHeld => ?_)
            clear hK K
            try simp only [Act.put, List.setIfInBounds_toArray, List.set_cons_zero, List.set_cons_succ]
            have hb := (Below.refl V3.heap.size V3).alloc (Nat.le_refl _) (.cells #[] 2)
            have R := Lib.hid (Rg.next R.out hb)
            have hx := Lib.hid (box2_next hb hx.out)
            clear hb
            generalize V3.alloc (.cells #[] 2) = V4 at *
            refine wpAnyH_ready (rs := [7]) (by kernel_rfl) (by simp) ?_
            refine AllReadyH.cons (ata (atS (atS (atS (atS (atS (atS (atS at0)))))))) (fun K hK => ?_) ?_
            · refine step_append_copy rfl _ _ rfl _ rfl (.slice a2 n2 c2) m rfl (HI2.out _ R.out.hB) (by have := HLn.out.2; omega) ?_
              intro db nb cb V5 hi hb
              have R := Lib.hid (Rg.put2 R.out hb hi)
              have hx := Lib.hid (box2_next hb hx.out)
              clear hb hi
              refine hK.out _ _ (by exact HELD.out _ R.out.hB) (fun hHeld => ?_)
              clear hK K
              try simp only [Act.put, List.setIfInBounds_toArray, List.set_cons_zero, List.set_cons_succ]
              refine wpAnyH_take (i := 8) (v := ?_) (ata (atS (atS (atS (atS (atS (atS (atS (atS at0))))))))) (by kernel_rfl) (by kernel_rfl) (by kernel_rfl) (fun _ _ _ h => h) (Or.inl ⟨by rfl, ?_⟩) (by assumption) ?_
              rotate_left
              · (intro w hSw; (try dsimp only at hSw); go_simp; (first | done | with_reducible rfl))
              try simp only [Act.put, List.setIfInBounds_toArray, List.set_cons_zero, List.set_cons_succ]
              refine wpAnyH_ready (rs := [10]) (by kernel_rfl) (by simp) ?_
              refine AllReadyH.cons (ata (atS (atS (atS (atS (atS (atS (atS (atS (atS (atS at0))))))))))) (fun K hK => ?_) ?_
              · have q0 := hx.out.cell0
                have q1 := hx.out.cell1
                have f0 := hx.out.free 0
                have f1 := hx.out.free 1
                go_simp
                have R := Lib.hid (Rg.set2 R.out hx.out hge.out (a3 := da) (n3 := na) (c3 := ca) (a4 := db) (n4 := nb) (c4 := cb))
                have hx := Lib.hid (hx.out.set2 (.slice da na ca) (.slice db nb cb))
                clear q0 q1 f0 f1
                refine hK.out _ _ (by exact HELD.out _ R.out.hB) (fun hHeld => ?_)
                clear hK K
                try simp only [Act.put, List.setIfInBounds_toArray, List.set_cons_zero, List.set_cons_succ]
                refine wpAnyH_done (by kernel_rfl) ?_ _
                go_wp2_with fail
                go_meet
                exact ⟨_, _, _, rfl, hx.out, R.out.h1 _ rfl, R.out.h2 _ rfl, HS1.out.next R.out.hB⟩
              exact AllReadyH.nil
            exact AllReadyH.nil
          exact AllReadyH.nil
        refine AllReadyH.cons (ata (atS (atS (atS (atS at0))))) (fun K hK => ?_) ?_
        · go_simp
          refine hK.out _ _ (by exact HELD.out _ (Rg.next R.out ((Below.refl _ _).alloc (Nat.le_refl _) _)).hB) (fun hHeld => ?_)
          clear hK K
          try simp only [Act.put, List.setIfInBounds_toArray, List.set_cons_zero, List.set_cons_succ]
          have hb := (Below.refl V2.heap.size V2).alloc (Nat.le_refl _) (.cells #[] 2)
          have R := Lib.hid (Rg.next R.out hb)
          have hx := Lib.hid (box2_next hb hx.out)
          clear hb
          generalize V2.alloc (.cells #[] 2) = V3 at *
          refine wpAnyH_ready (rs := [3]) (by kernel_rfl) (by simp) ?_
          refine AllReadyH.cons (ata (atS (atS (atS at0)))) (fun K hK => ?_) ?_
          · refine step_append_copy rfl _ _ rfl _ rfl (.slice a1 n1 c1) at_ rfl (HI1.out _ R.out.hB) (by have := HLn.out.1; omega) ?_
            intro da na ca V4 hi hb
            have R := Lib.hid (Rg.put1 R.out hb hi)
            have hx := Lib.hid (box2_next hb hx.out)
            clear hb hi
            refine hK.out _ _ (by exact HELD.out _ R.out.hB) (fun hHeld => ?_)
            clear hK K
            try simp only [Act.put, List.setIfInBounds_toArray, List.set_cons_zero, List.set_cons_succ]
            refine wpAnyH_ready (rs := [7]) (by kernel_rfl) (by simp) ?_
            refine AllReadyH.cons (ata (atS (atS (atS (atS (atS (atS (atS at0)))))))) (fun K hK => ?_) ?_
            · refine step_append_copy rfl _ _ rfl _ rfl (.slice a2 n2 c2) m rfl (HI2.out _ R.out.hB) (by have := HLn.out.2; omega) ?_
              intro db nb cb V5 hi hb
              have R := Lib.hid (Rg.put2 R.out hb hi)
              have hx := Lib.hid (box2_next hb hx.out)
              clear hb hi
              refine hK.out _ _ (by exact HELD.out _ R.out.hB) (fun hHeld => ?_)
              clear hK K
              try simp only [Act.put, List.setIfInBounds_toArray, List.set_cons_zero, List.set_cons_succ]
              refine wpAnyH_take (i := 8) (v := ?_) (ata (atS (atS (atS (atS (atS (atS (atS (atS at0))))))))) (by kernel_rfl) (by kernel_rfl) (by kernel_rfl) (fun _ _ _ h => h) (Or.inl ⟨by rfl, ?_⟩) (by assumption) ?_
              rotate_left
              · (intro w hSw; (try dsimp only at hSw); go_simp; (first | done | with_reducible rfl))
              try simp only [Act.put, List.setIfInBounds_toArray, List.set_cons_zero, List.set_cons_succ]
              refine wpAnyH_ready (rs := [10]) (by kernel_rfl) (by simp) ?_
              refine AllReadyH.cons (ata (atS (atS (atS (atS (atS (atS (atS (atS (atS (atS at0))))))))))) (fun K hK => ?_) ?_
              · have q0 := hx.out.cell0
                have q1 := hx.out.cell1
                have f0 := hx.out.free 0
                have f1 := hx.out.free 1
                go_simp
                have R := Lib.hid (Rg.set2 R.out hx.out hge.out (a3 := da) (n3 := na) (c3 := ca) (a4 := db) (n4 := nb) (c4 := cb))
                have hx := Lib.hid (hx.out.set2 (.slice da na ca) (.slice db nb cb))
                clear q0 q1 f0 f1
                refine hK.out _ _ (by exact HELD.out _ R.out.hB) (fun hHeld => ?_)
                clear hK K
                try simp only [Act.put, List.setIfInBounds_toArray, List.set_cons_zero, List.set_cons_succ]
                refine wpAnyH_done (by kernel_rfl) ?_ _
                go_wp2_with fail
                go_meet
                exact ⟨_, _, _, rfl, hx.out, R.out.h1 _ rfl, R.out.h2 _ rfl, HS1.out.next R.out.hB⟩
              exact AllReadyH.nil
            exact AllReadyH.nil
          exact AllReadyH.nil
        exact AllReadyH.nil
      exact AllReadyH.nil
    refine AllReadyH.cons (ata (atS (atS (atS (atS at0))))) (fun K hK => ?_) ?_
    · go_simp
      refine hK.out _ _ (by exact HELD.out _ (Rg.next R.out ((Below.refl _ _).alloc (Nat.le_refl _) _)).hB) (fun hHeld => ?_)
      clear hK K
      try simp only [Act.put, List.setIfInBounds_toArray, List.set_cons_zero, List.set_cons_succ]
      have hb := (Below.refl V0.heap.size V0).alloc (Nat.le_refl _) (.cells #[] 2)
      have R := Lib.hid (Rg.next R.out hb)
      clear hb
      generalize V0.alloc (.cells #[] 2) = V1 at *
      refine wpAnyH_ready (rs := [0, 9]) (by kernel_rfl) (by simp) ?_
      refine AllReadyH.cons (ata at0) (fun K hK => ?_) ?_
      · go_simp
        refine hK.out _ _ (by exact HELD.out _ (Rg.next R.out ((Below.refl _ _).alloc (Nat.le_refl _) _)).hB) (fun hHeld => ?_)
        clear hK K
        try simp only [Act.put, List.setIfInBounds_toArray, List.set_cons_zero, List.set_cons_succ]
        have hb := (Below.refl V1.heap.size V1).alloc (Nat.le_refl _) (.cells #[] 2)
        have R := Lib.hid (Rg.next R.out hb)
        clear hb
        generalize V1.alloc (.cells #[] 2) = V2 at *
        refine wpAnyH_ready (rs := [3, 9]) (by kernel_rfl) (by simp) ?_
        refine AllReadyH.cons (ata (atS (atS (atS at0)))) (fun K hK => ?_) ?_
        · refine step_append_copy rfl _ _ rfl _ rfl (.slice a1 n1 c1) at_ rfl (HI1.out _ R.out.hB) (by have := HLn.out.1; omega) ?_
          intro da na ca V3 hi hb
          have R := Lib.hid (Rg.put1 R.out hb hi)
          clear hb hi
          refine hK.out _ _ (by exact HELD.out _ R.out.hB) (fun hHeld => ?_)
          clear hK K
          try simp only [Act.put, List.setIfInBounds_toArray, List.set_cons_zero, List.set_cons_succ]
          refine wpAnyH_ready (rs := [7, 9]) (by kernel_rfl) (by simp) ?_
          refine AllReadyH.cons (ata (atS (atS (atS (atS (atS (atS (atS at0)))))))) (fun K hK => ?_) ?_
          · refine step_append_copy rfl _ _ rfl _ rfl (.slice a2 n2 c2) m rfl (HI2.out _ R.out.hB) (by have := HLn.out.2; omega) ?_
            intro db nb cb V4 hi hb
            have R := Lib.hid (Rg.put2 R.out hb hi)
            clear hb hi
            refine hK.out _ _ (by exact HELD.out _ R.out.hB) (fun hHeld => ?_)
            clear hK K
            try simp only [Act.put, List.setIfInBounds_toArray, List.set_cons_zero, List.set_cons_succ]
            refine wpAnyH_take (i := 8) (v := ?_) (ata (atS (atS (atS (atS (atS (atS (atS (atS at0))))))))) (by kernel_rfl) (by kernel_rfl) (by kernel_rfl) (fun _ _ _ h => h) (Or.inl ⟨by rfl, ?_⟩) (by assumption) ?_
            rotate_left
            · (intro w hSw; (try dsimp only at hSw); go_simp; (first | done | with_reducible rfl))
            try simp only [Act.put, List.setIfInBounds_toArray, List.set_cons_zero, List.set_cons_succ]
            refine wpAnyH_ready (rs := [9]) (by kernel_rfl) (by simp) ?_
            refine AllReadyH.cons (ata (atS (atS (atS (atS (atS (atS (atS (atS (atS at0)))))))))) (fun K hK => ?_) ?_
            · go_simp
              refine hK.out _ _ (by exact HELD.out _ (Rg.next R.out ((Below.refl _ _).alloc (Nat.le_refl _) _)).hB) (fun hHeld => ?_)
              clear hK K
              try simp only [Act.put, List.setIfInBounds_toArray, List.set_cons_zero, List.set_cons_succ]
              have hb := (Below.refl V4.heap.size V4).alloc (Nat.le_refl _) (.cells #[.slice none 0 0, .slice none 0 0] 24)
              have hge := Lib.hid R.out.hB.size
              have R := Lib.hid (Rg.next R.out hb)
              have hx := Lib.hid (Box2.new V4 24 (.slice none 0 0) (.slice none 0 0))
              clear hb
              generalize V4.alloc (.cells #[.slice none 0 0, .slice none 0 0] 24) = V5 at *
              generalize V4.heap.size = gB at *
              refine wpAnyH_ready (rs := [10]) (by kernel_rfl) (by simp) ?_
              refine AllReadyH.cons (ata (atS (atS (atS (atS (atS (atS (atS (atS (atS (atS at0))))))))))) (fun K hK => ?_) ?_
              · have q0 := hx.out.cell0
                have q1 := hx.out.cell1
                have f0 := hx.out.free 0
                have f1 := hx.out.free 1
                go_simp
                have R := Lib.hid (Rg.set2 R.out hx.out hge.out (a3 := da) (n3 := na) (c3 := ca) (a4 := db) (n4 := nb) (c4 := cb))
                have hx := Lib.hid (hx.out.set2 (.slice da na ca) (.slice db nb cb))
                clear q0 q1 f0 f1
                refine hK.out _ _ (by exact HELD.out _ R.out.hB) (fun hHeld => ?_)
                clear hK K
                try simp only [Act.put, List.setIfInBounds_toArray, List.set_cons_zero, List.set_cons_succ]
                refine wpAnyH_done (by kernel_rfl) ?_ _
                go_wp2_with fail
                go_meet
                exact ⟨_, _, _, rfl, hx.out, R.out.h1 _ rfl, R.out.h2 _ rfl, HS1.out.next R.out.hB⟩
              exact AllReadyH.nil
            exact AllReadyH.nil
          refine AllReadyH.cons (ata (atS (atS (atS (atS (atS (atS (atS (atS (atS at0)))))))))) (fun K hK => ?_) ?_
          · go_simp
            refine hK.out _ _ (by exact HELD.out _ (Rg.next R.out ((Below.refl _ _).alloc (Nat.le_refl _) _)).hB) (fun hHeld => ?_)
            clear hK K
            try simp only [Act.put, List.setIfInBounds_toArray, List.set_cons_zero, List.set_cons_succ]
            have hb := (Below.refl V3.heap.size V3).alloc (Nat.le_refl _) (.cells #[.slice none 0 0, .slice none 0 0] 24)
            have hge := Lib.hid R.out.hB.size
            have R := Lib.hid (Rg.next R.out hb)
            have hx := Lib.hid (Box2.new V3 24 (.slice none 0 0) (.slice none 0 0))
            clear hb
            generalize V3.alloc (.cells #[.slice none 0 0, .slice none 0 0] 24) = V4 at *
            generalize V3.heap.size = gB at *
            refine wpAnyH_ready (rs := [7]) (by kernel_rfl) (by simp) ?_
            refine AllReadyH.cons (ata (atS (atS (atS (atS (atS (atS (atS at0)))))))) (fun K hK => ?_) ?_
            · refine step_append_copy rfl _ _ rfl _ rfl (.slice a2 n2 c2) m rfl (HI2.out _ R.out.hB) (by have := HLn.out.2; omega) ?_
              intro db nb cb V5 hi hb
              have R := Lib.hid (Rg.put2 R.out hb hi)
              have hx := Lib.hid (box2_next hb hx.out)
              clear hb hi
              refine hK.out _ _ (by exact HELD.out _ R.out.hB) (fun hHeld => ?_)
              clear hK K
              try simp only [Act.put, List.setIfInBounds_toArray, List.set_cons_zero, List.set_cons_succ]
              refine wpAnyH_take (i := 8) (v := ?_) (ata (atS (atS (atS (atS (atS (atS (atS (atS at0))))))))) (by kernel_rfl) (by kernel_rfl) (by kernel_rfl) (fun _ _ _ h => h) (Or.inl ⟨by rfl, ?_⟩) (by assumption) ?_
              rotate_left
              · (intro w hSw; (try dsimp only at hSw); go_simp; (first | done | with_reducible rfl))
              try simp only [Act.put, List.setIfInBounds_toArray, List.set_cons_zero, List.set_cons_succ]
              refine wpAnyH_ready (rs := [10]) (by kernel_rfl) (by simp) ?_
              refine AllReadyH.cons (ata (atS (atS (atS (atS (atS (atS (atS (atS (atS (atS at0))))))))))) (fun K hK => ?_) ?_
              · have q0 := hx.out.cell0
                have q1 := hx.out.cell1
                have f0 := hx.out.free 0
                have f1 := hx.out.free 1
                go_simp
                have R := Lib.hid (Rg.set2 R.out hx.out hge.out (a3 := da) (n3 := na) (c3 := ca) (a4 := db) (n4 := nb) (c4 := cb))
                have hx := Lib.hid (hx.out.set2 (.slice da na ca) (.slice db nb cb))
                clear q0 q1 f0 f1
                refine hK.out _ _ (by exact HELD.out _ R.out.hB) (fun hHeld => ?_)
                clear hK K
                try simp only [Act.put, List.setIfInBounds_toArray, List.set_cons_zero, List.set_cons_succ]
                refine wpAnyH_done (by kernel_rfl) ?_ _
                go_wp2_with fail
                go_meet
                exact ⟨_, _, _, rfl, hx.out, R.out.h1 _ rfl, R.out.h2 _ rfl, HS1.out.next R.out.hB⟩
              exact AllReadyH.nil
            exact AllReadyH.nil
          exact AllReadyH.nil
        refine AllReadyH.cons (ata (atS (atS (atS (atS (atS (atS (atS (atS (atS at0)))))))))) (fun K hK => ?_) ?_
        · go_simp
          refine hK.out _ _ (by exact HELD.out _ (Rg.next R.out ((Below.refl _ _).alloc (Nat.le_refl _) _)).hB) (fun hHeld => ?_)
          clear hK K
          try simp only [Act.put, List.setIfInBounds_toArray, List.set_cons_zero, List.set_cons_succ]
          have hb := (Below.refl V2.heap.size V2).alloc (Nat.le_refl _) (.cells #[.slice none 0 0, .slice none 0 0] 24)
          have hge := Lib.hid R.out.hB.size
          have R := Lib.hid (Rg.next R.out hb)
          have hx := Lib.hid (Box2.new V2 24 (.slice none 0 0) (.slice none 0 0))
          clear hb
          generalize V2.alloc (.cells #[.slice none 0 0, .slice none 0 0] 24) = V3 at *
          generalize V2.heap.size = gB at *
          refine wpAnyH_ready (rs := [3]) (by kernel_rfl) (by simp) ?_
          refine AllReadyH.cons (ata (atS (atS (atS at0)))) (fun K hK => ?_) ?_
          · refine step_append_copy rfl _ _ rfl _ rfl (.slice a1 n1 c1) at_ rfl (HI1.out _ R.out.hB) (by have := HLn.out.1; omega) ?_
            intro da na ca V4 hi hb
            have R := Lib.hid (Rg.put1 R.out hb hi)
            have hx := Lib.hid (box2_next hb hx.out)
            clear hb hi
            refine hK.out _ _ (by exact HELD.out _ R.out.hB) (fun hHeld => ?_)
            clear hK K
            try simp only [Act.put, List.setIfInBounds_toArray, List.set_cons_zero, List.set_cons_succ]
            refine wpAnyH_ready (rs := [7]) (by kernel_rfl) (by simp) ?_
            refine AllReadyH.cons (ata (atS (atS (atS (atS (atS (atS (atS at0)))))))) (fun K hK => ?_) ?_
            · refine step_append_copy rfl _ _ rfl _ rfl (.slice a2 n2 c2) m rfl (HI2.out _ R.out.hB) (by have := HLn.out.2; omega) ?_
              intro db nb cb V5 hi hb
              have R := Lib.hid (Rg.put2 R.out hb hi)
              have hx := Lib.hid (box2_next hb hx.out)
              clear hb hi
              refine hK.out _ _ (by exact HELD.out _ R.out.hB) (fun hHeld => ?_)
              clear hK K
              try simp only [Act.put, List.setIfInBounds_toArray, List.set_cons_zero, List.set_cons_succ]
              refine wpAnyH_take (i := 8) (v := ?_) (ata (atS (atS (atS (atS (atS (atS (atS (atS at0))))))))) (by kernel_rfl) (by kernel_rfl) (by kernel_rfl) (fun _ _ _ h => h) (Or.inl ⟨by rfl, ?_⟩) (by assumption) ?_
              rotate_left
              · (intro w hSw; (try dsimp only at hSw); go_simp; (first | done | with_reducible rfl))
              try simp only [Act.put, List.setIfInBounds_toArray, List.set_cons_zero, List.set_cons_succ]
              refine wpAnyH_ready (rs := [10]) (by kernel_rfl) (by simp) ?_
              refine AllReadyH.cons (ata (atS (atS (atS (atS (atS (atS (atS (atS (atS (atS at0))))))))))) (fun K hK => ?_) ?_
              · have q0 := hx.out.cell0
                have q1 := hx.out.cell1
                have f0 := hx.out.free 0
                have f1 := hx.out.free 1
                go_simp
                have R := Lib.hid (Rg.set2 R.out hx.out hge.out (a3 := da) (n3 := na) (c3 := ca) (a4 := db) (n4 := nb) (c4 := cb))
                have hx := Lib.hid (hx.out.set2 (.slice da na ca) (.slice db nb cb))
                clear q0 q1 f0 f1
                refine hK.out _ _ (by exact HELD.out _ R.out.hB) (fun hHeld => ?_)
                clear hK K
                try simp only [Act.put, List.setIfInBounds_toArray, List.set_cons_zero, List.set_cons_succ]
                refine wpAnyH_done (by kernel_rfl) ?_ _
                go_wp2_with fail
                go_meet
                exact ⟨_, _, _, rfl, hx.out, R.out.h1 _ rfl, R.out.h2 _ rfl, HS1.out.next R.out.hB⟩
              exact AllReadyH.nil
            exact AllReadyH.nil
          exact AllReadyH.nil
        exact AllReadyH.nil
      refine AllReadyH.cons (ata (atS (atS (atS (atS (atS (atS (atS (atS (atS at0)))))))))) (fun K hK => ?_) ?_
      · go_simp
        refine hK.out _ _ (by exact HELD.out _ (Rg.next R.out ((Below.refl _ _).alloc (Nat.le_refl _) _)).hB) (fun hHeld => ?_)
        clear hK K
        try simp only [Act.put, List.setIfInBounds_toArray, List.set_cons_zero, List.set_cons_succ]
        have hb := (Below.refl V1.heap.size V1).alloc (Nat.le_refl _) (.cells #[.slice none 0 0, .slice none 0 0] 24)
        have hge := Lib.hid R.out.hB.size
        have R := Lib.hid (Rg.next R.out hb)
        have hx := Lib.hid (Box2.new V1 24 (.slice none 0 0) (.slice none 0 0))
        clear hb
        generalize V1.alloc (.cells #[.slice none 0 0, .slice none 0 0] 24) = V2 at *
        generalize V1.heap.size = gB at *
        refine wpAnyH_ready (rs := [0]) (by kernel_rfl) (by simp) ?_
        refine AllReadyH.cons (ata at0) (fun K hK => ?_) ?_
        · go_simp
          refine hK.out _ _ (by exact HELD.out _ (Rg.next R.out ((Below.refl _ _).alloc (Nat.le_refl _) _)).hB) (fun hHeld => ?_)
          clear hK K
          try simp only [Act.put, List.setIfInBounds_toArray, List.set_cons_zero, List.set_cons_succ]
          have hb := (Below.refl V2.heap.size V2).alloc (Nat.le_refl _) (.cells #[] 2)
          have R := Lib.hid (Rg.next R.out hb)
          have hx := Lib.hid (box2_next hb hx.out)
          clear hb
          generalize V2.alloc (.cells #[] 2) = V3 at *
          refine wpAnyH_ready (rs := [3]) (by kernel_rfl) (by simp) ?_
          refine AllReadyH.cons (ata (atS (atS (atS at0)))) (fun K hK => ?_) ?_
          · refine step_append_copy rfl _ _ rfl _ rfl (.slice a1 n1 c1) at_ rfl (HI1.out _ R.out.hB) (by have := HLn.out.1; omega) ?_
            intro da na ca V4 hi hb
            have R := Lib.hid (Rg.put1 R.out hb hi)
            have hx := Lib.hid (box2_next hb hx.out)
            clear hb hi
            refine hK.out _ _ (by exact HELD.out _ R.out.hB) (fun hHeld => ?_)
            clear hK K
            try simp only [Act.put, List.setIfInBounds_toArray, List.set_cons_zero, List.set_cons_succ]
            refine wpAnyH_ready (rs := [7]) (by kernel_rfl) (by simp) ?_
            refine AllReadyH.cons (ata (atS (atS (atS (atS (atS (atS (atS at0)))))))) (fun K hK => ?_) ?_
            · refine step_append_copy rfl _ _ rfl _ rfl (.slice a2 n2 c2) m rfl (HI2.out _ R.out.hB) (by have := HLn.out.2; omega) ?_
              intro db nb cb V5 hi hb
              have R := Lib.hid (Rg.put2 R.out hb hi)
              have hx := Lib.hid (box2_next hb hx.out)
              clear hb hi
              refine hK.out _ _ (by exact HELD.out _ R.out.hB) (fun hHeld => ?_)
              clear hK K
              try simp only [Act.put, List.setIfInBounds_toArray, List.set_cons_zero, List.set_cons_succ]
              refine wpAnyH_take (i := 8) (v := ?_) (ata (atS (atS (atS (atS (atS (atS (atS (atS at0))))))))) (by kernel_rfl) (by kernel_rfl) (by kernel_rfl) (fun _ _ _ h => h) (Or.inl ⟨by rfl, ?_⟩) (by assumption) ?_
              rotate_left
              · (intro w hSw; (try dsimp only at hSw); go_simp; (first | done | with_reducible rfl))
              try simp only [Act.put, List.setIfInBounds_toArray, List.set_cons_zero, List.set_cons_succ]
              refine wpAnyH_ready (rs := [10]) (by kernel_rfl) (by simp) ?_
              refine AllReadyH.cons (ata (atS (atS (atS (atS (atS (atS (atS (atS (atS (atS at0))))))))))) (fun K hK => ?_) ?_
              · have q0 := hx.out.cell0
                have q1 := hx.out.cell1
                have f0 := hx.out.free 0
                have f1 := hx.out.free 1
                go_simp
                have R := Lib.hid (Rg.set2 R.out hx.out hge.out (a3 := da) (n3 := na) (c3 := ca) (a4 := db) (n4 := nb) (c4 := cb))
                have hx := Lib.hid (hx.out.set2 (.slice da na ca) (.slice db nb cb))
                clear q0 q1 f0 f1
                refine hK.out _ _ (by exact HELD.out _ R.out.hB) (fun hHeld => ?_)
                clear hK K
                try simp only [Act.put, List.setIfInBounds_toArray, List.set_cons_zero, List.set_cons_succ]
                refine wpAnyH_done (by kernel_rfl) ?_ _
                go_wp2_with fail
                go_meet
                exact ⟨_, _, _, rfl, hx.out, R.out.h1 _ rfl, R.out.h2 _ rfl, HS1.out.next R.out.hB⟩
              exact AllReadyH.nil
            exact AllReadyH.nil
          exact AllReadyH.nil
        exact AllReadyH.nil
      exact AllReadyH.nil
    refine AllReadyH.cons (ata (atS (atS (atS (atS (atS (atS (atS (atS (atS at0)))))))))) (fun K hK => ?_) ?_
    · go_simp
      refine hK.out _ _ (by exact HELD.out _ (Rg.next R.out ((Below.refl _ _).alloc (Nat.le_refl _) _)).hB) (fun hHeld => ?_)
      clear hK K
      try simp only [Act.put, List.setIfInBounds_toArray, List.set_cons_zero, List.set_cons_succ]
      have hb := (Below.refl V0.heap.size V0).alloc (Nat.le_refl _) (.cells #[.slice none 0 0, .slice none 0 0] 24)
      have hge := Lib.hid R.out.hB.size
      have R := Lib.hid (Rg.next R.out hb)
      have hx := Lib.hid (Box2.new V0 24 (.slice none 0 0) (.slice none 0 0))
      clear hb
      generalize V0.alloc (.cells #[.slice none 0 0, .slice none 0 0] 24) = V1 at *
      generalize V0.heap.size = gB at *
      refine wpAnyH_ready (rs := [0, 4]) (by kernel_rfl) (by simp) ?_
      refine AllReadyH.cons (ata at0) (fun K hK => ?_) ?_
      · go_simp
        refine hK.out _ _ (by exact HELD.out _ (Rg.next R.out ((Below.refl _ _).alloc (Nat.le_refl _) _)).hB) (fun hHeld => ?_)
        clear hK K
        try simp only [Act.put, List.setIfInBounds_toArray, List.set_cons_zero, List.set_cons_succ]
        have hb := (Below.refl V1.heap.size V1).alloc (Nat.le_refl _) (.cells #[] 2)
        have R := Lib.hid (Rg.next R.out hb)
        have hx := Lib.hid (box2_next hb hx.out)
        clear hb
        generalize V1.alloc (.cells #[] 2) = V2 at *
        refine wpAnyH_ready (rs := [3, 4]) (by kernel_rfl) (by simp) ?_
        refine AllReadyH.cons (ata (atS (atS (atS at0)))) (fun K hK => ?_) ?_
        · refine step_append_copy rfl _ _ rfl _ rfl (.slice a1 n1 c1) at_ rfl (HI1.out _ R.out.hB) (by have := HLn.out.1; omega) ?_
          intro da na ca V3 hi hb
          have R := Lib.hid (Rg.put1 R.out hb hi)
          have hx := Lib.hid (box2_next hb hx.out)
          clear hb hi
          refine hK.out _ _ (by exact HELD.out _ R.out.hB) (fun hHeld => ?_)
          clear hK K
          try simp only [Act.put, List.setIfInBounds_toArray, List.set_cons_zero, List.set_cons_succ]
          refine wpAnyH_ready (rs := [4]) (by kernel_rfl) (by simp) ?_
          refine AllReadyH.cons (ata (atS (atS (atS (atS at0))))) (fun K hK => ?_) ?_
          · go_simp
            refine hK.out _ _ (by exact HELD.out _ (Rg.next R.out ((Below.refl _ _).alloc (Nat.le_refl _) _)).hB) (fun hHeld => ?_)
            clear hK K
            try simp only [Act.put, List.setIfInBounds_toArray, List.set_cons_zero, List.set_cons_succ]
            have hb := (Below.refl V3.heap.size V3).alloc (Nat.le_refl _) (.cells #[] 2)
            have R := Lib.hid (Rg.next R.out hb)
            have hx := Lib.hid (box2_next hb hx.out)
            clear hb
            generalize V3.alloc (.cells #[] 2) = V4 at *
            refine wpAnyH_ready (rs := [7]) (by kernel_rfl) (by simp) ?_
            refine AllReadyH.cons (ata (atS (atS (atS (atS (atS (atS (atS at0)))))))) (fun K hK => ?_) ?_
            · refine step_append_copy rfl _ _ rfl _ rfl (.slice a2 n2 c2) m rfl (HI2.out _ R.out.hB) (by have := HLn.out.2; omega) ?_
              intro db nb cb V5 hi hb
              have R := Lib.hid (Rg.put2 R.out hb hi)
              have hx := Lib.hid (box2_next hb hx.out)
              clear hb hi
              refine hK.out _ _ (by exact HELD.out _ R.out.hB) (fun hHeld => ?_)
              clear hK K
              try simp only [Act.put, List.setIfInBounds_toArray, List.set_cons_zero, List.set_cons_succ]
              refine wpAnyH_take (i := 8) (v := ?_) (ata (atS (atS (atS (atS (atS (atS (atS (atS at0))))))))) (by kernel_rfl) (by kernel_rfl) (by kernel_rfl) (fun _ _ _ h => h) (Or.inl ⟨by rfl, ?_⟩) (by assumption) ?_
              rotate_left
              · (intro w hSw; (try dsimp only at hSw); go_simp; (first | done | with_reducible rfl))
              try simp only [Act.put, List.setIfInBounds_toArray, List.set_cons_zero, List.set_cons_succ]
              refine wpAnyH_ready (rs := [10]) (by kernel_rfl) (by simp) ?_
              refine AllReadyH.cons (ata (atS (atS (atS (atS (atS (atS (atS (atS (atS (atS at0))))))))))) (fun K hK => ?_) ?_
              · have q0 := hx.out.cell0
                have q1 := hx.out.cell1
                have f0 := hx.out.free 0
                have f1 := hx.out.free 1
                go_simp
                have R := Lib.hid (Rg.set2 R.out hx.out hge.out (a3 := da) (n3 := na) (c3 := ca) (a4 := db) (n4 := nb) (c4 := cb))
                have hx := Lib.hid (hx.out.set2 (.slice da na ca) (.slice db nb cb))
                clear q0 q1 f0 f1
                refine hK.out _ _ (by exact HELD.out _ R.out.hB) (fun hHeld => ?_)
                clear hK K
                try simp only [Act.put, List.setIfInBounds_toArray, List.set_cons_zero, List.set_cons_succ]
                refine wpAnyH_done (by kernel_rfl) ?_ _
                go_wp2_with fail
                go_meet
                exact ⟨_, _, _, rfl, hx.out, R.out.h1 _ rfl, R.out.h2 _ rfl, HS1.out.next R.out.hB⟩
              exact AllReadyH.nil
            exact AllReadyH.nil
          exact AllReadyH.nil
        refine AllReadyH.cons (ata (atS (atS (atS (atS at0))))) (fun K hK => ?_) ?_
        · go_simp
          refine hK.out _ _ (by exact HELD.out _ (Rg.next R.out ((Below.refl _ _).alloc (Nat.le_refl _) _)).hB) (fun hHeld => ?_)
          clear hK K
          try simp only [Act.put, List.setIfInBounds_toArray, List.set_cons_zero, List.set_cons_succ]
          have hb := (Below.refl V2.heap.size V2).alloc (Nat.le_refl _) (.cells #[] 2)
          have R := Lib.hid (Rg.next R.out hb)
          have hx := Lib.hid (box2_next hb hx.out)
          clear hb
          generalize V2.alloc (.cells #[] 2) = V3 at *
          refine wpAnyH_ready (rs := [3]) (by kernel_rfl) (by simp) ?_
          refine AllReadyH.cons (ata (atS (atS (atS at0)))) (fun K hK => ?_) ?_
          · refine step_append_copy rfl _ _ rfl _ rfl (.slice a1 n1 c1) at_ rfl (HI1.out _ R.out.hB) (by have := HLn.out.1; omega) ?_
            intro da na ca V4 hi hb
            have R := Lib.hid (Rg.put1 R.out hb hi)
            have hx := Lib.hid (box2_next hb hx.out)
            clear hb hi
            refine hK.out _ _ (by exact HELD.out _ R.out.hB) (fun hHeld => ?_)
            clear hK K
            try simp only [Act.put, List.setIfInBounds_toArray, List.set_cons_zero, List.set_cons_succ]
            refine wpAnyH_ready (rs := [7]) (by kernel_rfl) (by simp) ?_
            refine AllReadyH.cons (ata (atS (atS (atS (atS (atS (atS (atS at0)))))))) (fun K hK => ?_) ?_
            · refine step_append_copy rfl _ _ rfl _ rfl (.slice a2 n2 c2) m rfl (HI2.out _ R.out.hB) (by have := HLn.out.2; omega) ?_
              intro db nb cb V5 hi hb
              have R := Lib.hid (Rg.put2 R.out hb hi)
              have hx := Lib.hid (box2_next hb hx.out)
              clear hb hi
              refine hK.out _ _ (by exact HELD.out _ R.out.hB) (fun hHeld => ?_)
              clear hK K
              try simp only [Act.put, List.setIfInBounds_toArray, List.set_cons_zero, List.set_cons_succ]
              refine wpAnyH_take (i := 8) (v := ?_) (ata (atS (atS (atS (atS (atS (atS (atS (atS at0))))))))) (by kernel_rfl) (by kernel_rfl) (by kernel_rfl) (fun _ _ _ h => h) (Or.inl ⟨by rfl, ?_⟩) (by assumption) ?_
              rotate_left
              · (intro w hSw; (try dsimp only at hSw); go_simp; (first | done | with_reducible rfl))
              try simp only [Act.put, List.setIfInBounds_toArray, List.set_cons_zero, List.set_cons_succ]
              refine wpAnyH_ready (rs := [10]) (by kernel_rfl) (by simp) ?_
              refine AllReadyH.cons (ata (atS (atS (atS (atS (atS (atS (atS (atS (atS (atS at0))))))))))) (fun K hK => ?_) ?_
              · have q0 := hx.out.cell0
                have q1 := hx.out.cell1
                have f0 := hx.out.free 0
                have f1 := hx.out.free 1
                go_simp
                have R := Lib.hid (Rg.set2 R.out hx.out hge.out (a3 := da) (n3 := na) (c3 := ca) (a4 := db) (n4 := nb) (c4 := cb))
                have hx := Lib.hid (hx.out.set2 (.slice da na ca) (.slice db nb cb))
                clear q0 q1 f0 f1
                refine hK.out _ _ (by exact HELD.out _ R.out.hB) (fun hHeld => ?_)
                clear hK K
                try simp only [Act.put, List.setIfInBounds_toArray, List.set_cons_zero, List.set_cons_succ]
                refine wpAnyH_done (by kernel_rfl) ?_ _
                go_wp2_with fail
                go_meet
                exact ⟨_, _, _, rfl, hx.out, R.out.h1 _ rfl, R.out.h2 _ rfl, HS1.out.next R.out.hB⟩
              exact AllReadyH.nil
            exact AllReadyH.nil
          exact AllReadyH.nil
        exact AllReadyH.nil
      refine AllReadyH.cons (ata (atS (atS (atS (atS at0))))) (fun K hK => ?_) ?_
      · go_simp
        refine hK.out _ _ (by exact HELD.out _ (Rg.next R.out ((Below.refl _ _).alloc (Nat.le_refl _) _)).hB) (fun hHeld => ?_)
        clear hK K
        try simp only [Act.put, List.setIfInBounds_toArray, List.set_cons_zero, List.set_cons_succ]
        have hb := (Below.refl V1.heap.size V1).alloc (Nat.le_refl _) (.cells #[] 2)
        have R := Lib.hid (Rg.next R.out hb)
        have hx := Lib.hid (box2_next hb hx.out)
        clear hb
        generalize V1.alloc (.cells #[] 2) = V2 at *
        refine wpAnyH_ready (rs := [0]) (by kernel_rfl) (by simp) ?_
        refine AllReadyH.cons (ata at0) (fun K hK => ?_) ?_
        · go_simp
          refine hK.out _ _ (by exact HELD.out _ (Rg.next R.out ((Below.refl _ _).alloc (Nat.le_refl _) _)).hB) (fun hHeld => ?_)
          clear hK K
          try simp only [Act.put, List.setIfInBounds_toArray, List.set_cons_zero, List.set_cons_succ]
          have hb := (Below.refl V2.heap.size V2).alloc (Nat.le_refl _) (.cells #[] 2)
          have R := Lib.hid (Rg.next R.out hb)
          have hx := Lib.hid (box2_next hb hx.out)
          clear hb
          generalize V2.alloc (.cells #[] 2) = V3 at *
          refine wpAnyH_ready (rs := [3]) (by kernel_rfl) (by simp) ?_
          refine AllReadyH.cons (ata (atS (atS (atS at0)))) (fun K hK => ?_) ?_
          · refine step_append_copy rfl _ _ rfl _ rfl (.slice a1 n1 c1) at_ rfl (HI1.out _ R.out.hB) (by have := HLn.out.1; omega) ?_
            intro da na ca V4 hi hb
            have R := Lib.hid (Rg.put1 R.out hb hi)
            have hx := Lib.hid (box2_next hb hx.out)
            clear hb hi
            refine hK.out _ _ (by exact HELD.out _ R.out.hB) (fun hHeld => ?_)
            clear hK K
            try simp only [Act.put, List.setIfInBounds_toArray, List.set_cons_zero, List.set_cons_succ]
            refine wpAnyH_ready (rs := [7]) (by kernel_rfl) (by simp) ?_
            refine AllReadyH.cons (ata (atS (atS (atS (atS (atS (atS (atS at0)))))))) (fun K hK => ?_) ?_
            · refine step_append_copy rfl _ _ rfl _ rfl (.slice a2 n2 c2) m rfl (HI2.out _ R.out.hB) (by have := HLn.out.2; omega) ?_
              intro db nb cb V5 hi hb
              have R := Lib.hid (Rg.put2 R.out hb hi)
              have hx := Lib.hid (box2_next hb hx.out)
              clear hb hi
              refine hK.out _ _ (by exact HELD.out _ R.out.hB) (fun hHeld => ?_)
              clear hK K
              try simp only [Act.put, List.setIfInBounds_toArray, List.set_cons_zero, List.set_cons_succ]
              refine wpAnyH_take (i := 8) (v := ?_) (ata (atS (atS (atS (atS (atS (atS (atS (atS at0))))))))) (by kernel_rfl) (by kernel_rfl) (by kernel_rfl) (fun _ _ _ h => h) (Or.inl ⟨by rfl, ?_⟩) (by assumption) ?_
              rotate_left
              · (intro w hSw; (try dsimp only at hSw); go_simp; (first | done | with_reducible rfl))
              try simp only [Act.put, List.setIfInBounds_toArray, List.set_cons_zero, List.set_cons_succ]
              refine wpAnyH_ready (rs := [10]) (by kernel_rfl) (by simp) ?_
              refine AllReadyH.cons (ata (atS (atS (atS (atS (atS (atS (atS (atS (atS (atS at0))))))))))) (fun K hK => ?_) ?_
              · have q0 := hx.out.cell0
                have q1 := hx.out.cell1
                have f0 := hx.out.free 0
                have f1 := hx.out.free 1
                go_simp
                have R := Lib.hid (Rg.set2 R.out hx.out hge.out (a3 := da) (n3 := na) (c3 := ca) (a4 := db) (n4 := nb) (c4 := cb))
                have hx := Lib.hid (hx.out.set2 (.slice da na ca) (.slice db nb cb))
                clear q0 q1 f0 f1
                refine hK.out _ _ (by exact HELD.out _ R.out.hB) (fun hHeld => ?_)
                clear hK K
                try simp only [Act.put, List.setIfInBounds_toArray, List.set_cons_zero, List.set_cons_succ]
                refine wpAnyH_done (by kernel_rfl) ?_ _
                go_wp2_with fail
                go_meet
                exact ⟨_, _, _, rfl, hx.out, R.out.h1 _ rfl, R.out.h2 _ rfl, HS1.out.next R.out.hB⟩
              exact AllReadyH.nil
            exact AllReadyH.nil
          exact AllReadyH.nil
        exact AllReadyH.nil
      exact AllReadyH.nil
    exact AllReadyH.nil
  case rest =>
    obtain ⟨go, u1, u2, rfl, bO, i1, i2, Sc⟩ := hcut
    clear s0 s1 HS1 HS HG
    have s0 := Sc.bS.cell0
    have s1 := Sc.bS.cell1
    have t0 := Sc.bW.cell0
    have t1 := Sc.bW.cell1
    have t2 := Sc.bW.cell2
    have HSc := Lib.hid Sc
    have HO := Lib.hid (And.intro bO (And.intro i1 i2))
    have HSame : Hid ((same at_ at_ && same m m) = true) := by show _ = _; rw [same_self, same_self]; rfl
    clear Sc bO i1 i2
    obtain ⟨T0, hT0⟩ : ∃ T0, T0 = wc.heap.size := ⟨_, rfl⟩
    have HT := Lib.hid hT0
    clear hT0
    go_wp2_with fail
    refine (take_owns _ _ _ HSc.out.hP).mono ?_
    rintro e w2 ⟨ec, a1', p1, q1, a2', p2, q2, rfl, r1, r2, lp1, lp2, hb2⟩
    have S2 := HSc.out.next hb2
    have s0 := S2.bS.cell0
    have s1 := S2.bS.cell1
    have t0 := S2.bW.cell0
    have t1 := S2.bW.cell1
    have t2 := S2.bW.cell2
    have ls := S2.bS.lt
    have lw := S2.bW.lt
    have bA := Box2.new w2 24 (.slice a1' p1 q1) (.slice a2' p2 q2)
    have hba := (Below.refl w2.heap.size w2).alloc (Nat.le_refl _) (.cells #[.slice a1' p1 q1, .slice a2' p2 q2] 24)
    have HS2 := Lib.hid (S2.next hba)
    have HA := Lib.hid (And.intro bA (And.intro (r1.next hba) (And.intro (r2.next hba) (And.intro (hb2.trans (hba.mono hb2.size)) hb2.size))))
    clear r1 r2 hb2 S2 bA hba
    go_wp2_with fail
    refine (give_owns _ _ _ HS2.out.hP).mono ?_
    rintro e w3 ⟨ed, b1, m1, d1, b2, m2, d2, rfl, r3, r4, lm1, lm2, hb3⟩
    have bB := Box2.new w3 24 (.slice b1 m1 d1) (.slice b2 m2 d2)
    have hbb := (Below.refl w3.heap.size w3).alloc (Nat.le_refl _) (.cells #[.slice b1 m1 d1, .slice b2 m2 d2] 24)
    have hbz := hb3.trans (hbb.mono hb3.size)
    have HL0 : Hid (LW T0 wc w2.heap.size w3.heap.size a1' p1 q1 a2' p2 q2 b1 m1 d1 b2 m2 d2 (w3.alloc (.cells #[.slice b1 m1 d1, .slice b2 m2 d2] 24))) := by
      obtain ⟨bA, r1, r2, hB, z1⟩ := HA.out
      have := HT.out
      have z2 := hb3.size
      simp at z2 r3 r4
      subst this
      exact ⟨box2_next hbz bA, bB, r1.next hbz, r2.next hbz, r3.next hbb, r4.next hbb, by omega, by omega, hB.trans (hbz.mono hB.size)⟩
    clear r3 r4 hb3 bB hbb hbz HA
    go_wp2_with fail
    generalize w2.heap.size = ga at *
    generalize w3.heap.size = gb at *
    generalize w3.alloc (.cells #[.slice b1 m1 d1, .slice b2 m2 d2] 24) = w4 at *
    have HWc : Hid (Below wc.heap.size wc w4) := by
      have := HL0.out.hB
      rwa [HT.out] at this
    clear s0 s1 t0 t1 t2 ls lw
    go_loopw [10] (fun i wr => ∃ k : Nat, k ≤ p1 ∧ i = .int .i64 (k : Int) ∧ LW T0 wc ga gb a1' p1 q1 a2' p2 q2 b1 m1 d1 b2 m2 d2 wr) (fun i _ => p1 - (intOf i).toNat)
    case atStart => exact ⟨0, by omega, rfl, HL0.out⟩
    case round =>
      obtain ⟨k, hk, rfl, hL⟩ := hrel
      have x0 := hL.bA.cell0
      have x1 := hL.bA.cell1
      have HL := Lib.hid hL
      clear hL
      by_cases hlt : k < p1
      · by_cases hlt2 : k < p2
        · have hk0 : (0 : Int) ≤ (k : Int) := by omega
          have hk1 : (k : Int) < (p1 : Int) := by omega
          have hk2 : (k : Int) < (p2 : Int) := by omega
          obtain ⟨g1, e1, l1, u1⟩ := HL.out.r1.cell hlt
          obtain ⟨g2, e2, l2, u2⟩ := HL.out.r2.cell hlt2
          have f1 := HL.out.hg
          have f2 := HL.out.hT
          have ne1 : g1 ≠ ga := by omega
          have ne2 : g2 ≠ ga := by omega
          have ne3 : g1 ≠ gb := by omega
          have ne4 : g2 ≠ gb := by omega
          have ht1 : T0 ≤ g1 := by omega
          have ht2 : T0 ≤ g2 := by omega
          have HL2 := Lib.hid ((HL.out.drew.set ⟨g1, k, none⟩ (.int .i64 7) ht1 ne1 ne3).set ⟨g2, k, none⟩ (.int .i64 7) ht2 ne2 ne4)
          subst e1 e2
          obtain ⟨⟨z1, s1⟩, s2⟩ := HL.out.r1.there hlt
          obtain ⟨⟨z2, s3⟩, s4⟩ := HL.out.r2.there hlt2
          clear l1 u1 l2 u2 f1 f2 ht1 ht2 ne3 ne4
          by_cases hgg : g1 = g2
          · subst hgg
            clear s3 s4
            go_wp2
            go_region_held3 (fun W => W.cell? ⟨ga, 0, none⟩ = some (.slice (some ⟨g1, 0, none⟩) p1 q1) ∧ W.cell? ⟨ga, 1, none⟩ = some (.slice (some ⟨g1, 0, none⟩) p2 q2)) (go_keep) (fail)
            all_goals
              go_wp2
              go_roundw
              case rel => exact ⟨k + 1, by omega, by go_num, HL2.out⟩
              case measure => simp [intOf]; omega
          · go_wp2
            go_region_held3 (fun W => W.cell? ⟨ga, 0, none⟩ = some (.slice (some ⟨g1, 0, none⟩) p1 q1) ∧ W.cell? ⟨ga, 1, none⟩ = some (.slice (some ⟨g2, 0, none⟩) p2 q2)) (go_keep) (fail)
            all_goals
              go_wp2
              go_roundw
              case rel => exact ⟨k + 1, by omega, by go_num, HL2.out⟩
              case measure => simp [intOf]; omega
        · have hk1 : (k : Int) < (p1 : Int) := by omega
          have hk2 : ¬ (k : Int) < (p2 : Int) := by omega
          go_wp2
          have HLm := Lib.hid HL.out
          clear HL x0 x1 hk
          obtain ⟨WM, hWM⟩ : ∃ WM, WM = wr := ⟨_, rfl⟩
          rw [← hWM] at HLm ⊢
          clear hWM hlt
          go_loopw [11] (fun i wr => ∃ k : Nat, k ≤ m1 ∧ i = .int .i64 (k : Int) ∧ LW T0 wc ga gb a1' p1 q1 a2' p2 q2 b1 m1 d1 b2 m2 d2 wr) (fun i _ => m1 - (intOf i).toNat)
          case atStart => exact ⟨0, by omega, rfl, HLm.out⟩
          case round =>
            obtain ⟨k, hk, rfl, hL⟩ := hrel
            have x0 := hL.bB.cell0
            have x1 := hL.bB.cell1
            have HL := Lib.hid hL
            clear hL
            by_cases hlt : k < m1
            · by_cases hlt2 : k < m2
              · have hk0 : (0 : Int) ≤ (k : Int) := by omega
                have hk1 : (k : Int) < (m1 : Int) := by omega
                have hk2 : (k : Int) < (m2 : Int) := by omega
                obtain ⟨g1, e1, l1, u1⟩ := HL.out.r3.cell hlt
                obtain ⟨g2, e2, l2, u2⟩ := HL.out.r4.cell hlt2
                have f1 := HL.out.hg
                have f2 := HL.out.hT
                have ne1 : g1 ≠ ga := by omega
                have ne2 : g2 ≠ ga := by omega
                have ne3 : g1 ≠ gb := by omega
                have ne4 : g2 ≠ gb := by omega
                have ht1 : T0 ≤ g1 := by omega
                have ht2 : T0 ≤ g2 := by omega
                have HL2 := Lib.hid ((HL.out.drew.set ⟨g1, k, none⟩ (.int .i64 7) ht1 ne1 ne3).set ⟨g2, k, none⟩ (.int .i64 7) ht2 ne2 ne4)
                subst e1 e2
                obtain ⟨⟨z1, s1⟩, s2⟩ := HL.out.r3.there hlt
                obtain ⟨⟨z2, s3⟩, s4⟩ := HL.out.r4.there hlt2
                clear l1 u1 l2 u2 f1 f2 ht1 ht2 ne1 ne2
                by_cases hgg : g1 = g2
                · subst hgg
                  clear s3 s4
                  go_wp2
                  go_region_held3 (fun W => W.cell? ⟨gb, 0, none⟩ = some (.slice (some ⟨g1, 0, none⟩) m1 d1) ∧ W.cell? ⟨gb, 1, none⟩ = some (.slice (some ⟨g1, 0, none⟩) m2 d2)) (go_keep) (fail)
                  all_goals
                    go_wp2
                    go_roundw
                    case rel => exact ⟨k + 1, by omega, by go_num, HL2.out⟩
                    case measure => simp [intOf]; omega
                · go_wp2
                  go_region_held3 (fun W => W.cell? ⟨gb, 0, none⟩ = some (.slice (some ⟨g1, 0, none⟩) m1 d1) ∧ W.cell? ⟨gb, 1, none⟩ = some (.slice (some ⟨g2, 0, none⟩) m2 d2)) (go_keep) (fail)
                  all_goals
                    go_wp2
                    go_roundw
                    case rel => exact ⟨k + 1, by omega, by go_num, HL2.out⟩
                    case measure => simp [intOf]; omega
              · have hk1 : (k : Int) < (m1 : Int) := by omega
                have hk2 : ¬ (k : Int) < (m2 : Int) := by omega
                have hBw := HL.out.hB
                rw [HT.out] at hBw
                have S9 := HSc.out.next hBw
                have bO := box2_next hBw HO.out.1
                have s0 := S9.bS.cell0
                have s1 := S9.bS.cell1
                have y0 := bO.cell0
                have y1 := bO.cell1
                have HS9 := Lib.hid S9
                have HE := Lib.hid (dequal_any S9.hP ⟨u1, u2, rfl, HO.out.2.1.below hBw (Nat.le_refl _), HO.out.2.2.below hBw (Nat.le_refl _)⟩)
                clear S9 bO hBw
                go_wp2_with fail
                refine HE.out.mono ?_
                rintro e w9 ⟨rfl, hb9⟩
                rw [HSame.out]
                have HS10 := Lib.hid (HS9.out.next hb9)
                clear hb9
                go_wp2_with fail
                refine (head_any _).mono ?_
                rintro e w10 ⟨rfl, hb10⟩
                have HS11 := Lib.hid (HS10.out.next hb10)
                clear hb10
                go_wp2
                go_ret
                exact ⟨rfl, HS11.out.hB⟩
            · have hk1 : ¬ (k : Int) < (m1 : Int) := by omega
              have hBw := HL.out.hB
              rw [HT.out] at hBw
              have S9 := HSc.out.next hBw
              have bO := box2_next hBw HO.out.1
              have s0 := S9.bS.cell0
              have s1 := S9.bS.cell1
              have y0 := bO.cell0
              have y1 := bO.cell1
              have HS9 := Lib.hid S9
              have HE := Lib.hid (dequal_any S9.hP ⟨u1, u2, rfl, HO.out.2.1.below hBw (Nat.le_refl _), HO.out.2.2.below hBw (Nat.le_refl _)⟩)
              clear S9 bO hBw
              go_wp2_with fail
              refine HE.out.mono ?_
              rintro e w9 ⟨rfl, hb9⟩
              rw [HSame.out]
              have HS10 := Lib.hid (HS9.out.next hb9)
              clear hb9
              go_wp2_with fail
              refine (head_any _).mono ?_
              rintro e w10 ⟨rfl, hb10⟩
              have HS11 := Lib.hid (HS10.out.next hb10)
              clear hb10
              go_wp2
              go_ret
              exact ⟨rfl, HS11.out.hB⟩
      · have hk1 : ¬ (k : Int) < (p1 : Int) := by omega
        go_wp2
        have HLm := Lib.hid HL.out
        clear HL x0 x1 hk
        obtain ⟨WM, hWM⟩ : ∃ WM, WM = wr := ⟨_, rfl⟩
        rw [← hWM] at HLm ⊢
        clear hWM hlt
        go_loopw [11] (fun i wr => ∃ k : Nat, k ≤ m1 ∧ i = .int .i64 (k : Int) ∧ LW T0 wc ga gb a1' p1 q1 a2' p2 q2 b1 m1 d1 b2 m2 d2 wr) (fun i _ => m1 - (intOf i).toNat)
        case atStart => exact ⟨0, by omega, rfl, HLm.out⟩
        case round =>
          obtain ⟨k, hk, rfl, hL⟩ := hrel
          have x0 := hL.bB.cell0
          have x1 := hL.bB.cell1
          have HL := Lib.hid hL
          clear hL
          by_cases hlt : k < m1
          · by_cases hlt2 : k < m2
            · have hk0 : (0 : Int) ≤ (k : Int) := by omega
              have hk1 : (k : Int) < (m1 : Int) := by omega
              have hk2 : (k : Int) < (m2 : Int) := by omega
              obtain ⟨g1, e1, l1, u1⟩ := HL.out.r3.cell hlt
              obtain ⟨g2, e2, l2, u2⟩ := HL.out.r4.cell hlt2
              have f1 := HL.out.hg
              have f2 := HL.out.hT
              have ne1 : g1 ≠ ga := by omega
              have ne2 : g2 ≠ ga := by omega
              have ne3 : g1 ≠ gb := by omega
              have ne4 : g2 ≠ gb := by omega
              have ht1 : T0 ≤ g1 := by omega
              have ht2 : T0 ≤ g2 := by omega
              have HL2 := Lib.hid ((HL.out.drew.set ⟨g1, k, none⟩ (.int .i64 7) ht1 ne1 ne3).set ⟨g2, k, none⟩ (.int .i64 7) ht2 ne2 ne4)
              subst e1 e2
              obtain ⟨⟨z1, s1⟩, s2⟩ := HL.out.r3.there hlt
              obtain ⟨⟨z2, s3⟩, s4⟩ := HL.out.r4.there hlt2
              clear l1 u1 l2 u2 f1 f2 ht1 ht2 ne1 ne2
              by_cases hgg : g1 = g2
              · subst hgg
                clear s3 s4
                go_wp2
                go_region_held3 (fun W => W.cell? ⟨gb, 0, none⟩ = some (.slice (some ⟨g1, 0, none⟩) m1 d1) ∧ W.cell? ⟨gb, 1, none⟩ = some (.slice (some ⟨g1, 0, none⟩) m2 d2)) (go_keep) (fail)
                all_goals
                  go_wp2
                  go_roundw
                  case rel => exact ⟨k + 1, by omega, by go_num, HL2.out⟩
                  case measure => simp [intOf]; omega
              · go_wp2
                go_region_held3 (fun W => W.cell? ⟨gb, 0, none⟩ = some (.slice (some ⟨g1, 0, none⟩) m1 d1) ∧ W.cell? ⟨gb, 1, none⟩ = some (.slice (some ⟨g2, 0, none⟩) m2 d2)) (go_keep) (fail)
                all_goals
                  go_wp2
                  go_roundw
                  case rel => exact ⟨k + 1, by omega, by go_num, HL2.out⟩
                  case measure => simp [intOf]; omega
            · have hk1 : (k : Int) < (m1 : Int) := by omega
              have hk2 : ¬ (k : Int) < (m2 : Int) := by omega
              have hBw := HL.out.hB
              rw [HT.out] at hBw
              have S9 := HSc.out.next hBw
              have bO := box2_next hBw HO.out.1
              have s0 := S9.bS.cell0
              have s1 := S9.bS.cell1
              have y0 := bO.cell0
              have y1 := bO.cell1
              have HS9 := Lib.hid S9
              have HE := Lib.hid (dequal_any S9.hP ⟨u1, u2, rfl, HO.out.2.1.below hBw (Nat.le_refl _), HO.out.2.2.below hBw (Nat.le_refl _)⟩)
              clear S9 bO hBw
              go_wp2_with fail
              refine HE.out.mono ?_
              rintro e w9 ⟨rfl, hb9⟩
              rw [HSame.out]
              have HS10 := Lib.hid (HS9.out.next hb9)
              clear hb9
              go_wp2_with fail
              refine (head_any _).mono ?_
              rintro e w10 ⟨rfl, hb10⟩
              have HS11 := Lib.hid (HS10.out.next hb10)
              clear hb10
              go_wp2
              go_ret
              exact ⟨rfl, HS11.out.hB⟩
          · have hk1 : ¬ (k : Int) < (m1 : Int) := by omega
            have hBw := HL.out.hB
            rw [HT.out] at hBw
            have S9 := HSc.out.next hBw
            have bO := box2_next hBw HO.out.1
            have s0 := S9.bS.cell0
            have s1 := S9.bS.cell1
            have y0 := bO.cell0
            have y1 := bO.cell1
            have HS9 := Lib.hid S9
            have HE := Lib.hid (dequal_any S9.hP ⟨u1, u2, rfl, HO.out.2.1.below hBw (Nat.le_refl _), HO.out.2.2.below hBw (Nat.le_refl _)⟩)
            clear S9 bO hBw
            go_wp2_with fail
            refine HE.out.mono ?_
            rintro e w9 ⟨rfl, hb9⟩
            rw [HSame.out]
            have HS10 := Lib.hid (HS9.out.next hb9)
            clear hb9
            go_wp2_with fail
            refine (head_any _).mono ?_
            rintro e w10 ⟨rfl, hb10⟩
            have HS11 := Lib.hid (HS10.out.next hb10)
            clear hb10
            go_wp2
            go_ret
            exact ⟨rfl, HS11.out.hB⟩
end Go.Proofs.Ytoofogmlodfgmaa.gn
