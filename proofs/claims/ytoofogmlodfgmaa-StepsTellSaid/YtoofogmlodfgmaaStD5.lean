/- The document's Least: its contract. -/
import Derived.Test.YtoofogmlodfgmaaStD4
namespace Go.Proofs.Ytoofogmlodfgmaa.gn
open Go.RowKit Go.Shelf
open Go.Proofs.Ytoofogmlodfgmaa.sp

/-- The least one among the first k marks of a window. -/
def LeI (L : List (Int × Int)) (a b : Int) (ts : List Int) (k : Nat) (m : Int) : Prop :=
  (m = 1099511627776 ∨ ∃ t, a ≤ t ∧ t < b ∧ m = sp.val L t) ∧ (∀ t ∈ ts.take k, a ≤ t → t < b → m ≤ sp.val L t) ∧ m ≤ 1099511627776
theorem LeI.start (L : List (Int × Int)) (a b : Int) (ts : List Int) : LeI L a b ts 0 1099511627776 := ⟨.inl rfl, fun t ht => by simp at ht, Int.le_refl _⟩
theorem LeI.skip {L : List (Int × Int)} {a b : Int} {ts : List Int} {k : Nat} {m : Int} (h : LeI L a b ts k m) (hk : k < ts.length) (hno : a ≤ ts[k] → ts[k] < b → m ≤ sp.val L ts[k]) : LeI L a b ts (k + 1) m :=
  ⟨h.1, fun t ht h1 h2 => by
    rcases mem_take_succ hk ht with ht | rfl
    · exact h.2.1 t ht h1 h2
    · exact hno h1 h2, h.2.2⟩
theorem LeI.take {L : List (Int × Int)} {a b : Int} {ts : List Int} {k : Nat} {m : Int} (h : LeI L a b ts k m) (hk : k < ts.length) (h1 : a ≤ ts[k]) (h2 : ts[k] < b) (hlt : sp.val L ts[k] < m) : LeI L a b ts (k + 1) (sp.val L ts[k]) :=
  ⟨.inr ⟨_, h1, h2, rfl⟩, fun t ht h3 h4 => by
    rcases mem_take_succ hk ht with ht | rfl
    · have := h.2.1 t ht h3 h4; omega
    · exact Int.le_refl _, by have := h.2.2; omega⟩
theorem LeI.done {L : List (Int × Int)} {a b : Int} {ts : List Int} {m : Int} (h : LeI L a b ts ts.length m) (hM : Marks L a b ts) (hL : Ok L) (ha : Q a) : Least L a b m :=
  ⟨fun t h1 h2 => by
    obtain ⟨u, hu, _, _, e, e1, e2⟩ := hM.last hL (t := t) (by have := ha.1; omega)
    rw [← e]
    exact h.2.1 u (by rw [List.take_length]; exact hu) (e1.2 h1) (by omega), h.1, h.2.2⟩

/-- The cells of the marks. -/
theorem own_cells_any {W : World} {B : Nat} {d : Option Addr} {n c : Nat} {ts : List Int} (h : OwnI W B (.slice d n c) ts) (hl : ts.length ≤ maxLen) (h0 : 0 < ts.length) : ∃ b o, d = some ⟨b, o, none⟩ ∧ ∀ j (hj : j < ts.length), W.cell? ⟨b, o + j, none⟩ = some (.int .i64 ts[j]) := by
  obtain ⟨_, ad, cp, e, _, k⟩ := h.ints hl
  rcases k with k | ⟨b, o, rfl, k⟩
  · omega
  · simp at e
    exact ⟨b, o, e.1, k⟩

set_option maxHeartbeats 4000000 in
theorem dleast_any {w : World} {v : Value} {L : List (Int × Int)} {x y : Int} (h : Prof w v (L.map Prod.fst) (L.map Prod.snd)) (hL : Ok L) (hx : Q x) (hy : Q y) : Calls Try.prog 24 #[v, .int .i64 x, .int .i64 y] w (Tells (lst L x y) w) := by
  have HT := Lib.hid fun (W : World) (hW : Below w.heap.size w W) => times_any (h.below hW (Nat.le_refl _)) hL hx hy
  have HP := Lib.hid fun (W : World) (hW : Below w.heap.size w W) => h.below hW (Nat.le_refl _)
  obtain ⟨v1, v2, rfl, _, _⟩ := h
  have hls := lst_is hL hx hy
  have HLe := Lib.hid fun (m : Int) (h : Least L x y m) => h.uniq hls
  have HQ := Lib.hid (And.intro hL (And.intro hx hy))
  have hb0 : Below w.heap.size w (w.alloc (.cells #[v1, v2] 24)) := (Below.refl _ _).alloc (Nat.le_refl _) _
  have bS := Box2.new w 24 v1 v2
  have HB0 := Lib.hid hb0
  have HS := Lib.hid bS
  clear hL hx hy hls hb0 bS
  go_enter Try.func24, Try.ntmps24
  go_wp2_with fail
  refine (HT.out _ HB0.out).mono ?_
  rintro e w1 ⟨d, n, c, ts, rfl, hown, hM, hlen, hb1⟩
  have hLl := HQ.out.1.le
  have hmax : ts.length ≤ maxLen := by unfold maxLen; omega
  have hpos : 0 < ts.length := List.length_pos_of_mem hM.from_
  have hnl := hown.len
  obtain ⟨p, o, rfl, hcs⟩ := own_cells_any hown hmax hpos
  have HC := Lib.hid hcs
  have HM := Lib.hid hM
  have HN := Lib.hid hnl
  have HS1 := Lib.hid (box2_next hb1 HS.out)
  have HB1 := Lib.hid (HB0.out.trans (hb1.mono HB0.out.size))
  have hn : n ≤ 2002 := by omega
  clear hown hM hlen hb1 hLl hmax hpos hnl hcs HS HB0 HT
  go_wp2
  go_loopw [7, 9] (fun a i wr => ∃ (k : Nat) (m : Int), k ≤ n ∧ i = .int .i64 (k : Int) ∧ a = .int .i64 m ∧ LeI L x y ts k m ∧ Below w1.heap.size w1 wr) (fun _ i _ => n - (intOf i).toNat)
  case atStart => exact ⟨0, _, by omega, rfl, rfl, LeI.start _ _ _ _, Below.refl _ _⟩
  case round =>
    obtain ⟨k, m, hk, rfl, rfl, hI, hb⟩ := hrel
    have bS := box2_next hb HS1.out
    have s0 := bS.cell0
    have s1 := bS.cell1
    have HI := Lib.hid hI
    have HBr := Lib.hid (HB1.out.trans (hb.mono HB1.out.size))
    have HS2 := Lib.hid bS
    clear hI bS
    by_cases hlt : k < n
    · have j1 : k < ts.length := by rw [← HN.out]; exact hlt
      have g0 := HC.out k j1
      have g1 := (hb.cell (p := ⟨p, o + k, none⟩) (cell_lt g0)).trans g0
      have hk0 : (0 : Int) ≤ (k : Int) := by omega
      have hlt1 : (k : Int) < (n : Int) := by omega
      have hqt : Q ts[k] := HM.out.quant _ (List.getElem_mem j1)
      have hskip := fun h => HI.out.skip j1 h
      have htake := fun h1 h2 h3 => HI.out.take j1 h1 h2 h3
      have lp := cell_lt g1
      have lS := HS2.out.lt
      generalize ts[k] = t at *
      have HSk := Lib.hid hskip
      have HTk := Lib.hid htake
      have HQt := Lib.hid hqt
      have HBw := Lib.hid hb
      clear hskip htake hqt g0 j1 hb
      by_cases h1 : x ≤ t
      · have d1 := decide_eq_true h1
        by_cases h2 : t < y
        · have d2 := decide_eq_true h2
          have HIn := Lib.hid (And.intro h1 h2)
          clear h1 h2
          have HA := Lib.hid fun (W : World) (hW : Below w.heap.size w W) => dat_any (t := t) (HP.out W hW) HQ.out.1 HQt.out.1
          have hin := fun (hm : m ≤ sp.val L t) => HSk.out fun _ _ => hm
          have htk := fun (hm : sp.val L t < m) => HTk.out HIn.out.1 HIn.out.2 hm
          generalize sp.val L t = q at *
          have HSk' := Lib.hid hin
          have HTk' := Lib.hid htk
          clear hin htk
          have HBd := Lib.hid HBr.out.drew
          have HGd := Lib.hid (Below.refl wr.heap.size wr).drew
          by_cases hqm : q < m
          · have dq := decide_eq_true hqm
            have HF := Lib.hid (HTk'.out hqm)
            clear hqm
            go_wp2
            go_region_held3 (fun W => W.cell? ⟨w.heap.size, 0, none⟩ = some v1 ∧ W.cell? ⟨w.heap.size, 1, none⟩ = some v2 ∧ W.cell? ⟨p, o + k, none⟩ = some (.int .i64 t)) (go_keep)
              ((go_at_call 23; ((with_reducible refine (HA.out _ HBd.out).mono ?_); rintro e w2 ⟨rfl, hb2⟩; have hg2 := HGd.out.trans (hb2.mono HGd.out.size); have s0 := (box2_next hg2 HS2.out).cell0; have s1 := (box2_next hg2 HS2.out).cell1; have g2 := (hg2.cell (p := ⟨p, o + k, none⟩) lp).trans g1; have HG2 := Lib.hid hg2; clear hb2 hg2)))
            all_goals
              have HG2d := Lib.hid HG2.out.drew
              have HB2d := Lib.hid (HBr.out.trans (HG2d.out.mono HBr.out.size))
              go_wp2
              go_region_held3 (fun W => W.cell? ⟨w.heap.size, 0, none⟩ = some v1 ∧ W.cell? ⟨w.heap.size, 1, none⟩ = some v2 ∧ W.cell? ⟨p, o + k, none⟩ = some (.int .i64 t)) (go_keep)
                ((go_at_call 23; ((with_reducible refine (HA.out _ HB2d.out).mono ?_); rintro e w3 ⟨rfl, hb3⟩; have hg3 := HG2d.out.trans (hb3.mono HG2d.out.size); have s0 := (box2_next hg3 HS2.out).cell0; have s1 := (box2_next hg3 HS2.out).cell1; have g2 := (hg3.cell (p := ⟨p, o + k, none⟩) lp).trans g1; have HG3 := Lib.hid hg3; clear hb3 hg3)))
              all_goals
                go_wp2
                go_roundw
                case rel => exact ⟨k + 1, q, by omega, by go_num, rfl, HF.out, HBw.out.trans (HG3.out.mono HBw.out.size)⟩
                case measure => simp [intOf]; omega
          · have dq := decide_eq_false hqm
            have HF := Lib.hid (HSk'.out (by omega))
            clear hqm
            go_wp2
            go_region_held3 (fun W => W.cell? ⟨w.heap.size, 0, none⟩ = some v1 ∧ W.cell? ⟨w.heap.size, 1, none⟩ = some v2 ∧ W.cell? ⟨p, o + k, none⟩ = some (.int .i64 t)) (go_keep)
              ((go_at_call 23; ((with_reducible refine (HA.out _ HBd.out).mono ?_); rintro e w2 ⟨rfl, hb2⟩; have hg2 := HGd.out.trans (hb2.mono HGd.out.size); have s0 := (box2_next hg2 HS2.out).cell0; have s1 := (box2_next hg2 HS2.out).cell1; have g2 := (hg2.cell (p := ⟨p, o + k, none⟩) lp).trans g1; have HG2 := Lib.hid hg2; clear hb2 hg2)))
            all_goals
              go_wp2
              go_roundw
              case rel => exact ⟨k + 1, m, by omega, by go_num, rfl, HF.out, HBw.out.trans (HG2.out.mono HBw.out.size)⟩
              case measure => simp [intOf]; omega
        · have d2 := decide_eq_false h2
          have HF := Lib.hid (HSk.out fun _ h => absurd h h2)
          clear h1 h2
          go_wp2
          go_quiet (fail)
          go_wp2
          go_roundw
          case rel => exact ⟨k + 1, m, by omega, by go_num, rfl, HF.out, Below.drewN HBw.out⟩
          case measure => simp [intOf]; omega
      · have d1 := decide_eq_false h1
        have HF := Lib.hid (HSk.out fun h => absurd h h1)
        clear h1
        go_wp2
        go_quiet (fail)
        go_wp2
        go_roundw
        case rel => exact ⟨k + 1, m, by omega, by go_num, rfl, HF.out, Below.drewN HBw.out⟩
        case measure => simp [intOf]; omega
    · have HF : Hid (m = lst L x y) := HLe.out m (LeI.done (by rw [← HN.out, show n = k by omega]; exact HI.out) HM.out HQ.out.1 HQ.out.2.1)
      clear hb
      go_wp2
      go_ret
      exact ⟨ret_i64 HF.out, HBr.out⟩
end Go.Proofs.Ytoofogmlodfgmaa.gn
