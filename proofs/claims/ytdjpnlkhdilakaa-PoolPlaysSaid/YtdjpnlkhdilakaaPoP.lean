/- PoolPlays: the loop (written by gen_poP.py). -/
import Derived.Test.YtdjpnlkhdilakaaPoJ
import Derived.Test.YtdjpnlkhdilakaaPoO
set_option linter.unusedVariables false
set_option linter.unusedSimpArgs false
set_option maxRecDepth 100000
namespace Go.Proofs.Ytdjpnlkhdilakaa.gn
open Go.RowKit Go.Shelf Go.Sort Go.Lib
open Go.Proofs.Ytdjpnlkhdilakaa.ex
open Go.Proofs.Ytdjpnlkhdilakaa.po (Nm U less Pl)

attribute [local go_sem] Oper.semAt_some
attribute [local go_sem ↓] Go.wp_at_zero Go.wp_at_succ

theorem New_play {size grain quota : Int} (h : NOk size grain quota true) (hs : size ≤ 1000) (best : Bool) (w : World) : Calls Try.prog 16 #[.int .i64 size, .int .i64 grain, .int .i64 quota, .bool best] w fun e w' => ∃ va P, e = .returned (.tuple #[va, .int .i64 0]) ∧ PolV w' va P ∧ po.Iv P P [] [] ∧ P.size ≤ 1000 ∧ RowKit.Below w.heap.size w w' := by
  have hk : NOk size grain quota best := h.any
  refine (New_yes hk w).mono ?_
  rintro e w' ⟨va, he, hv, hb⟩
  refine ⟨va, _, he, hv, po.Iv.start hk.v rfl rfl ?_, ?_, hb⟩
  · have := hk.v.va
    have hz : po.sm (newP size grain quota best).uses = 0 := rfl
    omega
  · have h1 := Int.emod_nonneg size (b := grain) (by have := hk.g; omega)
    show size - size % grain ≤ 1000
    omega
/-- How the loop stands. -/
theorem RdA.at_ {w : World} {p : Option Addr} {c j : Nat} {L : List Ac} (h : RdA w (.slice p L.length c) L) (hj : j < L.length) :
    ∃ b off, p = some ⟨b, off, none⟩ ∧ b < w.heap.size ∧ w.cell? ⟨b, off + j * 3, none⟩ = some (.int .u8 (L[j]!.1 : Int)) ∧ w.cell? ⟨b, off + j * 3 + 1, none⟩ = some (.int .u8 (L[j]!.2.1 : Int)) ∧ w.cell? ⟨b, off + j * 3 + 2, none⟩ = some (.int .i64 L[j]!.2.2) ∧ L[j]!.1 < 256 ∧ L[j]!.2.1 < 256 := by
  rcases h with ⟨p', c', he, rfl⟩ | ⟨b, off, c2, he, hb, hc, hs⟩
  · simp at hj
  · simp only [Value.slice.injEq] at he
    have hm : L[j]! ∈ L := by rw [getElem!_pos L j hj]; exact List.getElem_mem hj
    exact ⟨b, off, he.1, hb, (hc j hj).1, (hc j hj).2.1, (hc j hj).2.2, (hs _ hm).1, (hs _ hm).2⟩
def GrC (wr : World) (Q : Pl) (T : List X) (s18 s19 s20 : Value) (wx : World) : Prop := ∃ b v6 v7 vt, s18 = .pointer (some ⟨b, 0, none⟩) ∧ s19 = vt ∧ s20 = .int .i64 0 ∧ wx.heap[b]? = some (boxP Q v6 v7) ∧ RdO 0 wr.heap.size wx v6 Q.free.length (fl Q.free) ∧ RdO 0 wr.heap.size wx v7 Q.uses.length (flU Q.uses) ∧ (∃ q c, v7 = .slice q Q.uses.length c ∧ Q.uses.length ≤ c) ∧ RdO 0 wr.heap.size wx vt T.length (fl T) ∧ RowKit.Below wr.heap.size wr wx
def RetC (wr : World) (Q : Pl) (s16 s17 : Value) (wx : World) : Prop := ∃ b v6 v7, s16 = .pointer (some ⟨b, 0, none⟩) ∧ s17 = .int .i64 0 ∧ wx.heap[b]? = some (boxP Q v6 v7) ∧ RdO 0 wr.heap.size wx v6 Q.free.length (fl Q.free) ∧ RdO 0 wr.heap.size wx v7 Q.uses.length (flU Q.uses) ∧ (∃ q c, v7 = .slice q Q.uses.length c ∧ Q.uses.length ≤ c) ∧ RowKit.Below wr.heap.size wr wx
def PR (w : World) (va : Value) (L : List Ac) (B C D : Nat) (f : Pl) (gf gu : Value) (i : Nat) (s11 s12 : Value) (wr : World) : Prop :=
  ∃ p vf vu rs out who, PS w.heap.size wr B C D f p vf vu gf gu s11 s12 rs out who ∧ po.Iv f p out who ∧ out.length ≤ i ∧ RowKit.Below w.heap.size w wr
/-- How the last loop stands. -/
def PE (w : World) (B C D : Nat) (f : Pl) (gf gu vo vs : Value) (rs : List Value) (out : List (List X)) (who : List Nm) (k : Nat) (wr : World) : Prop :=
  ∃ p vf vu, PS w.heap.size wr B C D f p vf vu gf gu vo vs rs out who ∧ po.Iv f p (out.drop k) (who.drop k) ∧ RowKit.Below w.heap.size w wr
theorem PS.start {N : Nat} {y : World} {p : Pl} {vf vu : Value} (hN : N ≤ y.heap.size) (hf : Rd y vf p.free) (hu : RdU y vu p.uses) :
    PS N (((y.alloc (boxP p vf vu)).alloc (boxP p vf vu)).alloc namesB) y.heap.size (y.heap.size + 1) (y.heap.size + 1 + 1) p p vf vu vf vu (.slice none 0 0) (.slice none 0 0) [] [] [] := by
  have hb : RowKit.Below y.heap.size y (((y.alloc (boxP p vf vu)).alloc (boxP p vf vu)).alloc namesB) := (((Below.refl _ y).alloc (Nat.le_refl _) _).alloc (by simp) _).alloc (by simp; omega) _
  have s1 : (y.alloc (boxP p vf vu)).heap.size = y.heap.size + 1 := by simp
  have s2 : ((y.alloc (boxP p vf vu)).alloc (boxP p vf vu)).heap.size = y.heap.size + 1 + 1 := by simp
  have hM : ∀ b, Mu y.heap.size (.slice none 0 0) (.slice none 0 0) b → y.heap.size ≤ b := fun b hb => by
    rcases hb with rfl | hb | hb
    · exact Nat.le_refl _
    · simp [Value.ownBlock] at hb
    · simp [Value.ownBlock] at hb
  have hr : ∀ {v n cs}, RdC y v n cs → RdF (Mu y.heap.size (.slice none 0 0) (.slice none 0 0)) (((y.alloc (boxP p vf vu)).alloc (boxP p vf vu)).alloc namesB) v n cs := fun k => (k.rdf hM).kept hb.size fun b hl _ => hb.block b hl
  have a1 := World.alloc_heap_new y (boxP p vf vu)
  have a2 := World.alloc_heap_new (y.alloc (boxP p vf vu)) (boxP p vf vu)
  have a3 := World.alloc_heap_new ((y.alloc (boxP p vf vu)).alloc (boxP p vf vu)) namesB
  rw [s1] at a2
  rw [s2] at a3
  have o1 := fun (o : Obj) (k : Nat) (hk : k < y.heap.size + 1) => heap_alloc_old (y.alloc (boxP p vf vu)) o k (by rw [s1]; exact hk)
  have o2 := fun (o : Obj) (k : Nat) (hk : k < y.heap.size + 1 + 1) => heap_alloc_old ((y.alloc (boxP p vf vu)).alloc (boxP p vf vu)) o k (by rw [s2]; exact hk)
  refine ⟨(o2 _ _ (by omega)).trans ((o1 _ _ (by omega)).trans a1), (o2 _ _ (by omega)).trans a2, a3, hN, by omega, by omega, by omega, by omega, by omega, World.ownsRow_nil _ _ _ _, World.ownsRow_nil _ _ _ _, fun b hb => by simp [Value.ownBlock] at hb, fun b hb => by simp [Value.ownBlock] at hb, hr hf.rdc, hr hu.1, hu.2, hr hf.rdc, hr hu.1, hu.2, fun i hi => by simp at hi⟩
set_option maxHeartbeats 4000000 in
theorem plays_ok {w : World} {va : Value} {L : List Ac} (hA : RdA w va L) (size grain quota : Int) (hok : NOk size grain quota true) (hs : size ≤ 1000) :
    Calls Try.prog 4 #[.agg #[.int .i64 size, .int .i64 grain, .int .i64 quota, va]] w (TellsB true w) := by
  obtain ⟨pa, ca, rfl⟩ := hA.len
  have mixed : Try.prog.follows .mixedOrders = true := by kernel_rfl
  have hb0 : RowKit.Below w.heap.size w (w.alloc (.cells #[.int .i64 size, .int .i64 grain, .int .i64 quota, .slice pa L.length ca] 44)) := (Below.refl _ w).alloc (Nat.le_refl _) _
  have hh := World.alloc_heap_new w (.cells #[.int .i64 size, .int .i64 grain, .int .i64 quota, .slice pa L.length ca] 44)
  have k0 : (w.alloc (.cells #[.int .i64 size, .int .i64 grain, .int .i64 quota, .slice pa L.length ca] 44)).cell? ⟨w.heap.size, 0, none⟩ = some (.int .i64 size) := cell_of_row _ _ 0 _ _ (0, 0) hh
  have k1 : (w.alloc (.cells #[.int .i64 size, .int .i64 grain, .int .i64 quota, .slice pa L.length ca] 44)).cell? ⟨w.heap.size, 1, none⟩ = some (.int .i64 grain) := cell_of_row _ _ 1 _ _ (0, 0) hh
  have k2 : (w.alloc (.cells #[.int .i64 size, .int .i64 grain, .int .i64 quota, .slice pa L.length ca] 44)).cell? ⟨w.heap.size, 2, none⟩ = some (.int .i64 quota) := cell_of_row _ _ 2 _ _ (0, 0) hh
  have k3 : (w.alloc (.cells #[.int .i64 size, .int .i64 grain, .int .i64 quota, .slice pa L.length ca] 44)).cell? ⟨w.heap.size, 3, none⟩ = some (.slice pa L.length ca) := cell_of_row _ _ 3 _ _ (0, 0) hh
  have Fa := hA.next hb0
  have lw : w.heap.size < (w.alloc (.cells #[.int .i64 size, .int .i64 grain, .int .i64 quota, .slice pa L.length ca] 44)).heap.size := by simp
  clear hh
  go_enter Try.func4, Try.ntmps4
  go_upto_region 1 with fail
  obtain ⟨w0, hw0⟩ : ∃ w0, w.alloc (.cells #[.int .i64 size, .int .i64 grain, .int .i64 quota, .slice pa L.length ca] 44) = w0 := ⟨_, rfl⟩
  rw [hw0] at hb0 k0 k1 k2 k3 Fa lw ⊢
  clear hw0
  go_quiet (fail)
  have HB : Hid (RowKit.Below w.heap.size w (w0.drewN nq)) := ⟨hb0.os, hb0.tape, hb0.output, hb0.size, hb0.block⟩
  replace Fa : RdA (w0.drewN nq) (.slice pa L.length ca) L := Fa.next ⟨rfl, rfl, rfl, Nat.le_refl _, fun _ _ => rfl⟩
  have lY : w.heap.size < (w0.drewN nq).heap.size := lw
  generalize w0.drewN nq = y0 at *
  clear hb0 k0 k1 k2 k3 lw
  go_wp2_with fail
  have hd : decide (1000 < size) = false := decide_eq_false (by omega)
  refine Calls.mono (New_play hok hs _ _) ?_
  rintro e z1 ⟨v0, P, rfl, hv, hIv, hP, hb⟩
  have hx1 : RowKit.Below y0.heap.size y0 z1 := by
    refine Below.trans ?_ (hb.mono ?_)
    · (first | exact Below.refl _ _ | exact (Below.refl _ _).alloc (by simp) _ | exact ((Below.refl _ _).alloc (by simp) _).alloc (by simp) _ | exact (((Below.refl _ _).alloc (by simp) _).alloc (by simp) _).alloc (by simp) _)
    · first | exact Nat.le_refl _ | (simp; done) | (simp; omega)
  replace Fa := Fa.next hx1
  replace HB := Lib.hid (HB.out.trans (hx1.mono HB.out.size))
  clear hb hx1
  obtain ⟨vf, vu, rfl, hf, hu⟩ := hv
  obtain ⟨af, cf, rfl⟩ := hf.len
  obtain ⟨au, cu, rfl, hcu⟩ := hu.2
  have hN : w.heap.size ≤ z1.heap.size := HB.out.size
  have hps := PS.start hN hf hu
  have hbz : RowKit.Below z1.heap.size z1 (((z1.alloc (.cells #[.int .i64 P.size, .int .i64 P.grain, .int .i64 P.quota, .bool P.drain, .bool P.best, .slice af P.free.length cf, .slice au P.uses.length cu] 25)).alloc (.cells #[.int .i64 P.size, .int .i64 P.grain, .int .i64 P.quota, .bool P.drain, .bool P.best, .slice af P.free.length cf, .slice au P.uses.length cu] 25)).alloc namesB) := (((Below.refl _ z1).alloc (Nat.le_refl _) _).alloc (by simp) _).alloc (by simp; omega) _
  replace Fa := Fa.next hbz
  replace HB := Lib.hid (HB.out.trans (hbz.mono HB.out.size))
  obtain ⟨B, hB⟩ : ∃ B, z1.heap.size = B := ⟨_, rfl⟩
  go_upto_region 10 with fail
  rw [hB] at hps
  obtain ⟨y, hy⟩ : ∃ y, ((z1.alloc (.cells #[.int .i64 P.size, .int .i64 P.grain, .int .i64 P.quota, .bool P.drain, .bool P.best, .slice af P.free.length cf, .slice au P.uses.length cu] 25)).alloc (.cells #[.int .i64 P.size, .int .i64 P.grain, .int .i64 P.quota, .bool P.drain, .bool P.best, .slice af P.free.length cf, .slice au P.uses.length cu] 25)).alloc (.cells #[.string ⟨#[97]⟩, .string ⟨#[98]⟩, .string ⟨#[99]⟩] 9) = y := ⟨_, rfl⟩
  have hps : PS w.heap.size y B (B + 1) (B + 1 + 1) P P (.slice af P.free.length cf) (.slice au P.uses.length cu) (.slice af P.free.length cf) (.slice au P.uses.length cu) (.slice none 0 0) (.slice none 0 0) [] [] [] := by rw [← hy]; exact hps
  have Fa : RdA y (.slice pa L.length ca) L := by rw [← hy]; exact Fa
  have HB : Hid (RowKit.Below w.heap.size w y) := by rw [← hy]; exact HB
  rw [hy]
  clear hy hB hN hf hu hcu hbz lY
  generalize hC : B + 1 = C at *
  generalize C + 1 = D at *
  clear hC hd hok hs
  have HS : Hid (PR w (.slice pa L.length ca) L B C D P (.slice af P.free.length cf) (.slice au P.uses.length cu) 0 (.slice none 0 0) (.slice none 0 0) y) := ⟨P, _, _, [], [], [], hps, hIv, Nat.le_refl _, HB.out⟩
  clear hps hIv HB Fa
  go_loopw [11, 12, 13] (fun s11 s12 s13 wr => ∃ i : Nat, s13 = .int .i64 i ∧ i ≤ 30 ∧ Aside (PR w (.slice pa L.length ca) L B C D P (.slice af P.free.length cf) (.slice au P.uses.length cu) i s11 s12 wr)) (fun _ _ s13 _ => 30 - (intOf s13).toNat)
  case atStart => exact ⟨0, rfl, by omega, HS.out⟩
  case round =>
    clear HS
    obtain ⟨i, rfl, hi, hPR⟩ := hrel
    obtain ⟨p, vf, vu, rs, out, who, ps, iv, ho, hb⟩ := hPR.out
    have fa := hA.next hb
    clear hPR
    by_cases hlt : i < L.length ∧ i < 30
    · have d1 : decide ((i : Int) < (L.length : Int)) = true := decide_eq_true (by omega)
      have d1' : decide (i < L.length) = true := decide_eq_true hlt.1
      have d2 : decide ((i : Int) < 30) = true := decide_eq_true (by omega)
      obtain ⟨bA, offA, rfl, hbA, e0, e1, e2, u0, u1⟩ := fa.at_ hlt.1
      generalize L[i]! = act at *
      obtain ⟨W0, U0, N0⟩ := act
      dsimp only at e0 e1 e2 u0 u1
      have hk3 : U0 % 3 < 3 := Nat.mod_lt _ (by omega)
      obtain ⟨u, hnm, en⟩ := ps.nm hk3
      have t3 : (U0 : Int).tmod 3 = ((U0 % 3 : Nat) : Int) := by rw [Int.tmod_eq_emod_of_nonneg (by omega)]; rfl
      have wU : IntKind.i64.wrap (U0 : Int) = (U0 : Int) := by rw [IntKind.wrap_i64]; omega
      generalize U0 % 3 = k3 at *
      have w3 : IntKind.i64.wrap (k3 : Int) = (k3 : Int) := by rw [IntKind.wrap_i64]; omega
      obtain ⟨su, hsu⟩ : ∃ su, str u = su := ⟨_, rfl⟩
      rw [hsu] at en
      obtain ⟨qo, co, rfl, hco⟩ := ps.lenO
      obtain ⟨qs, cs, rfl, hcs⟩ := ps.lenS
      have hw : ((W0 : Int) % 3 == 0) = false ∨ (((W0 : Int) % 3 == 0) = true ∧ out.length = 0) ∨ (((W0 : Int) % 3 == 0) = true ∧ 0 < out.length) := by
        cases h : ((W0 : Int) % 3 == 0) with
        | false => exact .inl rfl
        | true => exact .inr ((Nat.eq_zero_or_pos out.length).imp (fun k => ⟨rfl, k⟩) (fun k => ⟨rfl, k⟩))
      go_upto_region 13 with fail
      clear en
      obtain ⟨bb, hbb⟩ : ∃ bb : Bool, (((W0 : Int) % 3 == 0) && decide (0 < out.length)) = bb := ⟨_, rfl⟩
      go_cut [85] from 74 to 84 (fun s85 wx => s85 = .bool bb ∧ wr = wx)
      case first =>
        rcases hw with hw | ⟨hw, hw2⟩ | ⟨hw, hw2⟩
        · have HBB : Hid (bb = false) := by show _ = _; rw [← hbb, hw]; rfl
          clear hbb
          go_wp2_with fail
          go_meet
          case rel => exact ⟨by rw [HBB.out], rfl⟩
        · have HBB : Hid (bb = false) := by show _ = _; rw [← hbb, hw, hw2]; rfl
          have d3 : decide (0 < out.length) = false := decide_eq_false (by omega)
          have d3b : decide (0 < (out.length : Int)) = false := decide_eq_false (by omega)
          clear hbb hw2
          go_wp2_with fail
          go_meet
          case rel => exact ⟨by rw [HBB.out], rfl⟩
        · have HBB : Hid (bb = true) := by show _ = _; rw [← hbb, hw, decide_eq_true hw2]; rfl
          have d3 : decide (0 < out.length) = true := decide_eq_true hw2
          have d3b : decide (0 < (out.length : Int)) = true := decide_eq_true (by omega)
          clear hbb hw2
          go_wp2_with fail
          go_meet
          case rel => exact ⟨by rw [HBB.out], rfl⟩
      case rest =>
        obtain ⟨rfl, hwc⟩ := hcut
        subst hwc
        clear hw
        go_upto_if 85 with fail
        go_cut [11, 12] from 86 to 153 (fun s11 s12 wx => PR w (.slice (some ⟨bA, offA, none⟩) L.length ca) L B C D P (.slice af P.free.length cf) (.slice au P.uses.length cu) (i + 1) s11 s12 wx)
        case first =>
          cases bb with
          | false =>
            clear hbb
            by_cases hgr : po.gcode p u N0 = 0
            · go_upto_region 21 with fail
              have hG := po.gcode_ok.1 hgr
              obtain ⟨pf, qf, rfl⟩ := ps.rf.rdc.rd.len
              obtain ⟨pu, qu, rfl, hqu⟩ := ps.cu
              obtain ⟨f1, f2, f3⟩ := iv.few hP
              have ivQ := iv.grant hG
              have HPW : Hid (∀ W, RowKit.Below wr.heap.size wr W → PolW W (aggP p (.slice pf p.free.length qf) (.slice pu p.uses.length qu)) p) := fun W hb => ⟨(ps.next hb).pool, by omega, by omega⟩
              have HCG : Hid (∀ W, PolW W (aggP p (.slice pf p.free.length qf) (.slice pu p.uses.length qu)) p → Calls Try.prog 8 #[aggP p (.slice pf p.free.length qf) (.slice pu p.uses.length qu), .string su, .int .i64 N0] W fun e w' => ∃ va vt, e = .returned (.tuple #[va, vt, .int .i64 0]) ∧ PolN W.heap.size w' va (po.gP p u N0) ∧ RdN W.heap.size w' vt (po.gT p N0) ∧ RowKit.Below W.heap.size W w') := fun W h => by have := Grant_new h u N0 hG; rwa [hsu] at this
              clear hG hgr
              generalize po.gP p u N0 = Q at *
              generalize po.gT p N0 = T at *
              go_cut [18, 19, 20] from 131 to 142 (fun s18 s19 s20 wx => GrC wr Q T s18 s19 s20 wx)
              case first =>
                have KK : Hid (∀ W, RowKit.Below wr.heap.size wr W → (fun W => W.cell? ⟨B, 0, none⟩ = some (.int .i64 p.size) ∧ W.cell? ⟨B, 1, none⟩ = some (.int .i64 p.grain) ∧ W.cell? ⟨B, 2, none⟩ = some (.int .i64 p.quota) ∧ W.cell? ⟨B, 3, none⟩ = some (.bool p.drain) ∧ W.cell? ⟨B, 4, none⟩ = some (.bool p.best) ∧ W.cell? ⟨B, 5, none⟩ = some (.slice pf p.free.length qf) ∧ W.cell? ⟨B, 6, none⟩ = some (.slice pu p.uses.length qu) ∧ W.cell? ⟨bA, offA + i * 3 + 2, none⟩ = some (.int .i64 N0)) W) := fun W hb => ⟨cell_of_row W B 0 _ _ (0, 0) (ps.next hb).b7, cell_of_row W B 1 _ _ (0, 0) (ps.next hb).b7, cell_of_row W B 2 _ _ (0, 0) (ps.next hb).b7, cell_of_row W B 3 _ _ (0, 0) (ps.next hb).b7, cell_of_row W B 4 _ _ (0, 0) (ps.next hb).b7, cell_of_row W B 5 _ _ (0, 0) (ps.next hb).b7, cell_of_row W B 6 _ _ (0, 0) (ps.next hb).b7, (hb.cell (p := ⟨bA, offA + i * 3 + 2, none⟩) hbA).trans e2⟩
                have HY : Hid (RowKit.Below wr.heap.size wr wr.drew) := (Below.refl _ wr).drew
                refine wp_region_held_drew (S := (fun W => W.cell? ⟨B, 0, none⟩ = some (.int .i64 p.size) ∧ W.cell? ⟨B, 1, none⟩ = some (.int .i64 p.grain) ∧ W.cell? ⟨B, 2, none⟩ = some (.int .i64 p.quota) ∧ W.cell? ⟨B, 3, none⟩ = some (.bool p.drain) ∧ W.cell? ⟨B, 4, none⟩ = some (.bool p.best) ∧ W.cell? ⟨B, 5, none⟩ = some (.slice pf p.free.length qf) ∧ W.cell? ⟨B, 6, none⟩ = some (.slice pu p.uses.length qu) ∧ W.cell? ⟨bA, offA + i * 3 + 2, none⟩ = some (.int .i64 N0))) (by kernel_rfl) (by exact KK.out _ HY.out) (fun hHeld => ?_)
                refine wpAnyH_take (i := 0) (v := ?_) (ata at0) (by kernel_rfl) (by kernel_rfl) (by kernel_rfl) (fun _ _ _ h => h) (Or.inl ⟨by rfl, ?_⟩) (by assumption) ?_
                rotate_left
                · (intro w hSw; (try dsimp only at hSw); go_simp; (first | done | with_reducible rfl))
                try simp only [Act.put, List.setIfInBounds_toArray, List.set_cons_zero, List.set_cons_succ]
                refine wpAnyH_take (i := 1) (v := ?_) (ata (atS at0)) (by kernel_rfl) (by kernel_rfl) (by kernel_rfl) (fun _ _ _ h => h) (Or.inl ⟨by rfl, ?_⟩) (by assumption) ?_
                rotate_left
                · (intro w hSw; (try dsimp only at hSw); go_simp; (first | done | with_reducible rfl))
                try simp only [Act.put, List.setIfInBounds_toArray, List.set_cons_zero, List.set_cons_succ]
                refine wpAnyH_take (i := 2) (v := ?_) (ata (atS (atS at0))) (by kernel_rfl) (by kernel_rfl) (by kernel_rfl) (fun _ _ _ h => h) (Or.inl ⟨by rfl, ?_⟩) (by assumption) ?_
                rotate_left
                · (intro w hSw; (try dsimp only at hSw); go_simp; (first | done | with_reducible rfl))
                try simp only [Act.put, List.setIfInBounds_toArray, List.set_cons_zero, List.set_cons_succ]
                refine wpAnyH_take (i := 3) (v := ?_) (ata (atS (atS (atS at0)))) (by kernel_rfl) (by kernel_rfl) (by kernel_rfl) (fun _ _ _ h => h) (Or.inl ⟨by rfl, ?_⟩) (by assumption) ?_
                rotate_left
                · (intro w hSw; (try dsimp only at hSw); go_simp; (first | done | with_reducible rfl))
                try simp only [Act.put, List.setIfInBounds_toArray, List.set_cons_zero, List.set_cons_succ]
                refine wpAnyH_take (i := 4) (v := ?_) (ata (atS (atS (atS (atS at0))))) (by kernel_rfl) (by kernel_rfl) (by kernel_rfl) (fun _ _ _ h => h) (Or.inl ⟨by rfl, ?_⟩) (by assumption) ?_
                rotate_left
                · (intro w hSw; (try dsimp only at hSw); go_simp; (first | done | with_reducible rfl))
                try simp only [Act.put, List.setIfInBounds_toArray, List.set_cons_zero, List.set_cons_succ]
                refine wpAnyH_take (i := 5) (v := ?_) (ata (atS (atS (atS (atS (atS at0)))))) (by kernel_rfl) (by kernel_rfl) (by kernel_rfl) (fun _ _ _ h => h) (Or.inl ⟨by rfl, ?_⟩) (by assumption) ?_
                rotate_left
                · (intro w hSw; (try dsimp only at hSw); go_simp; (first | done | with_reducible rfl))
                try simp only [Act.put, List.setIfInBounds_toArray, List.set_cons_zero, List.set_cons_succ]
                refine wpAnyH_take (i := 6) (v := ?_) (ata (atS (atS (atS (atS (atS (atS at0))))))) (by kernel_rfl) (by kernel_rfl) (by kernel_rfl) (fun _ _ _ h => h) (Or.inl ⟨by rfl, ?_⟩) (by assumption) ?_
                rotate_left
                · (intro w hSw; (try dsimp only at hSw); go_simp; (first | done | with_reducible rfl))
                try simp only [Act.put, List.setIfInBounds_toArray, List.set_cons_zero, List.set_cons_succ]
                refine wpAnyH_ready (rs := [7, 12]) (by kernel_rfl) (by simp) ?_
                refine AllReadyH.cons (ata (atS (atS (atS (atS (atS (atS (atS at0)))))))) (fun K hK => ?_) (AllReadyH.cons (ata (atS (atS (atS (atS (atS (atS (atS (atS (atS (atS (atS (atS at0))))))))))))) (fun K hK => ?_) AllReadyH.nil)
                · go_simp
                  (go_at_call 8; (with_reducible refine (HCG.out _ (HPW.out _ HY.out)).mono ?_); rintro e w7 ⟨va, vt, rfl, ⟨v6, v7, rfl, r6, r7, q7, c7, rfl, hle7⟩, rT, hb1⟩; obtain ⟨p6, c6, e6⟩ := r6.rd.len; subst e6; obtain ⟨pT, cT, eT⟩ := rT.rd.len; subst eT; have hY := HY.out.trans (hb1.mono HY.out.size); have HR := Lib.hid (And.intro r6 (And.intro r7 (And.intro rT hle7))); have HY := Lib.hid hY; clear hY hb1 r6 r7 rT hle7)
                  go_wp2_with fail
                  refine hK.out _ _ (by exact KK.out _ HY.out) (fun hHeld => ?_)
                  clear hK K
                  try simp only [Act.put, List.setIfInBounds_toArray, List.set_cons_zero, List.set_cons_succ]
                  refine wpAnyH_take (i := 8) (v := ?_) (ata (atS (atS (atS (atS (atS (atS (atS (atS at0))))))))) (by kernel_rfl) (by kernel_rfl) (by kernel_rfl) (fun _ _ _ h => h) (Or.inl ⟨by rfl, ?_⟩) (by assumption) ?_
                  rotate_left
                  · (intro w hSw; (try dsimp only at hSw); go_simp; (first | done | with_reducible rfl))
                  try simp only [Act.put, List.setIfInBounds_toArray, List.set_cons_zero, List.set_cons_succ]
                  refine wpAnyH_take (i := 9) (v := ?_) (ata (atS (atS (atS (atS (atS (atS (atS (atS (atS at0)))))))))) (by kernel_rfl) (by kernel_rfl) (by kernel_rfl) (fun _ _ _ h => h) (Or.inl ⟨by rfl, ?_⟩) (by assumption) ?_
                  rotate_left
                  · (intro w hSw; (try dsimp only at hSw); go_simp; (first | done | with_reducible rfl))
                  try simp only [Act.put, List.setIfInBounds_toArray, List.set_cons_zero, List.set_cons_succ]
                  refine wpAnyH_take (i := 10) (v := ?_) (ata (atS (atS (atS (atS (atS (atS (atS (atS (atS (atS at0))))))))))) (by kernel_rfl) (by kernel_rfl) (by kernel_rfl) (fun _ _ _ h => h) (Or.inl ⟨by rfl, ?_⟩) (by assumption) ?_
                  rotate_left
                  · (intro w hSw; (try dsimp only at hSw); go_simp; (first | done | with_reducible rfl))
                  try simp only [Act.put, List.setIfInBounds_toArray, List.set_cons_zero, List.set_cons_succ]
                  refine wpAnyH_take (i := 11) (v := ?_) (ata (atS (atS (atS (atS (atS (atS (atS (atS (atS (atS (atS at0)))))))))))) (by kernel_rfl) (by kernel_rfl) (by kernel_rfl) (fun _ _ _ h => h) (Or.inl ⟨by rfl, ?_⟩) (by assumption) ?_
                  rotate_left
                  · (intro w hSw; (try dsimp only at hSw); go_simp; (first | done | with_reducible rfl))
                  try simp only [Act.put, List.setIfInBounds_toArray, List.set_cons_zero, List.set_cons_succ]
                  refine wpAnyH_ready (rs := [12]) (by kernel_rfl) (by simp) ?_
                  refine AllReadyH.cons (ata (atS (atS (atS (atS (atS (atS (atS (atS (atS (atS (atS (atS at0))))))))))))) (fun K hK => ?_) AllReadyH.nil
                  go_simp
                  refine hK.out _ _ (by exact KK.out _ (HY.out.alloc HY.out.size _)) (fun hHeld => ?_)
                  clear hK K
                  try simp only [Act.put, List.setIfInBounds_toArray, List.set_cons_zero, List.set_cons_succ]
                  have hBy : wr.heap.size ≤ w7.heap.size := HY.out.size
                  obtain ⟨ya, hya⟩ : ∃ y, World.alloc w7 (.cells #[.int .i64 0, .int .i64 0, .int .i64 0, .bool false, .bool false, .slice none 0 0, .slice none 0 0] 25) = y := ⟨_, rfl⟩
                  rw [hya]
                  have hYa : RowKit.Below wr.heap.size wr ya := by rw [← hya]; exact HY.out.alloc HY.out.size _
                  have HY := Lib.hid hYa
                  have HO : Hid (RowKit.Below w7.heap.size w7 ya) := by show RowKit.Below _ _ _; rw [← hya]; exact ((Below.refl _ w7).alloc (Nat.le_refl _) _)
                  have HZ : Hid (ya.heap[w7.heap.size]? = some (.cells #[.int .i64 0, .int .i64 0, .int .i64 0, .bool false, .bool false, .slice none 0 0, .slice none 0 0] 25 (0, 0))) := by show _ = _; rw [← hya]; exact World.alloc_heap_new w7 _
                  clear hya hYa
                  refine wpAnyH_ready (rs := [13]) (by kernel_rfl) (by simp) ?_
                  refine AllReadyH.cons (ata (atS (atS (atS (atS (atS (atS (atS (atS (atS (atS (atS (atS (atS at0)))))))))))))) (fun K hK => ?_) AllReadyH.nil
                  refine wp_store_row _ _ _ rfl w7.heap.size #[.int .i64 Q.size, .int .i64 Q.grain, .int .i64 Q.quota, .bool Q.drain, .bool Q.best, .slice p6 Q.free.length c6, .slice q7 Q.uses.length c7] rfl rfl 25 #[.int .i64 0, .int .i64 0, .int .i64 0, .bool false, .bool false, .slice none 0 0, .slice none 0 0] HZ.out (by kernel_rfl) rfl (by kernel_rfl) ?_
                  refine hK.out _ _ (by exact KK.out _ (below_setRow HY.out hBy _)) (fun hHeld => ?_)
                  clear hK K
                  try simp only [Act.put, List.setIfInBounds_toArray, List.set_cons_zero, List.set_cons_succ]
                  refine wpAnyH_take (i := 14) (v := ?_) (ata (atS (atS (atS (atS (atS (atS (atS (atS (atS (atS (atS (atS (atS (atS at0))))))))))))))) (by kernel_rfl) (by kernel_rfl) (by kernel_rfl) (fun _ _ _ h => h) (Or.inl ⟨by rfl, ?_⟩) (by assumption) ?_
                  rotate_left
                  · (intro w hSw; (try dsimp only at hSw); go_simp; (first | done | with_reducible rfl))
                  try simp only [Act.put, List.setIfInBounds_toArray, List.set_cons_zero, List.set_cons_succ]
                  refine wpAnyH_take (i := 15) (v := ?_) (ata (atS (atS (atS (atS (atS (atS (atS (atS (atS (atS (atS (atS (atS (atS (atS at0)))))))))))))))) (by kernel_rfl) (by kernel_rfl) (by kernel_rfl) (fun _ _ _ h => h) (Or.inl ⟨by rfl, ?_⟩) (by assumption) ?_
                  rotate_left
                  · (intro w hSw; (try dsimp only at hSw); go_simp; (first | done | with_reducible rfl))
                  try simp only [Act.put, List.setIfInBounds_toArray, List.set_cons_zero, List.set_cons_succ]
                  refine wpAnyH_done (by kernel_rfl) ?_ _
                  have hYf := below_setRow HY.out hBy #[.int .i64 Q.size, .int .i64 Q.grain, .int .i64 Q.quota, .bool Q.drain, .bool Q.best, .slice p6 Q.free.length c6, .slice q7 Q.uses.length c7]
                  have hWf := below_setRow HO.out (Nat.le_refl _) #[.int .i64 Q.size, .int .i64 Q.grain, .int .i64 Q.quota, .bool Q.drain, .bool Q.best, .slice p6 Q.free.length c6, .slice q7 Q.uses.length c7]
                  obtain ⟨r6, r7, rT, hle7⟩ := HR.out
                  go_wp2
                  go_meet
                  case rel => exact ⟨w7.heap.size, _, _, _, rfl, rfl, rfl, setRow_heap _ _ _ _ _ (0, 0) HZ.out, (RdO.next r6 hWf), (r7.next hWf), ⟨_, _, rfl, hle7⟩, (RdO.next rT hWf), hYf⟩
                · go_simp
                  refine hK.out _ _ (by exact KK.out _ (HY.out.alloc HY.out.size _)) (fun hHeld => ?_)
                  clear hK K
                  try simp only [Act.put, List.setIfInBounds_toArray, List.set_cons_zero, List.set_cons_succ]
                  have hBy : wr.heap.size ≤ wr.heap.size := Nat.le_refl _
                  obtain ⟨ya, hya⟩ : ∃ y, World.drew (World.alloc wr (.cells #[.int .i64 0, .int .i64 0, .int .i64 0, .bool false, .bool false, .slice none 0 0, .slice none 0 0] 25)) = y := ⟨_, rfl⟩
                  rw [hya]
                  have hYa : RowKit.Below wr.heap.size wr ya := by rw [← hya]; exact ((Below.refl _ wr).alloc (Nat.le_refl _) _).drew
                  have HY := Lib.hid hYa
                  have HO : Hid (RowKit.Below wr.heap.size wr ya) := by show RowKit.Below _ _ _; rw [← hya]; exact ((Below.refl _ wr).alloc (Nat.le_refl _) _).drew
                  have HZ : Hid (ya.heap[wr.heap.size]? = some (.cells #[.int .i64 0, .int .i64 0, .int .i64 0, .bool false, .bool false, .slice none 0 0, .slice none 0 0] 25 (0, 0))) := by show _ = _; rw [← hya]; exact World.alloc_heap_new wr _
                  clear hya hYa
                  refine wpAnyH_ready (rs := [7]) (by kernel_rfl) (by simp) ?_
                  refine AllReadyH.cons (ata (atS (atS (atS (atS (atS (atS (atS at0)))))))) (fun K hK => ?_) AllReadyH.nil
                  go_simp
                  (go_at_call 8; (with_reducible refine (HCG.out _ (HPW.out _ HY.out)).mono ?_); rintro e w7 ⟨va, vt, rfl, ⟨v6, v7, rfl, r6, r7, q7, c7, rfl, hle7⟩, rT, hb1⟩; obtain ⟨p6, c6, e6⟩ := r6.rd.len; subst e6; obtain ⟨pT, cT, eT⟩ := rT.rd.len; subst eT; have HYA : Hid (wr.heap.size < ya.heap.size) := (Array.getElem?_eq_some_iff.1 HZ.out).1; have hZ := (hb1.block wr.heap.size HYA.out).trans HZ.out; have HZ := Lib.hid hZ; clear hZ; have hY := HY.out.trans (hb1.mono HY.out.size); have HR := Lib.hid (And.intro r6 (And.intro r7 (And.intro rT hle7))); have HY := Lib.hid hY; clear hY hb1 r6 r7 rT hle7)
                  go_wp2_with fail
                  refine hK.out _ _ (by exact KK.out _ HY.out) (fun hHeld => ?_)
                  clear hK K
                  try simp only [Act.put, List.setIfInBounds_toArray, List.set_cons_zero, List.set_cons_succ]
                  refine wpAnyH_take (i := 8) (v := ?_) (ata (atS (atS (atS (atS (atS (atS (atS (atS at0))))))))) (by kernel_rfl) (by kernel_rfl) (by kernel_rfl) (fun _ _ _ h => h) (Or.inl ⟨by rfl, ?_⟩) (by assumption) ?_
                  rotate_left
                  · (intro w hSw; (try dsimp only at hSw); go_simp; (first | done | with_reducible rfl))
                  try simp only [Act.put, List.setIfInBounds_toArray, List.set_cons_zero, List.set_cons_succ]
                  refine wpAnyH_take (i := 9) (v := ?_) (ata (atS (atS (atS (atS (atS (atS (atS (atS (atS at0)))))))))) (by kernel_rfl) (by kernel_rfl) (by kernel_rfl) (fun _ _ _ h => h) (Or.inl ⟨by rfl, ?_⟩) (by assumption) ?_
                  rotate_left
                  · (intro w hSw; (try dsimp only at hSw); go_simp; (first | done | with_reducible rfl))
                  try simp only [Act.put, List.setIfInBounds_toArray, List.set_cons_zero, List.set_cons_succ]
                  refine wpAnyH_take (i := 10) (v := ?_) (ata (atS (atS (atS (atS (atS (atS (atS (atS (atS (atS at0))))))))))) (by kernel_rfl) (by kernel_rfl) (by kernel_rfl) (fun _ _ _ h => h) (Or.inl ⟨by rfl, ?_⟩) (by assumption) ?_
                  rotate_left
                  · (intro w hSw; (try dsimp only at hSw); go_simp; (first | done | with_reducible rfl))
                  try simp only [Act.put, List.setIfInBounds_toArray, List.set_cons_zero, List.set_cons_succ]
                  refine wpAnyH_take (i := 11) (v := ?_) (ata (atS (atS (atS (atS (atS (atS (atS (atS (atS (atS (atS at0)))))))))))) (by kernel_rfl) (by kernel_rfl) (by kernel_rfl) (fun _ _ _ h => h) (Or.inl ⟨by rfl, ?_⟩) (by assumption) ?_
                  rotate_left
                  · (intro w hSw; (try dsimp only at hSw); go_simp; (first | done | with_reducible rfl))
                  try simp only [Act.put, List.setIfInBounds_toArray, List.set_cons_zero, List.set_cons_succ]
                  refine wpAnyH_ready (rs := [13]) (by kernel_rfl) (by simp) ?_
                  refine AllReadyH.cons (ata (atS (atS (atS (atS (atS (atS (atS (atS (atS (atS (atS (atS (atS at0)))))))))))))) (fun K hK => ?_) AllReadyH.nil
                  refine wp_store_row _ _ _ rfl wr.heap.size #[.int .i64 Q.size, .int .i64 Q.grain, .int .i64 Q.quota, .bool Q.drain, .bool Q.best, .slice p6 Q.free.length c6, .slice q7 Q.uses.length c7] rfl rfl 25 #[.int .i64 0, .int .i64 0, .int .i64 0, .bool false, .bool false, .slice none 0 0, .slice none 0 0] HZ.out (by kernel_rfl) rfl (by kernel_rfl) ?_
                  refine hK.out _ _ (by exact KK.out _ (below_setRow HY.out hBy _)) (fun hHeld => ?_)
                  clear hK K
                  try simp only [Act.put, List.setIfInBounds_toArray, List.set_cons_zero, List.set_cons_succ]
                  refine wpAnyH_take (i := 14) (v := ?_) (ata (atS (atS (atS (atS (atS (atS (atS (atS (atS (atS (atS (atS (atS (atS at0))))))))))))))) (by kernel_rfl) (by kernel_rfl) (by kernel_rfl) (fun _ _ _ h => h) (Or.inl ⟨by rfl, ?_⟩) (by assumption) ?_
                  rotate_left
                  · (intro w hSw; (try dsimp only at hSw); go_simp; (first | done | with_reducible rfl))
                  try simp only [Act.put, List.setIfInBounds_toArray, List.set_cons_zero, List.set_cons_succ]
                  refine wpAnyH_take (i := 15) (v := ?_) (ata (atS (atS (atS (atS (atS (atS (atS (atS (atS (atS (atS (atS (atS (atS (atS at0)))))))))))))))) (by kernel_rfl) (by kernel_rfl) (by kernel_rfl) (fun _ _ _ h => h) (Or.inl ⟨by rfl, ?_⟩) (by assumption) ?_
                  rotate_left
                  · (intro w hSw; (try dsimp only at hSw); go_simp; (first | done | with_reducible rfl))
                  try simp only [Act.put, List.setIfInBounds_toArray, List.set_cons_zero, List.set_cons_succ]
                  refine wpAnyH_done (by kernel_rfl) ?_ _
                  have hYf := below_setRow HY.out hBy #[.int .i64 Q.size, .int .i64 Q.grain, .int .i64 Q.quota, .bool Q.drain, .bool Q.best, .slice p6 Q.free.length c6, .slice q7 Q.uses.length c7]
                  obtain ⟨r6, r7, rT, hle7⟩ := HR.out
                  have hsm : Same 0 ya.heap.size w7 (w7.setRow wr.heap.size #[.int .i64 Q.size, .int .i64 Q.grain, .int .i64 Q.quota, .bool Q.drain, .bool Q.best, .slice p6 Q.free.length c6, .slice q7 Q.uses.length c7]) := Same.row _ _ _ (Nat.zero_le _) HYA.out
                  have hya2 := HYA.out
                  go_wp2
                  go_meet
                  case rel => exact ⟨wr.heap.size, _, _, _, rfl, rfl, rfl, setRow_heap _ _ _ _ _ (0, 0) HZ.out, ((RdO.same r6 hsm).sub (Nat.le_refl _) (by omega)), ((r7.same hsm).sub (Nat.le_refl _) (by omega)), ⟨_, _, rfl, hle7⟩, ((RdO.same rT hsm).sub (Nat.le_refl _) (by omega)), hYf⟩
              case rest =>
                obtain ⟨b8, v6, v7, vt, rfl, rfl, rfl, hx, r6, r7, q7, rT, hbw⟩ := hcut
                clear HPW HCG e2
                have ps2 := ps.next hbw
                have r6 := ps.fresh r6
                have r7 := ps.fresh r7
                have rT := ps.fresh rT
                obtain ⟨p6, c6, rfl⟩ := r6.rdc.rd.len
                obtain ⟨p7, c7, rfl, hle7⟩ := q7
                obtain ⟨pT, cT, rfl⟩ := rT.rdc.rd.len
                have y0 := cell_of_row wc b8 0 _ _ (0, 0) hx; have y1 := cell_of_row wc b8 1 _ _ (0, 0) hx; have y2 := cell_of_row wc b8 2 _ _ (0, 0) hx; have y3 := cell_of_row wc b8 3 _ _ (0, 0) hx; have y4 := cell_of_row wc b8 4 _ _ (0, 0) hx; have y5 := cell_of_row wc b8 5 _ _ (0, 0) hx; have y6 := cell_of_row wc b8 6 _ _ (0, 0) hx
                have ps3 := ps2.store (q := Q) r6 r7 ⟨p7, c7, rfl, hle7⟩
                have rT3 := ps2.kept rT #[.int .i64 Q.size, .int .i64 Q.grain, .int .i64 Q.quota, .bool Q.drain, .bool Q.best, .slice p6 Q.free.length c6, .slice p7 Q.uses.length c7]
                have hb3 := hb.trans (hbw.mono hb.size)
                have hb3 := below_setRow hb3 ps.n7 #[.int .i64 Q.size, .int .i64 Q.grain, .int .i64 Q.quota, .bool Q.drain, .bool Q.best, .slice p6 Q.free.length c6, .slice p7 Q.uses.length c7]
                have HP2 := Lib.hid ps2
                have HP3 := Lib.hid (And.intro ps3 (And.intro rT3 hb3))
                have hlo : out.length ≤ 29 := by omega
                have hlw : who.length ≤ 29 := by have := iv.ln; omega
                clear ps2 ps3 rT3 hb3 r6 r7 rT ps hb
                go_upto_region 24 with (refine wpList_store_row rfl _ _ _ rfl B #[.int .i64 Q.size, .int .i64 Q.grain, .int .i64 Q.quota, .bool Q.drain, .bool Q.best, .slice p6 Q.free.length c6, .slice p7 Q.uses.length c7] rfl rfl 25 #[.int .i64 p.size, .int .i64 p.grain, .int .i64 p.quota, .bool p.drain, .bool p.best, .slice pf p.free.length qf, .slice pu p.uses.length qu] HP2.out.b7 (by kernel_rfl) rfl (by kernel_rfl) ?_)
                obtain ⟨w3, hw3⟩ : ∃ w3, wc.setRow B #[.int .i64 Q.size, .int .i64 Q.grain, .int .i64 Q.quota, .bool Q.drain, .bool Q.best, .slice p6 Q.free.length c6, .slice p7 Q.uses.length c7] = w3 := ⟨_, rfl⟩
                rw [hw3] at HP3 ⊢
                clear hw3 HP2 y0 y1 y2 y3 y4 y5 y6
                go_wp2_with (first | (at_builtin; refine wpl_own eltR rfl _ _ rfl (base := w.heap.size) (n := out.length) (cs := rs) (u := .slice pT T.length cT) (v := .slice qo out.length co) rfl HP3.out.1.so rfl rfl (by omega) (by decide) (HP3.out.2.2.size) ?_; intro p4 c4 w4 h4 hg4 hv4; have hp4 := (HP3.out.1.next (below_box _ _)).push (HP3.out.2.1.next (below_box _ _)) h4 hg4 hv4; have hb4 := (HP3.out.2.2.alloc HP3.out.2.2.size _).grown hg4 (by have := HP3.out.2.2.size; simp; omega) fun k hk => (World.ownsRow.lt HP3.out.1.so k hk).1; have HP4 := Lib.hid (And.intro hp4 hb4); clear h4 hg4 hv4 hp4 hb4) | (at_builtin; refine wpl_own eltN rfl _ _ rfl (base := w.heap.size) (n := who.length) (cs := who.map fun u => .string (str u)) (u := .string su) (v := .slice qs who.length cs) rfl HP4.out.1.ss rfl rfl (by omega) (by decide) (HP4.out.2.size) ?_; intro p5 c5 w5 h5 hg5 hv5; rw [← hsu] at h5; have hp5 := (HP4.out.1.next (below_box _ _)).name h5 hg5 hv5; have hb5 := (HP4.out.2.alloc HP4.out.2.size _).grown hg5 (by have := HP4.out.2.size; simp; omega) fun k hk => (World.ownsRow.lt HP4.out.1.ss k hk).1; have HP5 := Lib.hid (And.intro hp5 hb5); clear h5 hg5 hv5 hp5 hb5))
                go_meet
                case rel => exact ⟨Q, _, _, _, _, _, HP5.out.1, ivQ, by simp; omega, HP5.out.2⟩
            · go_upto_region 21 with fail
              obtain ⟨pf, qf, rfl⟩ := ps.rf.rdc.rd.len
              obtain ⟨pu, qu, rfl, hqu⟩ := ps.cu
              obtain ⟨f1, f2, f3⟩ := iv.few hP
              have HPW : Hid (∀ W, RowKit.Below wr.heap.size wr W → PolW W (aggP p (.slice pf p.free.length qf) (.slice pu p.uses.length qu)) p) := fun W hb => ⟨(ps.next hb).pool, by omega, by omega⟩
              obtain ⟨jj, hjj⟩ : ∃ jj, po.gcode p u N0 = jj := ⟨_, rfl⟩
              have HCG : Hid (∀ W, PolW W (aggP p (.slice pf p.free.length qf) (.slice pu p.uses.length qu)) p → Calls Try.prog 8 #[aggP p (.slice pf p.free.length qf) (.slice pu p.uses.length qu), .string su, .int .i64 N0] W (FailsG jj W)) := fun W h => by have := Grant_no h u N0 hgr; rwa [hsu, hjj] at this
              rw [hjj] at hgr
              have hj0 : (jj == 0) = false := beq_eq_false_iff_ne.2 hgr
              clear hgr hjj
              have KK : Hid (∀ W, RowKit.Below wr.heap.size wr W → (fun W => W.cell? ⟨B, 0, none⟩ = some (.int .i64 p.size) ∧ W.cell? ⟨B, 1, none⟩ = some (.int .i64 p.grain) ∧ W.cell? ⟨B, 2, none⟩ = some (.int .i64 p.quota) ∧ W.cell? ⟨B, 3, none⟩ = some (.bool p.drain) ∧ W.cell? ⟨B, 4, none⟩ = some (.bool p.best) ∧ W.cell? ⟨B, 5, none⟩ = some (.slice pf p.free.length qf) ∧ W.cell? ⟨B, 6, none⟩ = some (.slice pu p.uses.length qu) ∧ W.cell? ⟨bA, offA + i * 3 + 2, none⟩ = some (.int .i64 N0)) W) := fun W hb => ⟨cell_of_row W B 0 _ _ (0, 0) (ps.next hb).b7, cell_of_row W B 1 _ _ (0, 0) (ps.next hb).b7, cell_of_row W B 2 _ _ (0, 0) (ps.next hb).b7, cell_of_row W B 3 _ _ (0, 0) (ps.next hb).b7, cell_of_row W B 4 _ _ (0, 0) (ps.next hb).b7, cell_of_row W B 5 _ _ (0, 0) (ps.next hb).b7, cell_of_row W B 6 _ _ (0, 0) (ps.next hb).b7, (hb.cell (p := ⟨bA, offA + i * 3 + 2, none⟩) hbA).trans e2⟩
              have HY : Hid (RowKit.Below wr.heap.size wr wr.drew) := (Below.refl _ wr).drew
              refine wp_region_held_drew (S := (fun W => W.cell? ⟨B, 0, none⟩ = some (.int .i64 p.size) ∧ W.cell? ⟨B, 1, none⟩ = some (.int .i64 p.grain) ∧ W.cell? ⟨B, 2, none⟩ = some (.int .i64 p.quota) ∧ W.cell? ⟨B, 3, none⟩ = some (.bool p.drain) ∧ W.cell? ⟨B, 4, none⟩ = some (.bool p.best) ∧ W.cell? ⟨B, 5, none⟩ = some (.slice pf p.free.length qf) ∧ W.cell? ⟨B, 6, none⟩ = some (.slice pu p.uses.length qu) ∧ W.cell? ⟨bA, offA + i * 3 + 2, none⟩ = some (.int .i64 N0))) (by kernel_rfl) (by exact KK.out _ HY.out) (fun hHeld => ?_)
              refine wpAnyH_take (i := 0) (v := ?_) (ata at0) (by kernel_rfl) (by kernel_rfl) (by kernel_rfl) (fun _ _ _ h => h) (Or.inl ⟨by rfl, ?_⟩) (by assumption) ?_
              rotate_left
              · (intro w hSw; (try dsimp only at hSw); go_simp; (first | done | with_reducible rfl))
              try simp only [Act.put, List.setIfInBounds_toArray, List.set_cons_zero, List.set_cons_succ]
              refine wpAnyH_take (i := 1) (v := ?_) (ata (atS at0)) (by kernel_rfl) (by kernel_rfl) (by kernel_rfl) (fun _ _ _ h => h) (Or.inl ⟨by rfl, ?_⟩) (by assumption) ?_
              rotate_left
              · (intro w hSw; (try dsimp only at hSw); go_simp; (first | done | with_reducible rfl))
              try simp only [Act.put, List.setIfInBounds_toArray, List.set_cons_zero, List.set_cons_succ]
              refine wpAnyH_take (i := 2) (v := ?_) (ata (atS (atS at0))) (by kernel_rfl) (by kernel_rfl) (by kernel_rfl) (fun _ _ _ h => h) (Or.inl ⟨by rfl, ?_⟩) (by assumption) ?_
              rotate_left
              · (intro w hSw; (try dsimp only at hSw); go_simp; (first | done | with_reducible rfl))
              try simp only [Act.put, List.setIfInBounds_toArray, List.set_cons_zero, List.set_cons_succ]
              refine wpAnyH_take (i := 3) (v := ?_) (ata (atS (atS (atS at0)))) (by kernel_rfl) (by kernel_rfl) (by kernel_rfl) (fun _ _ _ h => h) (Or.inl ⟨by rfl, ?_⟩) (by assumption) ?_
              rotate_left
              · (intro w hSw; (try dsimp only at hSw); go_simp; (first | done | with_reducible rfl))
              try simp only [Act.put, List.setIfInBounds_toArray, List.set_cons_zero, List.set_cons_succ]
              refine wpAnyH_take (i := 4) (v := ?_) (ata (atS (atS (atS (atS at0))))) (by kernel_rfl) (by kernel_rfl) (by kernel_rfl) (fun _ _ _ h => h) (Or.inl ⟨by rfl, ?_⟩) (by assumption) ?_
              rotate_left
              · (intro w hSw; (try dsimp only at hSw); go_simp; (first | done | with_reducible rfl))
              try simp only [Act.put, List.setIfInBounds_toArray, List.set_cons_zero, List.set_cons_succ]
              refine wpAnyH_take (i := 5) (v := ?_) (ata (atS (atS (atS (atS (atS at0)))))) (by kernel_rfl) (by kernel_rfl) (by kernel_rfl) (fun _ _ _ h => h) (Or.inl ⟨by rfl, ?_⟩) (by assumption) ?_
              rotate_left
              · (intro w hSw; (try dsimp only at hSw); go_simp; (first | done | with_reducible rfl))
              try simp only [Act.put, List.setIfInBounds_toArray, List.set_cons_zero, List.set_cons_succ]
              refine wpAnyH_take (i := 6) (v := ?_) (ata (atS (atS (atS (atS (atS (atS at0))))))) (by kernel_rfl) (by kernel_rfl) (by kernel_rfl) (fun _ _ _ h => h) (Or.inl ⟨by rfl, ?_⟩) (by assumption) ?_
              rotate_left
              · (intro w hSw; (try dsimp only at hSw); go_simp; (first | done | with_reducible rfl))
              try simp only [Act.put, List.setIfInBounds_toArray, List.set_cons_zero, List.set_cons_succ]
              refine wpAnyH_ready (rs := [7, 12]) (by kernel_rfl) (by simp) ?_
              refine AllReadyH.cons (ata (atS (atS (atS (atS (atS (atS (atS at0)))))))) (fun K hK => ?_) (AllReadyH.cons (ata (atS (atS (atS (atS (atS (atS (atS (atS (atS (atS (atS (atS at0))))))))))))) (fun K hK => ?_) AllReadyH.nil)
              · go_simp
                (go_at_call 8; (with_reducible refine (HCG.out _ (HPW.out _ HY.out)).mono ?_); rintro e w7 ⟨rfl, hb1⟩; have hY := HY.out.trans (hb1.mono HY.out.size); have HY := Lib.hid hY; clear hY hb1)
                go_wp2_with fail
                refine hK.out _ _ (by exact KK.out _ HY.out) (fun hHeld => ?_)
                clear hK K
                try simp only [Act.put, List.setIfInBounds_toArray, List.set_cons_zero, List.set_cons_succ]
                refine wpAnyH_take (i := 8) (v := ?_) (ata (atS (atS (atS (atS (atS (atS (atS (atS at0))))))))) (by kernel_rfl) (by kernel_rfl) (by kernel_rfl) (fun _ _ _ h => h) (Or.inl ⟨by rfl, ?_⟩) (by assumption) ?_
                rotate_left
                · (intro w hSw; (try dsimp only at hSw); go_simp; (first | done | with_reducible rfl))
                try simp only [Act.put, List.setIfInBounds_toArray, List.set_cons_zero, List.set_cons_succ]
                refine wpAnyH_take (i := 9) (v := ?_) (ata (atS (atS (atS (atS (atS (atS (atS (atS (atS at0)))))))))) (by kernel_rfl) (by kernel_rfl) (by kernel_rfl) (fun _ _ _ h => h) (Or.inl ⟨by rfl, ?_⟩) (by assumption) ?_
                rotate_left
                · (intro w hSw; (try dsimp only at hSw); go_simp; (first | done | with_reducible rfl))
                try simp only [Act.put, List.setIfInBounds_toArray, List.set_cons_zero, List.set_cons_succ]
                refine wpAnyH_take (i := 10) (v := ?_) (ata (atS (atS (atS (atS (atS (atS (atS (atS (atS (atS at0))))))))))) (by kernel_rfl) (by kernel_rfl) (by kernel_rfl) (fun _ _ _ h => h) (Or.inl ⟨by rfl, ?_⟩) (by assumption) ?_
                rotate_left
                · (intro w hSw; (try dsimp only at hSw); go_simp; (first | done | with_reducible rfl))
                try simp only [Act.put, List.setIfInBounds_toArray, List.set_cons_zero, List.set_cons_succ]
                refine wpAnyH_take (i := 11) (v := ?_) (ata (atS (atS (atS (atS (atS (atS (atS (atS (atS (atS (atS at0)))))))))))) (by kernel_rfl) (by kernel_rfl) (by kernel_rfl) (fun _ _ _ h => h) (Or.inl ⟨by rfl, ?_⟩) (by assumption) ?_
                rotate_left
                · (intro w hSw; (try dsimp only at hSw); go_simp; (first | done | with_reducible rfl))
                try simp only [Act.put, List.setIfInBounds_toArray, List.set_cons_zero, List.set_cons_succ]
                refine wpAnyH_ready (rs := [12]) (by kernel_rfl) (by simp) ?_
                refine AllReadyH.cons (ata (atS (atS (atS (atS (atS (atS (atS (atS (atS (atS (atS (atS at0))))))))))))) (fun K hK => ?_) AllReadyH.nil
                go_simp
                refine hK.out _ _ (by exact KK.out _ (HY.out.alloc HY.out.size _)) (fun hHeld => ?_)
                clear hK K
                try simp only [Act.put, List.setIfInBounds_toArray, List.set_cons_zero, List.set_cons_succ]
                have hBy : wr.heap.size ≤ w7.heap.size := HY.out.size
                obtain ⟨ya, hya⟩ : ∃ y, World.alloc w7 (.cells #[.int .i64 0, .int .i64 0, .int .i64 0, .bool false, .bool false, .slice none 0 0, .slice none 0 0] 25) = y := ⟨_, rfl⟩
                rw [hya]
                have hYa : RowKit.Below wr.heap.size wr ya := by rw [← hya]; exact HY.out.alloc HY.out.size _
                have HY := Lib.hid hYa
                have HO : Hid (RowKit.Below w7.heap.size w7 ya) := by show RowKit.Below _ _ _; rw [← hya]; exact ((Below.refl _ w7).alloc (Nat.le_refl _) _)
                have HZ : Hid (ya.heap[w7.heap.size]? = some (.cells #[.int .i64 0, .int .i64 0, .int .i64 0, .bool false, .bool false, .slice none 0 0, .slice none 0 0] 25 (0, 0))) := by show _ = _; rw [← hya]; exact World.alloc_heap_new w7 _
                clear hya hYa
                refine wpAnyH_ready (rs := [13]) (by kernel_rfl) (by simp) ?_
                refine AllReadyH.cons (ata (atS (atS (atS (atS (atS (atS (atS (atS (atS (atS (atS (atS (atS at0)))))))))))))) (fun K hK => ?_) AllReadyH.nil
                refine wp_store_row _ _ _ rfl w7.heap.size #[.int .i64 0, .int .i64 0, .int .i64 0, .bool false, .bool false, .slice none 0 0, .slice none 0 0] rfl rfl 25 #[.int .i64 0, .int .i64 0, .int .i64 0, .bool false, .bool false, .slice none 0 0, .slice none 0 0] HZ.out (by kernel_rfl) rfl (by kernel_rfl) ?_
                refine hK.out _ _ (by exact KK.out _ (below_setRow HY.out hBy _)) (fun hHeld => ?_)
                clear hK K
                try simp only [Act.put, List.setIfInBounds_toArray, List.set_cons_zero, List.set_cons_succ]
                refine wpAnyH_take (i := 14) (v := ?_) (ata (atS (atS (atS (atS (atS (atS (atS (atS (atS (atS (atS (atS (atS (atS at0))))))))))))))) (by kernel_rfl) (by kernel_rfl) (by kernel_rfl) (fun _ _ _ h => h) (Or.inl ⟨by rfl, ?_⟩) (by assumption) ?_
                rotate_left
                · (intro w hSw; (try dsimp only at hSw); go_simp; (first | done | with_reducible rfl))
                try simp only [Act.put, List.setIfInBounds_toArray, List.set_cons_zero, List.set_cons_succ]
                refine wpAnyH_take (i := 15) (v := ?_) (ata (atS (atS (atS (atS (atS (atS (atS (atS (atS (atS (atS (atS (atS (atS (atS at0)))))))))))))))) (by kernel_rfl) (by kernel_rfl) (by kernel_rfl) (fun _ _ _ h => h) (Or.inl ⟨by rfl, ?_⟩) (by assumption) ?_
                rotate_left
                · (intro w hSw; (try dsimp only at hSw); go_simp; (first | done | with_reducible rfl))
                try simp only [Act.put, List.setIfInBounds_toArray, List.set_cons_zero, List.set_cons_succ]
                refine wpAnyH_done (by kernel_rfl) ?_ _
                have hYf := below_setRow HY.out hBy #[.int .i64 0, .int .i64 0, .int .i64 0, .bool false, .bool false, .slice none 0 0, .slice none 0 0]
                go_wp2
                go_roundw
                case rel => exact ⟨i + 1, by go_num, by omega, p, _, _, rs, out, who, ps.next hYf, iv, by omega, hb.trans (hYf.mono hb.size)⟩
                case measure => simp [intOf]; omega
              · go_simp
                refine hK.out _ _ (by exact KK.out _ (HY.out.alloc HY.out.size _)) (fun hHeld => ?_)
                clear hK K
                try simp only [Act.put, List.setIfInBounds_toArray, List.set_cons_zero, List.set_cons_succ]
                have hBy : wr.heap.size ≤ wr.heap.size := Nat.le_refl _
                obtain ⟨ya, hya⟩ : ∃ y, World.drew (World.alloc wr (.cells #[.int .i64 0, .int .i64 0, .int .i64 0, .bool false, .bool false, .slice none 0 0, .slice none 0 0] 25)) = y := ⟨_, rfl⟩
                rw [hya]
                have hYa : RowKit.Below wr.heap.size wr ya := by rw [← hya]; exact ((Below.refl _ wr).alloc (Nat.le_refl _) _).drew
                have HY := Lib.hid hYa
                have HO : Hid (RowKit.Below wr.heap.size wr ya) := by show RowKit.Below _ _ _; rw [← hya]; exact ((Below.refl _ wr).alloc (Nat.le_refl _) _).drew
                have HZ : Hid (ya.heap[wr.heap.size]? = some (.cells #[.int .i64 0, .int .i64 0, .int .i64 0, .bool false, .bool false, .slice none 0 0, .slice none 0 0] 25 (0, 0))) := by show _ = _; rw [← hya]; exact World.alloc_heap_new wr _
                clear hya hYa
                refine wpAnyH_ready (rs := [7]) (by kernel_rfl) (by simp) ?_
                refine AllReadyH.cons (ata (atS (atS (atS (atS (atS (atS (atS at0)))))))) (fun K hK => ?_) AllReadyH.nil
                go_simp
                (go_at_call 8; (with_reducible refine (HCG.out _ (HPW.out _ HY.out)).mono ?_); rintro e w7 ⟨rfl, hb1⟩; have HYA : Hid (wr.heap.size < ya.heap.size) := (Array.getElem?_eq_some_iff.1 HZ.out).1; have hZ := (hb1.block wr.heap.size HYA.out).trans HZ.out; have HZ := Lib.hid hZ; clear hZ; have hY := HY.out.trans (hb1.mono HY.out.size); have HY := Lib.hid hY; clear hY hb1)
                go_wp2_with fail
                refine hK.out _ _ (by exact KK.out _ HY.out) (fun hHeld => ?_)
                clear hK K
                try simp only [Act.put, List.setIfInBounds_toArray, List.set_cons_zero, List.set_cons_succ]
                refine wpAnyH_take (i := 8) (v := ?_) (ata (atS (atS (atS (atS (atS (atS (atS (atS at0))))))))) (by kernel_rfl) (by kernel_rfl) (by kernel_rfl) (fun _ _ _ h => h) (Or.inl ⟨by rfl, ?_⟩) (by assumption) ?_
                rotate_left
                · (intro w hSw; (try dsimp only at hSw); go_simp; (first | done | with_reducible rfl))
                try simp only [Act.put, List.setIfInBounds_toArray, List.set_cons_zero, List.set_cons_succ]
                refine wpAnyH_take (i := 9) (v := ?_) (ata (atS (atS (atS (atS (atS (atS (atS (atS (atS at0)))))))))) (by kernel_rfl) (by kernel_rfl) (by kernel_rfl) (fun _ _ _ h => h) (Or.inl ⟨by rfl, ?_⟩) (by assumption) ?_
                rotate_left
                · (intro w hSw; (try dsimp only at hSw); go_simp; (first | done | with_reducible rfl))
                try simp only [Act.put, List.setIfInBounds_toArray, List.set_cons_zero, List.set_cons_succ]
                refine wpAnyH_take (i := 10) (v := ?_) (ata (atS (atS (atS (atS (atS (atS (atS (atS (atS (atS at0))))))))))) (by kernel_rfl) (by kernel_rfl) (by kernel_rfl) (fun _ _ _ h => h) (Or.inl ⟨by rfl, ?_⟩) (by assumption) ?_
                rotate_left
                · (intro w hSw; (try dsimp only at hSw); go_simp; (first | done | with_reducible rfl))
                try simp only [Act.put, List.setIfInBounds_toArray, List.set_cons_zero, List.set_cons_succ]
                refine wpAnyH_take (i := 11) (v := ?_) (ata (atS (atS (atS (atS (atS (atS (atS (atS (atS (atS (atS at0)))))))))))) (by kernel_rfl) (by kernel_rfl) (by kernel_rfl) (fun _ _ _ h => h) (Or.inl ⟨by rfl, ?_⟩) (by assumption) ?_
                rotate_left
                · (intro w hSw; (try dsimp only at hSw); go_simp; (first | done | with_reducible rfl))
                try simp only [Act.put, List.setIfInBounds_toArray, List.set_cons_zero, List.set_cons_succ]
                refine wpAnyH_ready (rs := [13]) (by kernel_rfl) (by simp) ?_
                refine AllReadyH.cons (ata (atS (atS (atS (atS (atS (atS (atS (atS (atS (atS (atS (atS (atS at0)))))))))))))) (fun K hK => ?_) AllReadyH.nil
                refine wp_store_row _ _ _ rfl wr.heap.size #[.int .i64 0, .int .i64 0, .int .i64 0, .bool false, .bool false, .slice none 0 0, .slice none 0 0] rfl rfl 25 #[.int .i64 0, .int .i64 0, .int .i64 0, .bool false, .bool false, .slice none 0 0, .slice none 0 0] HZ.out (by kernel_rfl) rfl (by kernel_rfl) ?_
                refine hK.out _ _ (by exact KK.out _ (below_setRow HY.out hBy _)) (fun hHeld => ?_)
                clear hK K
                try simp only [Act.put, List.setIfInBounds_toArray, List.set_cons_zero, List.set_cons_succ]
                refine wpAnyH_take (i := 14) (v := ?_) (ata (atS (atS (atS (atS (atS (atS (atS (atS (atS (atS (atS (atS (atS (atS at0))))))))))))))) (by kernel_rfl) (by kernel_rfl) (by kernel_rfl) (fun _ _ _ h => h) (Or.inl ⟨by rfl, ?_⟩) (by assumption) ?_
                rotate_left
                · (intro w hSw; (try dsimp only at hSw); go_simp; (first | done | with_reducible rfl))
                try simp only [Act.put, List.setIfInBounds_toArray, List.set_cons_zero, List.set_cons_succ]
                refine wpAnyH_take (i := 15) (v := ?_) (ata (atS (atS (atS (atS (atS (atS (atS (atS (atS (atS (atS (atS (atS (atS (atS at0)))))))))))))))) (by kernel_rfl) (by kernel_rfl) (by kernel_rfl) (fun _ _ _ h => h) (Or.inl ⟨by rfl, ?_⟩) (by assumption) ?_
                rotate_left
                · (intro w hSw; (try dsimp only at hSw); go_simp; (first | done | with_reducible rfl))
                try simp only [Act.put, List.setIfInBounds_toArray, List.set_cons_zero, List.set_cons_succ]
                refine wpAnyH_done (by kernel_rfl) ?_ _
                have hYf := below_setRow HY.out hBy #[.int .i64 0, .int .i64 0, .int .i64 0, .bool false, .bool false, .slice none 0 0, .slice none 0 0]
                go_wp2
                go_roundw
                case rel => exact ⟨i + 1, by go_num, by omega, p, _, _, rs, out, who, ps.next hYf, iv, by omega, hb.trans (hYf.mono hb.size)⟩
                case measure => simp [intOf]; omega
          | true =>
            have h0 : 0 < out.length := of_decide_eq_true (Bool.and_eq_true_iff.1 hbb).2
            clear hbb
            have hk : U0 % out.length < out.length := Nat.mod_lt _ h0
            have t4 : (U0 : Int).tmod (out.length : Int) = ((U0 % out.length : Nat) : Int) := by rw [Int.tmod_eq_emod_of_nonneg (by omega)]; rfl
            have t4b : (U0 : Int) % (out.length : Int) = ((U0 % out.length : Nat) : Int) := rfl
            have nz : ((out.length : Int) == 0) = false := beq_eq_false_iff_ne.2 (by omega)
            generalize U0 % out.length = k at *
            have w4 : IntKind.i64.wrap (k : Int) = (k : Int) := by rw [IntKind.wrap_i64]; omega
            have HLN := Lib.hid iv.ln
            obtain ⟨hr, ivQ⟩ := iv.at_ hP hk
            go_upto_region 15 with fail
            clear t4 t4b nz e0 e1 e2
            obtain ⟨pf, qf, rfl⟩ := ps.rf.rdc.rd.len
            obtain ⟨pu, qu, rfl, hqu⟩ := ps.cu
            obtain ⟨f1, f2, f3⟩ := iv.few hP
            have hkw : k < who.length := by have := HLN.out; omega
            obtain ⟨gw, cw, ew, hlew, hcw⟩ := ps.who_at hkw
            obtain ⟨go, cgo, eo, hleo, hco3⟩ := ps.out_at hk
            simp only [Value.slice.injEq] at ew eo
            obtain ⟨rfl, _, rfl⟩ := ew
            obtain ⟨rfl, _, rfl⟩ := eo
            have hrow := ps.row hk
            obtain ⟨pr, cr, er⟩ := hrow.len
            rw [er] at hrow hco3
            have hlw : gw < wr.heap.size := cell_lt hcw
            have hlg : go < wr.heap.size := cell_lt hco3
            have HPW : Hid (∀ W, RowKit.Below wr.heap.size wr W → PolW W (aggP p (.slice pf p.free.length qf) (.slice pu p.uses.length qu)) p) := fun W hb => ⟨(ps.next hb).pool, by omega, by omega⟩
            have HRW : Hid (∀ W, RowKit.Below wr.heap.size wr W → Rd W (.slice pr out[k]!.length cr) out[k]!) := fun W hb => hrow.next hb
            obtain ⟨ro, hro⟩ : ∃ ro, out[k]! = ro := ⟨_, rfl⟩
            obtain ⟨uo, huo⟩ : ∃ uo, who[k]! = uo := ⟨_, rfl⟩
            rw [huo] at hcw hr ivQ
            rw [hro] at hco3 hr ivQ HRW
            obtain ⟨so, hso⟩ : ∃ so, str uo = so := ⟨_, rfl⟩
            rw [hso] at hcw
            have HCR : Hid (∀ W, PolW W (aggP p (.slice pf p.free.length qf) (.slice pu p.uses.length qu)) p → Rd W (.slice pr ro.length cr) ro → Calls Try.prog 15 #[aggP p (.slice pf p.free.length qf) (.slice pu p.uses.length qu), .string so, .slice pr ro.length cr] W fun e w' => ∃ va, e = .returned (.tuple #[va, .int .i64 0]) ∧ PolN W.heap.size w' va (po.rP p uo ro) ∧ RowKit.Below W.heap.size W w') := fun W h h2 => by have := Return_new h uo h2 hr; rwa [hso] at this
            clear hr hrow er hro huo hso hleo hlew
            generalize po.rP p uo ro = Q at *
            go_cut [16, 17] from 95 to 107 (fun s16 s17 wx => RetC wr Q s16 s17 wx)
            case first =>
              have KK : Hid (∀ W, RowKit.Below wr.heap.size wr W → (fun W => W.cell? ⟨B, 0, none⟩ = some (.int .i64 p.size) ∧ W.cell? ⟨B, 1, none⟩ = some (.int .i64 p.grain) ∧ W.cell? ⟨B, 2, none⟩ = some (.int .i64 p.quota) ∧ W.cell? ⟨B, 3, none⟩ = some (.bool p.drain) ∧ W.cell? ⟨B, 4, none⟩ = some (.bool p.best) ∧ W.cell? ⟨B, 5, none⟩ = some (.slice pf p.free.length qf) ∧ W.cell? ⟨B, 6, none⟩ = some (.slice pu p.uses.length qu) ∧ W.cell? ⟨gw, k, none⟩ = some (.string so) ∧ W.cell? ⟨go, k, none⟩ = some (.slice pr ro.length cr)) W) := fun W hb => ⟨cell_of_row W B 0 _ _ (0, 0) (ps.next hb).b7, cell_of_row W B 1 _ _ (0, 0) (ps.next hb).b7, cell_of_row W B 2 _ _ (0, 0) (ps.next hb).b7, cell_of_row W B 3 _ _ (0, 0) (ps.next hb).b7, cell_of_row W B 4 _ _ (0, 0) (ps.next hb).b7, cell_of_row W B 5 _ _ (0, 0) (ps.next hb).b7, cell_of_row W B 6 _ _ (0, 0) (ps.next hb).b7, (hb.cell (p := ⟨gw, k, none⟩) hlw).trans hcw, (hb.cell (p := ⟨go, k, none⟩) hlg).trans hco3⟩
              have HY : Hid (RowKit.Below wr.heap.size wr wr.drew) := (Below.refl _ wr).drew
              refine wp_region_held_drew (S := (fun W => W.cell? ⟨B, 0, none⟩ = some (.int .i64 p.size) ∧ W.cell? ⟨B, 1, none⟩ = some (.int .i64 p.grain) ∧ W.cell? ⟨B, 2, none⟩ = some (.int .i64 p.quota) ∧ W.cell? ⟨B, 3, none⟩ = some (.bool p.drain) ∧ W.cell? ⟨B, 4, none⟩ = some (.bool p.best) ∧ W.cell? ⟨B, 5, none⟩ = some (.slice pf p.free.length qf) ∧ W.cell? ⟨B, 6, none⟩ = some (.slice pu p.uses.length qu) ∧ W.cell? ⟨gw, k, none⟩ = some (.string so) ∧ W.cell? ⟨go, k, none⟩ = some (.slice pr ro.length cr))) (by kernel_rfl) (by exact KK.out _ HY.out) (fun hHeld => ?_)
              refine wpAnyH_take (i := 0) (v := ?_) (ata at0) (by kernel_rfl) (by kernel_rfl) (by kernel_rfl) (fun _ _ _ h => h) (Or.inl ⟨by rfl, ?_⟩) (by assumption) ?_
              rotate_left
              · (intro w hSw; (try dsimp only at hSw); go_simp; (first | done | with_reducible rfl))
              try simp only [Act.put, List.setIfInBounds_toArray, List.set_cons_zero, List.set_cons_succ]
              refine wpAnyH_take (i := 1) (v := ?_) (ata (atS at0)) (by kernel_rfl) (by kernel_rfl) (by kernel_rfl) (fun _ _ _ h => h) (Or.inl ⟨by rfl, ?_⟩) (by assumption) ?_
              rotate_left
              · (intro w hSw; (try dsimp only at hSw); go_simp; (first | done | with_reducible rfl))
              try simp only [Act.put, List.setIfInBounds_toArray, List.set_cons_zero, List.set_cons_succ]
              refine wpAnyH_take (i := 2) (v := ?_) (ata (atS (atS at0))) (by kernel_rfl) (by kernel_rfl) (by kernel_rfl) (fun _ _ _ h => h) (Or.inl ⟨by rfl, ?_⟩) (by assumption) ?_
              rotate_left
              · (intro w hSw; (try dsimp only at hSw); go_simp; (first | done | with_reducible rfl))
              try simp only [Act.put, List.setIfInBounds_toArray, List.set_cons_zero, List.set_cons_succ]
              refine wpAnyH_take (i := 3) (v := ?_) (ata (atS (atS (atS at0)))) (by kernel_rfl) (by kernel_rfl) (by kernel_rfl) (fun _ _ _ h => h) (Or.inl ⟨by rfl, ?_⟩) (by assumption) ?_
              rotate_left
              · (intro w hSw; (try dsimp only at hSw); go_simp; (first | done | with_reducible rfl))
              try simp only [Act.put, List.setIfInBounds_toArray, List.set_cons_zero, List.set_cons_succ]
              refine wpAnyH_take (i := 4) (v := ?_) (ata (atS (atS (atS (atS at0))))) (by kernel_rfl) (by kernel_rfl) (by kernel_rfl) (fun _ _ _ h => h) (Or.inl ⟨by rfl, ?_⟩) (by assumption) ?_
              rotate_left
              · (intro w hSw; (try dsimp only at hSw); go_simp; (first | done | with_reducible rfl))
              try simp only [Act.put, List.setIfInBounds_toArray, List.set_cons_zero, List.set_cons_succ]
              refine wpAnyH_take (i := 5) (v := ?_) (ata (atS (atS (atS (atS (atS at0)))))) (by kernel_rfl) (by kernel_rfl) (by kernel_rfl) (fun _ _ _ h => h) (Or.inl ⟨by rfl, ?_⟩) (by assumption) ?_
              rotate_left
              · (intro w hSw; (try dsimp only at hSw); go_simp; (first | done | with_reducible rfl))
              try simp only [Act.put, List.setIfInBounds_toArray, List.set_cons_zero, List.set_cons_succ]
              refine wpAnyH_take (i := 6) (v := ?_) (ata (atS (atS (atS (atS (atS (atS at0))))))) (by kernel_rfl) (by kernel_rfl) (by kernel_rfl) (fun _ _ _ h => h) (Or.inl ⟨by rfl, ?_⟩) (by assumption) ?_
              rotate_left
              · (intro w hSw; (try dsimp only at hSw); go_simp; (first | done | with_reducible rfl))
              try simp only [Act.put, List.setIfInBounds_toArray, List.set_cons_zero, List.set_cons_succ]
              refine wpAnyH_take (i := 7) (v := ?_) (ata (atS (atS (atS (atS (atS (atS (atS at0)))))))) (by kernel_rfl) (by kernel_rfl) (by kernel_rfl) (fun _ _ _ h => h) (Or.inl ⟨by rfl, ?_⟩) (by assumption) ?_
              rotate_left
              · (intro w hSw; (try dsimp only at hSw); go_simp; (first | done | with_reducible rfl))
              try simp only [Act.put, List.setIfInBounds_toArray, List.set_cons_zero, List.set_cons_succ]
              refine wpAnyH_take (i := 8) (v := ?_) (ata (atS (atS (atS (atS (atS (atS (atS (atS at0))))))))) (by kernel_rfl) (by kernel_rfl) (by kernel_rfl) (fun _ _ _ h => h) (Or.inl ⟨by rfl, ?_⟩) (by assumption) ?_
              rotate_left
              · (intro w hSw; (try dsimp only at hSw); go_simp; (first | done | with_reducible rfl))
              try simp only [Act.put, List.setIfInBounds_toArray, List.set_cons_zero, List.set_cons_succ]
              refine wpAnyH_ready (rs := [9, 13]) (by kernel_rfl) (by simp) ?_
              refine AllReadyH.cons (ata (atS (atS (atS (atS (atS (atS (atS (atS (atS at0)))))))))) (fun K hK => ?_) (AllReadyH.cons (ata (atS (atS (atS (atS (atS (atS (atS (atS (atS (atS (atS (atS (atS at0)))))))))))))) (fun K hK => ?_) AllReadyH.nil)
              · go_simp
                (go_at_call 15; (with_reducible refine (HCR.out _ (HPW.out _ HY.out) (HRW.out _ HY.out)).mono ?_); rintro e w7 ⟨va, rfl, ⟨v6, v7, rfl, r6, r7, q7, c7, rfl, hle7⟩, hb1⟩; obtain ⟨p6, c6, e6⟩ := r6.rd.len; subst e6; have hY := HY.out.trans (hb1.mono HY.out.size); have HR := Lib.hid (And.intro r6 (And.intro r7 hle7)); have HY := Lib.hid hY; clear hY hb1 r6 r7 hle7)
                go_wp2_with fail
                refine hK.out _ _ (by exact KK.out _ HY.out) (fun hHeld => ?_)
                clear hK K
                try simp only [Act.put, List.setIfInBounds_toArray, List.set_cons_zero, List.set_cons_succ]
                refine wpAnyH_take (i := 10) (v := ?_) (ata (atS (atS (atS (atS (atS (atS (atS (atS (atS (atS at0))))))))))) (by kernel_rfl) (by kernel_rfl) (by kernel_rfl) (fun _ _ _ h => h) (Or.inl ⟨by rfl, ?_⟩) (by assumption) ?_
                rotate_left
                · (intro w hSw; (try dsimp only at hSw); go_simp; (first | done | with_reducible rfl))
                try simp only [Act.put, List.setIfInBounds_toArray, List.set_cons_zero, List.set_cons_succ]
                refine wpAnyH_take (i := 11) (v := ?_) (ata (atS (atS (atS (atS (atS (atS (atS (atS (atS (atS (atS at0)))))))))))) (by kernel_rfl) (by kernel_rfl) (by kernel_rfl) (fun _ _ _ h => h) (Or.inl ⟨by rfl, ?_⟩) (by assumption) ?_
                rotate_left
                · (intro w hSw; (try dsimp only at hSw); go_simp; (first | done | with_reducible rfl))
                try simp only [Act.put, List.setIfInBounds_toArray, List.set_cons_zero, List.set_cons_succ]
                refine wpAnyH_take (i := 12) (v := ?_) (ata (atS (atS (atS (atS (atS (atS (atS (atS (atS (atS (atS (atS at0))))))))))))) (by kernel_rfl) (by kernel_rfl) (by kernel_rfl) (fun _ _ _ h => h) (Or.inl ⟨by rfl, ?_⟩) (by assumption) ?_
                rotate_left
                · (intro w hSw; (try dsimp only at hSw); go_simp; (first | done | with_reducible rfl))
                try simp only [Act.put, List.setIfInBounds_toArray, List.set_cons_zero, List.set_cons_succ]
                refine wpAnyH_ready (rs := [13]) (by kernel_rfl) (by simp) ?_
                refine AllReadyH.cons (ata (atS (atS (atS (atS (atS (atS (atS (atS (atS (atS (atS (atS (atS at0)))))))))))))) (fun K hK => ?_) AllReadyH.nil
                go_simp
                refine hK.out _ _ (by exact KK.out _ (HY.out.alloc HY.out.size _)) (fun hHeld => ?_)
                clear hK K
                try simp only [Act.put, List.setIfInBounds_toArray, List.set_cons_zero, List.set_cons_succ]
                have hBy : wr.heap.size ≤ w7.heap.size := HY.out.size
                obtain ⟨ya, hya⟩ : ∃ y, World.alloc w7 (.cells #[.int .i64 0, .int .i64 0, .int .i64 0, .bool false, .bool false, .slice none 0 0, .slice none 0 0] 25) = y := ⟨_, rfl⟩
                rw [hya]
                have hYa : RowKit.Below wr.heap.size wr ya := by rw [← hya]; exact HY.out.alloc HY.out.size _
                have HY := Lib.hid hYa
                have HO : Hid (RowKit.Below w7.heap.size w7 ya) := by show RowKit.Below _ _ _; rw [← hya]; exact ((Below.refl _ w7).alloc (Nat.le_refl _) _)
                have HZ : Hid (ya.heap[w7.heap.size]? = some (.cells #[.int .i64 0, .int .i64 0, .int .i64 0, .bool false, .bool false, .slice none 0 0, .slice none 0 0] 25 (0, 0))) := by show _ = _; rw [← hya]; exact World.alloc_heap_new w7 _
                clear hya hYa
                refine wpAnyH_ready (rs := [14]) (by kernel_rfl) (by simp) ?_
                refine AllReadyH.cons (ata (atS (atS (atS (atS (atS (atS (atS (atS (atS (atS (atS (atS (atS (atS at0))))))))))))))) (fun K hK => ?_) AllReadyH.nil
                refine wp_store_row _ _ _ rfl w7.heap.size #[.int .i64 Q.size, .int .i64 Q.grain, .int .i64 Q.quota, .bool Q.drain, .bool Q.best, .slice p6 Q.free.length c6, .slice q7 Q.uses.length c7] rfl rfl 25 #[.int .i64 0, .int .i64 0, .int .i64 0, .bool false, .bool false, .slice none 0 0, .slice none 0 0] HZ.out (by kernel_rfl) rfl (by kernel_rfl) ?_
                refine hK.out _ _ (by exact KK.out _ (below_setRow HY.out hBy _)) (fun hHeld => ?_)
                clear hK K
                try simp only [Act.put, List.setIfInBounds_toArray, List.set_cons_zero, List.set_cons_succ]
                refine wpAnyH_take (i := 15) (v := ?_) (ata (atS (atS (atS (atS (atS (atS (atS (atS (atS (atS (atS (atS (atS (atS (atS at0)))))))))))))))) (by kernel_rfl) (by kernel_rfl) (by kernel_rfl) (fun _ _ _ h => h) (Or.inl ⟨by rfl, ?_⟩) (by assumption) ?_
                rotate_left
                · (intro w hSw; (try dsimp only at hSw); go_simp; (first | done | with_reducible rfl))
                try simp only [Act.put, List.setIfInBounds_toArray, List.set_cons_zero, List.set_cons_succ]
                refine wpAnyH_done (by kernel_rfl) ?_ _
                have hYf := below_setRow HY.out hBy #[.int .i64 Q.size, .int .i64 Q.grain, .int .i64 Q.quota, .bool Q.drain, .bool Q.best, .slice p6 Q.free.length c6, .slice q7 Q.uses.length c7]
                have hWf := below_setRow HO.out (Nat.le_refl _) #[.int .i64 Q.size, .int .i64 Q.grain, .int .i64 Q.quota, .bool Q.drain, .bool Q.best, .slice p6 Q.free.length c6, .slice q7 Q.uses.length c7]
                obtain ⟨r6, r7, hle7⟩ := HR.out
                go_wp2
                go_meet
                case rel => exact ⟨w7.heap.size, _, _, rfl, rfl, setRow_heap _ _ _ _ _ (0, 0) HZ.out, (RdO.next r6 hWf), (r7.next hWf), ⟨_, _, rfl, hle7⟩, hYf⟩
              · go_simp
                refine hK.out _ _ (by exact KK.out _ (HY.out.alloc HY.out.size _)) (fun hHeld => ?_)
                clear hK K
                try simp only [Act.put, List.setIfInBounds_toArray, List.set_cons_zero, List.set_cons_succ]
                have hBy : wr.heap.size ≤ wr.heap.size := Nat.le_refl _
                obtain ⟨ya, hya⟩ : ∃ y, World.drew (World.alloc wr (.cells #[.int .i64 0, .int .i64 0, .int .i64 0, .bool false, .bool false, .slice none 0 0, .slice none 0 0] 25)) = y := ⟨_, rfl⟩
                rw [hya]
                have hYa : RowKit.Below wr.heap.size wr ya := by rw [← hya]; exact ((Below.refl _ wr).alloc (Nat.le_refl _) _).drew
                have HY := Lib.hid hYa
                have HO : Hid (RowKit.Below wr.heap.size wr ya) := by show RowKit.Below _ _ _; rw [← hya]; exact ((Below.refl _ wr).alloc (Nat.le_refl _) _).drew
                have HZ : Hid (ya.heap[wr.heap.size]? = some (.cells #[.int .i64 0, .int .i64 0, .int .i64 0, .bool false, .bool false, .slice none 0 0, .slice none 0 0] 25 (0, 0))) := by show _ = _; rw [← hya]; exact World.alloc_heap_new wr _
                clear hya hYa
                refine wpAnyH_ready (rs := [9]) (by kernel_rfl) (by simp) ?_
                refine AllReadyH.cons (ata (atS (atS (atS (atS (atS (atS (atS (atS (atS at0)))))))))) (fun K hK => ?_) AllReadyH.nil
                go_simp
                (go_at_call 15; (with_reducible refine (HCR.out _ (HPW.out _ HY.out) (HRW.out _ HY.out)).mono ?_); rintro e w7 ⟨va, rfl, ⟨v6, v7, rfl, r6, r7, q7, c7, rfl, hle7⟩, hb1⟩; obtain ⟨p6, c6, e6⟩ := r6.rd.len; subst e6; have HYA : Hid (wr.heap.size < ya.heap.size) := (Array.getElem?_eq_some_iff.1 HZ.out).1; have hZ := (hb1.block wr.heap.size HYA.out).trans HZ.out; have HZ := Lib.hid hZ; clear hZ; have hY := HY.out.trans (hb1.mono HY.out.size); have HR := Lib.hid (And.intro r6 (And.intro r7 hle7)); have HY := Lib.hid hY; clear hY hb1 r6 r7 hle7)
                go_wp2_with fail
                refine hK.out _ _ (by exact KK.out _ HY.out) (fun hHeld => ?_)
                clear hK K
                try simp only [Act.put, List.setIfInBounds_toArray, List.set_cons_zero, List.set_cons_succ]
                refine wpAnyH_take (i := 10) (v := ?_) (ata (atS (atS (atS (atS (atS (atS (atS (atS (atS (atS at0))))))))))) (by kernel_rfl) (by kernel_rfl) (by kernel_rfl) (fun _ _ _ h => h) (Or.inl ⟨by rfl, ?_⟩) (by assumption) ?_
                rotate_left
                · (intro w hSw; (try dsimp only at hSw); go_simp; (first | done | with_reducible rfl))
                try simp only [Act.put, List.setIfInBounds_toArray, List.set_cons_zero, List.set_cons_succ]
                refine wpAnyH_take (i := 11) (v := ?_) (ata (atS (atS (atS (atS (atS (atS (atS (atS (atS (atS (atS at0)))))))))))) (by kernel_rfl) (by kernel_rfl) (by kernel_rfl) (fun _ _ _ h => h) (Or.inl ⟨by rfl, ?_⟩) (by assumption) ?_
                rotate_left
                · (intro w hSw; (try dsimp only at hSw); go_simp; (first | done | with_reducible rfl))
                try simp only [Act.put, List.setIfInBounds_toArray, List.set_cons_zero, List.set_cons_succ]
                refine wpAnyH_take (i := 12) (v := ?_) (ata (atS (atS (atS (atS (atS (atS (atS (atS (atS (atS (atS (atS at0))))))))))))) (by kernel_rfl) (by kernel_rfl) (by kernel_rfl) (fun _ _ _ h => h) (Or.inl ⟨by rfl, ?_⟩) (by assumption) ?_
                rotate_left
                · (intro w hSw; (try dsimp only at hSw); go_simp; (first | done | with_reducible rfl))
                try simp only [Act.put, List.setIfInBounds_toArray, List.set_cons_zero, List.set_cons_succ]
                refine wpAnyH_ready (rs := [14]) (by kernel_rfl) (by simp) ?_
                refine AllReadyH.cons (ata (atS (atS (atS (atS (atS (atS (atS (atS (atS (atS (atS (atS (atS (atS at0))))))))))))))) (fun K hK => ?_) AllReadyH.nil
                refine wp_store_row _ _ _ rfl wr.heap.size #[.int .i64 Q.size, .int .i64 Q.grain, .int .i64 Q.quota, .bool Q.drain, .bool Q.best, .slice p6 Q.free.length c6, .slice q7 Q.uses.length c7] rfl rfl 25 #[.int .i64 0, .int .i64 0, .int .i64 0, .bool false, .bool false, .slice none 0 0, .slice none 0 0] HZ.out (by kernel_rfl) rfl (by kernel_rfl) ?_
                refine hK.out _ _ (by exact KK.out _ (below_setRow HY.out hBy _)) (fun hHeld => ?_)
                clear hK K
                try simp only [Act.put, List.setIfInBounds_toArray, List.set_cons_zero, List.set_cons_succ]
                refine wpAnyH_take (i := 15) (v := ?_) (ata (atS (atS (atS (atS (atS (atS (atS (atS (atS (atS (atS (atS (atS (atS (atS at0)))))))))))))))) (by kernel_rfl) (by kernel_rfl) (by kernel_rfl) (fun _ _ _ h => h) (Or.inl ⟨by rfl, ?_⟩) (by assumption) ?_
                rotate_left
                · (intro w hSw; (try dsimp only at hSw); go_simp; (first | done | with_reducible rfl))
                try simp only [Act.put, List.setIfInBounds_toArray, List.set_cons_zero, List.set_cons_succ]
                refine wpAnyH_done (by kernel_rfl) ?_ _
                have hYf := below_setRow HY.out hBy #[.int .i64 Q.size, .int .i64 Q.grain, .int .i64 Q.quota, .bool Q.drain, .bool Q.best, .slice p6 Q.free.length c6, .slice q7 Q.uses.length c7]
                obtain ⟨r6, r7, hle7⟩ := HR.out
                have hsm : Same 0 ya.heap.size w7 (w7.setRow wr.heap.size #[.int .i64 Q.size, .int .i64 Q.grain, .int .i64 Q.quota, .bool Q.drain, .bool Q.best, .slice p6 Q.free.length c6, .slice q7 Q.uses.length c7]) := Same.row _ _ _ (Nat.zero_le _) HYA.out
                have hya2 := HYA.out
                go_wp2
                go_meet
                case rel => exact ⟨wr.heap.size, _, _, rfl, rfl, setRow_heap _ _ _ _ _ (0, 0) HZ.out, ((RdO.same r6 hsm).sub (Nat.le_refl _) (by omega)), ((r7.same hsm).sub (Nat.le_refl _) (by omega)), ⟨_, _, rfl, hle7⟩, hYf⟩
            case rest =>
              obtain ⟨b8, v6, v7, rfl, rfl, hx, r6, r7, q7, hbw⟩ := hcut
              clear HPW HCR HRW
              have ps2 := ps.next hbw
              have r6 := ps.fresh r6
              have r7 := ps.fresh r7
              obtain ⟨p6, c6, rfl⟩ := r6.rdc.rd.len
              obtain ⟨p7, c7, rfl, hle7⟩ := q7
              have y0 := cell_of_row wc b8 0 _ _ (0, 0) hx; have y1 := cell_of_row wc b8 1 _ _ (0, 0) hx; have y2 := cell_of_row wc b8 2 _ _ (0, 0) hx; have y3 := cell_of_row wc b8 3 _ _ (0, 0) hx; have y4 := cell_of_row wc b8 4 _ _ (0, 0) hx; have y5 := cell_of_row wc b8 5 _ _ (0, 0) hx; have y6 := cell_of_row wc b8 6 _ _ (0, 0) hx
              have ps3 := ps2.store (q := Q) r6 r7 ⟨p7, c7, rfl, hle7⟩
              have hb3 := hb.trans (hbw.mono hb.size)
              have hb3 := below_setRow hb3 ps.n7 #[.int .i64 Q.size, .int .i64 Q.grain, .int .i64 Q.quota, .bool Q.drain, .bool Q.best, .slice p6 Q.free.length c6, .slice p7 Q.uses.length c7]
              have HP2 := Lib.hid ps2
              have HP3 := Lib.hid (And.intro ps3 hb3)
              clear ps2 ps3 hb3 r6 r7 ps hb hcw hco3
              go_upto_region 19 with (refine wpList_store_row rfl _ _ _ rfl B #[.int .i64 Q.size, .int .i64 Q.grain, .int .i64 Q.quota, .bool Q.drain, .bool Q.best, .slice p6 Q.free.length c6, .slice p7 Q.uses.length c7] rfl rfl 25 #[.int .i64 p.size, .int .i64 p.grain, .int .i64 p.quota, .bool p.drain, .bool p.best, .slice pf p.free.length qf, .slice pu p.uses.length qu] HP2.out.b7 (by kernel_rfl) rfl (by kernel_rfl) ?_)
              obtain ⟨w3, hw3⟩ : ∃ w3, wc.setRow B #[.int .i64 Q.size, .int .i64 Q.grain, .int .i64 Q.quota, .bool Q.drain, .bool Q.best, .slice p6 Q.free.length c6, .slice p7 Q.uses.length c7] = w3 := ⟨_, rfl⟩
              rw [hw3] at HP3 ⊢
              clear hw3 HP2 y0 y1 y2 y3 y4 y5 y6
              have hN3 : w.heap.size ≤ w3.heap.size := HP3.out.2.size
              have h63 : IntKind.i64.wrap ((k : Int) + 1) = (k : Int) + 1 := by rw [IntKind.wrap_i64]; omega
              obtain ⟨⟨R0, ⟨hR0, q0, c0, eR0⟩, run0⟩, R1, ⟨hR1, q1, c1, eR1⟩, run1⟩ := HP3.out.1.own_rows rfl hk
              subst eR0
              subst eR1
              have hrl := HP3.out.1.rlen
              have HR := Lib.hid (And.intro hR0 (And.intro hR1 HP3.out.1.one))
              obtain ⟨out2, hout2⟩ : ∃ o, out.take k ++ out.drop (k + 1) = o := ⟨_, rfl⟩
              obtain ⟨rs2, hrs2⟩ : ∃ o, rs.take k ++ rs.drop (k + 1) = o := ⟨_, rfl⟩
              obtain ⟨who2, hwho2⟩ : ∃ o, who.take k ++ who.drop (k + 1) = o := ⟨_, rfl⟩
              have hl2 : k + (out.length - (k + 1)) = out2.length := by rw [← hout2]; simp; omega
              have hl3 : k + (who.length - (k + 1)) = who2.length := by rw [← hwho2]; simp; omega
              rw [hout2, hwho2] at ivQ
              have HE := Lib.hid (And.intro hout2 (And.intro hrs2 hwho2))
              have HL := Lib.hid (And.intro hl2 hl3)
              clear hR0 hR1 hout2 hrs2 hwho2
              refine wp_region_held_drew (S := (fun _ : World => True)) (by kernel_rfl) (by trivial) (fun hHeld => ?_)
              refine wpAnyH_take (i := 1) (v := ?_) (ata (atS at0)) (by kernel_rfl) (by kernel_rfl) (by kernel_rfl) (fun _ _ _ h => h) (Or.inl ⟨by rfl, ?_⟩) (by assumption) ?_
              rotate_left
              · (intro w hSw; (try dsimp only at hSw); go_simp; (first | done | with_reducible rfl))
              try simp only [Act.put, List.setIfInBounds_toArray, List.set_cons_zero, List.set_cons_succ]
              refine wpAnyH_take (i := 2) (v := ?_) (ata (atS (atS at0))) (by kernel_rfl) (by kernel_rfl) (by kernel_rfl) (fun _ _ _ h => h) (Or.inl ⟨by rfl, ?_⟩) (by assumption) ?_
              rotate_left
              · (intro w hSw; (try dsimp only at hSw); go_simp; (first | done | with_reducible rfl))
              try simp only [Act.put, List.setIfInBounds_toArray, List.set_cons_zero, List.set_cons_succ]
              refine wpAnyH_take (i := 3) (v := ?_) (ata (atS (atS (atS at0)))) (by kernel_rfl) (by kernel_rfl) (by kernel_rfl) (fun _ _ _ h => h) (Or.inl ⟨by rfl, ?_⟩) (by assumption) ?_
              rotate_left
              · (intro w hSw; (try dsimp only at hSw); go_simp; (first | done | with_reducible rfl))
              try simp only [Act.put, List.setIfInBounds_toArray, List.set_cons_zero, List.set_cons_succ]
              refine wpAnyH_take (i := 5) (v := ?_) (ata (atS (atS (atS (atS (atS at0)))))) (by kernel_rfl) (by kernel_rfl) (by kernel_rfl) (fun _ _ _ h => h) (Or.inl ⟨by rfl, ?_⟩) (by assumption) ?_
              rotate_left
              · (intro w hSw; (try dsimp only at hSw); go_simp; (first | done | with_reducible rfl))
              try simp only [Act.put, List.setIfInBounds_toArray, List.set_cons_zero, List.set_cons_succ]
              refine wpAnyH_take (i := 6) (v := ?_) (ata (atS (atS (atS (atS (atS (atS at0))))))) (by kernel_rfl) (by kernel_rfl) (by kernel_rfl) (fun _ _ _ h => h) (Or.inl ⟨by rfl, ?_⟩) (by assumption) ?_
              rotate_left
              · (intro w hSw; (try dsimp only at hSw); go_simp; (first | done | with_reducible rfl))
              try simp only [Act.put, List.setIfInBounds_toArray, List.set_cons_zero, List.set_cons_succ]
              refine wpAnyH_take (i := 7) (v := ?_) (ata (atS (atS (atS (atS (atS (atS (atS at0)))))))) (by kernel_rfl) (by kernel_rfl) (by kernel_rfl) (fun _ _ _ h => h) (Or.inl ⟨by rfl, ?_⟩) (by assumption) ?_
              rotate_left
              · (intro w hSw; (try dsimp only at hSw); go_simp; (first | done | with_reducible rfl))
              try simp only [Act.put, List.setIfInBounds_toArray, List.set_cons_zero, List.set_cons_succ]
              refine wpAnyH_take (i := 8) (v := ?_) (ata (atS (atS (atS (atS (atS (atS (atS (atS at0))))))))) (by kernel_rfl) (by kernel_rfl) (by kernel_rfl) (fun _ _ _ h => h) (Or.inl ⟨by rfl, ?_⟩) (by assumption) ?_
              rotate_left
              · (intro w hSw; (try dsimp only at hSw); go_simp; (first | done | with_reducible rfl))
              try simp only [Act.put, List.setIfInBounds_toArray, List.set_cons_zero, List.set_cons_succ]
              refine wpAnyH_ready (rs := [0]) (by kernel_rfl) (by simp) ?_
              refine AllReadyH.cons (ata at0) (fun K hK => ?_) AllReadyH.nil
              go_simp
              refine hK.out _ _ (by trivial) (fun hHeld => ?_)
              clear hK K
              try simp only [Act.put, List.setIfInBounds_toArray, List.set_cons_zero, List.set_cons_succ]
              obtain ⟨ya, hya⟩ : ∃ y, World.drew (World.alloc w3 (.cells #[] 22)) = y := ⟨_, rfl⟩
              rw [hya]
              have HYa : Hid (RowKit.Below w3.heap.size w3 ya) := by show RowKit.Below _ _ _; rw [← hya]; exact ((Below.refl _ _).alloc (Nat.le_refl _) _).drew
              have HNw : Hid (ya.ownsRow w3.heap.size 22 1 (.slice (some ⟨w3.heap.size, 0, none⟩) 0 0) 0 []) := by show World.ownsRow _ _ _ _ _ _ _; rw [← hya]; exact new_own _ _ _
              clear hya
              refine wpAnyH_ready (rs := [4]) (by kernel_rfl) (by simp) ?_
              refine AllReadyH.cons (ata (atS (atS (atS (atS at0))))) (fun K hK => ?_) AllReadyH.nil
              refine wp_ow eltR _ _ rfl (base := w3.heap.size) (v := .slice (some ⟨w3.heap.size, 0, none⟩) 0 0) (u := .slice q0 k c0) (n := 0) (m := k) (r := k) (cs := []) (ds := (rs).take k) rfl rfl HNw.out (HR.out.1.next HYa.out) (by rw [List.length_take]; omega) (fun u hu => HR.out.2.2 u (List.mem_of_mem_take hu)) (by omega) (by omega) (by decide) HYa.out.size ?_; intro pa4 ca4 wa4 ha4 hba4; have HA4 := Lib.hid ha4; have HBA4 := Lib.hid (HYa.out.trans hba4); clear ha4 hba4
              refine hK.out _ _ (by trivial) (fun hHeld => ?_)
              clear hK K
              try simp only [Act.put, List.setIfInBounds_toArray, List.set_cons_zero, List.set_cons_succ]
              refine wpAnyH_ready (rs := [9]) (by kernel_rfl) (by simp) ?_
              refine AllReadyH.cons (ata (atS (atS (atS (atS (atS (atS (atS (atS (atS at0)))))))))) (fun K hK => ?_) AllReadyH.nil
              refine wp_ow eltR _ _ rfl (base := w3.heap.size) (v := .slice pa4 k ca4) (u := .slice q1 (out.length - (k + 1)) c1) (n := k) (m := out.length - (k + 1)) (r := out2.length) (cs := [] ++ (rs).take k) (ds := (rs).drop (k + 1)) rfl rfl HA4.out (HR.out.2.1.next HBA4.out) (by rw [List.length_drop]; omega) (fun u hu => HR.out.2.2 u (List.mem_of_mem_drop hu)) HL.out.1 (by have := HL.out.1; have := HLN.out; omega) (by decide) HBA4.out.size ?_; intro pa5 ca5 wa5 ha5 hba5; have HA5 := Lib.hid ha5; have HBA5 := Lib.hid (HBA4.out.trans hba5); clear ha5 hba5
              refine hK.out _ _ (by trivial) (fun hHeld => ?_)
              clear hK K
              try simp only [Act.put, List.setIfInBounds_toArray, List.set_cons_zero, List.set_cons_succ]
              refine wpAnyH_take (i := 10) (v := ?_) (ata (atS (atS (atS (atS (atS (atS (atS (atS (atS (atS at0))))))))))) (by kernel_rfl) (by kernel_rfl) (by kernel_rfl) (fun _ _ _ h => h) (Or.inl ⟨by rfl, ?_⟩) (by assumption) ?_
              rotate_left
              · (intro w hSw; (try dsimp only at hSw); go_simp; (first | done | with_reducible rfl))
              try simp only [Act.put, List.setIfInBounds_toArray, List.set_cons_zero, List.set_cons_succ]
              refine wpAnyH_done (by kernel_rfl) ?_ _
              have hps5 := HP3.out.1.drop_row hk HE.out.1 HE.out.2.1 HBA5.out hN3 HA5.out
              have HP5 := Lib.hid (And.intro hps5 (HP3.out.2.trans (HBA5.out.mono hN3)))
              clear hps5 HP3 HA5 HBA5 HA4 HBA4 HR HYa HNw hN3 run0 run1 hrl
              go_upto_region 20 with fail
              obtain ⟨⟨R0, ⟨hR0, q0, c0, eR0⟩, run0⟩, R1, ⟨hR1, q1, c1, eR1⟩, run1⟩ := HP5.out.1.own_names rfl hkw
              subst eR0
              subst eR1
              have hN3 : w.heap.size ≤ wa5.heap.size := HP5.out.2.size
              have HR := Lib.hid (And.intro hR0 (And.intro hR1 (fun (u : Value) (hu : u ∈ who.map fun u => Value.string (str u)) => by obtain ⟨a, _, rfl⟩ := List.mem_map.1 hu; rfl : ∀ u ∈ who.map fun u => Value.string (str u), u.oneCell' = true)))
              have hrl : (who.map fun u => Value.string (str u)).length = who.length := List.length_map ..
              clear hR0 hR1

              refine wp_region_held_drew (S := (fun _ : World => True)) (by kernel_rfl) (by trivial) (fun hHeld => ?_)
              refine wpAnyH_take (i := 1) (v := ?_) (ata (atS at0)) (by kernel_rfl) (by kernel_rfl) (by kernel_rfl) (fun _ _ _ h => h) (Or.inl ⟨by rfl, ?_⟩) (by assumption) ?_
              rotate_left
              · (intro w hSw; (try dsimp only at hSw); go_simp; (first | done | with_reducible rfl))
              try simp only [Act.put, List.setIfInBounds_toArray, List.set_cons_zero, List.set_cons_succ]
              refine wpAnyH_take (i := 2) (v := ?_) (ata (atS (atS at0))) (by kernel_rfl) (by kernel_rfl) (by kernel_rfl) (fun _ _ _ h => h) (Or.inl ⟨by rfl, ?_⟩) (by assumption) ?_
              rotate_left
              · (intro w hSw; (try dsimp only at hSw); go_simp; (first | done | with_reducible rfl))
              try simp only [Act.put, List.setIfInBounds_toArray, List.set_cons_zero, List.set_cons_succ]
              refine wpAnyH_take (i := 3) (v := ?_) (ata (atS (atS (atS at0)))) (by kernel_rfl) (by kernel_rfl) (by kernel_rfl) (fun _ _ _ h => h) (Or.inl ⟨by rfl, ?_⟩) (by assumption) ?_
              rotate_left
              · (intro w hSw; (try dsimp only at hSw); go_simp; (first | done | with_reducible rfl))
              try simp only [Act.put, List.setIfInBounds_toArray, List.set_cons_zero, List.set_cons_succ]
              refine wpAnyH_take (i := 5) (v := ?_) (ata (atS (atS (atS (atS (atS at0)))))) (by kernel_rfl) (by kernel_rfl) (by kernel_rfl) (fun _ _ _ h => h) (Or.inl ⟨by rfl, ?_⟩) (by assumption) ?_
              rotate_left
              · (intro w hSw; (try dsimp only at hSw); go_simp; (first | done | with_reducible rfl))
              try simp only [Act.put, List.setIfInBounds_toArray, List.set_cons_zero, List.set_cons_succ]
              refine wpAnyH_take (i := 6) (v := ?_) (ata (atS (atS (atS (atS (atS (atS at0))))))) (by kernel_rfl) (by kernel_rfl) (by kernel_rfl) (fun _ _ _ h => h) (Or.inl ⟨by rfl, ?_⟩) (by assumption) ?_
              rotate_left
              · (intro w hSw; (try dsimp only at hSw); go_simp; (first | done | with_reducible rfl))
              try simp only [Act.put, List.setIfInBounds_toArray, List.set_cons_zero, List.set_cons_succ]
              refine wpAnyH_take (i := 7) (v := ?_) (ata (atS (atS (atS (atS (atS (atS (atS at0)))))))) (by kernel_rfl) (by kernel_rfl) (by kernel_rfl) (fun _ _ _ h => h) (Or.inl ⟨by rfl, ?_⟩) (by assumption) ?_
              rotate_left
              · (intro w hSw; (try dsimp only at hSw); go_simp; (first | done | with_reducible rfl))
              try simp only [Act.put, List.setIfInBounds_toArray, List.set_cons_zero, List.set_cons_succ]
              refine wpAnyH_take (i := 8) (v := ?_) (ata (atS (atS (atS (atS (atS (atS (atS (atS at0))))))))) (by kernel_rfl) (by kernel_rfl) (by kernel_rfl) (fun _ _ _ h => h) (Or.inl ⟨by rfl, ?_⟩) (by assumption) ?_
              rotate_left
              · (intro w hSw; (try dsimp only at hSw); go_simp; (first | done | with_reducible rfl))
              try simp only [Act.put, List.setIfInBounds_toArray, List.set_cons_zero, List.set_cons_succ]
              refine wpAnyH_ready (rs := [0]) (by kernel_rfl) (by simp) ?_
              refine AllReadyH.cons (ata at0) (fun K hK => ?_) AllReadyH.nil
              go_simp
              refine hK.out _ _ (by trivial) (fun hHeld => ?_)
              clear hK K
              try simp only [Act.put, List.setIfInBounds_toArray, List.set_cons_zero, List.set_cons_succ]
              obtain ⟨ya, hya⟩ : ∃ y, World.drew (World.alloc wa5 (.cells #[] 9)) = y := ⟨_, rfl⟩
              rw [hya]
              have HYa : Hid (RowKit.Below wa5.heap.size wa5 ya) := by show RowKit.Below _ _ _; rw [← hya]; exact ((Below.refl _ _).alloc (Nat.le_refl _) _).drew
              have HNw : Hid (ya.ownsRow wa5.heap.size 9 1 (.slice (some ⟨wa5.heap.size, 0, none⟩) 0 0) 0 []) := by show World.ownsRow _ _ _ _ _ _ _; rw [← hya]; exact new_own _ _ _
              clear hya
              refine wpAnyH_ready (rs := [4]) (by kernel_rfl) (by simp) ?_
              refine AllReadyH.cons (ata (atS (atS (atS (atS at0))))) (fun K hK => ?_) AllReadyH.nil
              refine wp_ow eltN _ _ rfl (base := wa5.heap.size) (v := .slice (some ⟨wa5.heap.size, 0, none⟩) 0 0) (u := .slice q0 k c0) (n := 0) (m := k) (r := k) (cs := []) (ds := (who.map fun u => Value.string (str u)).take k) rfl rfl HNw.out (HR.out.1.next HYa.out) (by rw [List.length_take, List.length_map]; omega) (fun u hu => HR.out.2.2 u (List.mem_of_mem_take hu)) (by omega) (by omega) (by decide) HYa.out.size ?_; intro pa4 ca4 wa4 ha4 hba4; have HA4 := Lib.hid ha4; have HBA4 := Lib.hid (HYa.out.trans hba4); clear ha4 hba4
              refine hK.out _ _ (by trivial) (fun hHeld => ?_)
              clear hK K
              try simp only [Act.put, List.setIfInBounds_toArray, List.set_cons_zero, List.set_cons_succ]
              refine wpAnyH_ready (rs := [9]) (by kernel_rfl) (by simp) ?_
              refine AllReadyH.cons (ata (atS (atS (atS (atS (atS (atS (atS (atS (atS at0)))))))))) (fun K hK => ?_) AllReadyH.nil
              refine wp_ow eltN _ _ rfl (base := wa5.heap.size) (v := .slice pa4 k ca4) (u := .slice q1 (who.length - (k + 1)) c1) (n := k) (m := who.length - (k + 1)) (r := who2.length) (cs := [] ++ (who.map fun u => Value.string (str u)).take k) (ds := (who.map fun u => Value.string (str u)).drop (k + 1)) rfl rfl HA4.out (HR.out.2.1.next HBA4.out) (by rw [List.length_drop, List.length_map]) (fun u hu => HR.out.2.2 u (List.mem_of_mem_drop hu)) HL.out.2 (by have := HL.out.2; have := HLN.out; omega) (by decide) HBA4.out.size ?_; intro pa5 ca5 wa6 ha5 hba5; have HA5 := Lib.hid ha5; have HBA5 := Lib.hid (HBA4.out.trans hba5); clear ha5 hba5
              refine hK.out _ _ (by trivial) (fun hHeld => ?_)
              clear hK K
              try simp only [Act.put, List.setIfInBounds_toArray, List.set_cons_zero, List.set_cons_succ]
              refine wpAnyH_take (i := 10) (v := ?_) (ata (atS (atS (atS (atS (atS (atS (atS (atS (atS (atS at0))))))))))) (by kernel_rfl) (by kernel_rfl) (by kernel_rfl) (fun _ _ _ h => h) (Or.inl ⟨by rfl, ?_⟩) (by assumption) ?_
              rotate_left
              · (intro w hSw; (try dsimp only at hSw); go_simp; (first | done | with_reducible rfl))
              try simp only [Act.put, List.setIfInBounds_toArray, List.set_cons_zero, List.set_cons_succ]
              refine wpAnyH_done (by kernel_rfl) ?_ _
              have hps6 := HP5.out.1.drop_name HE.out.2.2 HBA5.out hN3 HA5.out
              have HP6 := Lib.hid (And.intro hps6 (HP5.out.2.trans (HBA5.out.mono hN3)))
              clear hps6
              go_wp2
              go_meet
              case rel => exact ⟨Q, _, _, _, _, _, HP6.out.1, ivQ, by have := HL.out.1; omega, HP6.out.2⟩

        case rest =>
          clear ps iv hb e0 e1 e2 fa hnm hsu hcs hco
          obtain ⟨p2, vf2, vu2, rs2, out2, who2, ps, iv, ho2, hb⟩ := hcut
          obtain ⟨f1, f2, f3⟩ := iv.few hP
          obtain ⟨qo2, co2, rfl, hco⟩ := ps.lenO
          go_upto_block 2 with fail
          go_cut [21, 22, 23] from 154 to 180 (fun s21 s22 s23 wx => s21 = .int .i64 (po.tt out2) ∧ Aside (RowKit.Below wc.heap.size wc wx))
          case first =>
            go_wp2_with fail
            go_loopw [21, 22, 23] (fun s21 s22 s23 wr2 => ∃ k : Nat, s21 = .int .i64 (po.tt (out2.take k)) ∧ s22 = .int .i64 k ∧ k ≤ out2.length ∧ Aside (RowKit.Below wc.heap.size wc wr2)) (fun _ s22 _ _ => out2.length - (intOf s22).toNat)
            case atStart => exact ⟨0, rfl, rfl, Nat.zero_le _, (show Aside _ from Below.refl _ _)⟩
            case round =>
              obtain ⟨k, rfl, rfl, hk, hbk⟩ := hrel
              by_cases hkl : k < out2.length
              · obtain ⟨g, co3, e, hle, hc⟩ := (ps.next hbk.out).out_at hkl
                simp only [Value.slice.injEq] at e
                obtain ⟨rfl, _, rfl⟩ := e
                have hrow := (ps.next hbk.out).row hkl
                have hlg := cell_lt hc
                obtain ⟨pr, cr, er⟩ := hrow.len
                rw [er] at hrow hc
                obtain ⟨t1, t2, t4, t5, hmk⟩ := iv.part hP hkl
                have hfk := (f3 _ hmk).2.1
                have dk : decide ((k : Int) < (out2.length : Int)) = true := decide_eq_true (by omega)
                have dk2 : decide (k < out2.length) = true := decide_eq_true hkl
                have HAP : Hid (∀ j, j < k → Apart (out2[j]! ++ out2[k]!) ∧ Fine out2[j]!) := fun j hj => ⟨iv.apart hj hkl, (f3 _ (iv.part hP (show j < out2.length by omega)).2.2.2.2).2.1⟩
                have HT : Hid (po.tt (out2.take (k + 1)) = po.tt (out2.take k) + tot out2[k]!) := t5
                have HER := Lib.hid er
                obtain ⟨ok, hok⟩ : ∃ o, out2[k]! = o := ⟨_, rfl⟩
                rw [hok] at hrow hc hfk t2 t4 HT HAP HER
                have HC := Lib.hid (And.intro hrow hfk)
                have HOK := Lib.hid hok
                have HPS := Lib.hid ps
                have HBK := Lib.hid hbk.out
                have HLE := Lib.hid ho2
                have hk31 : out2.length ≤ 31 := by omega
                have HHB := Lib.hid hb
                clear t5 hrow hfk hle hmk ho2 hbk er hok ps iv hb f1 f2 f3 hco
                obtain ⟨tk, htk⟩ : ∃ tk, po.tt (out2.take k) = tk := ⟨_, rfl⟩
                obtain ⟨tr, htr⟩ : ∃ tr, tot ok = tr := ⟨_, rfl⟩
                rw [htk, htr] at t4 HT
                rw [htk] at t1
                rw [htr] at t2
                rw [htk]
                have HTR := Lib.hid htr
                clear htk htr
                have hwr : IntKind.i64.wrap (tk + tr) = tk + tr := by rw [IntKind.wrap_i64]; omega
                go_upto_region 31 with (go_at_call 11; refine (Total_any HC.out.1 HC.out.2).mono ?_; rintro e w1 ⟨rfl, hb1⟩; rw [HTR.out]; have HB1 := Lib.hid hb1; clear hb1)
                have HB2 : Hid (RowKit.Below wc.heap.size wc w1) := HBK.out.trans (HB1.out.mono HBK.out.size)
                have HCR : Hid (Rd w1 (.slice pr ok.length cr) ok ∧ Fine ok) := ⟨HC.out.1.next HB1.out, HC.out.2⟩
                clear HC HB1 HBK hc t1 t2 t4
                go_wp2_with fail
                go_loopw [23] (fun s23 wr3 => ∃ j : Nat, s23 = .int .i64 j ∧ j ≤ k ∧ Aside (RowKit.Below wc.heap.size wc wr3)) (fun s23 _ => k - (intOf s23).toNat)
                case atStart => exact ⟨0, rfl, Nat.zero_le _, (show Aside _ from HB2.out)⟩
                case round =>
                  obtain ⟨j, rfl, hj, hbj⟩ := hrel
                  by_cases hjk : j < k
                  · have dj : decide ((j : Int) < (k : Int)) = true := decide_eq_true (by omega)
                    have dj2 : decide (j < k) = true := decide_eq_true hjk
                    have hjl : j < out2.length := by omega
                    have psj := HPS.out.next hbj.out
                    obtain ⟨g1, co4, e, _, hcj⟩ := psj.out_at hjl
                    obtain ⟨g2, co5, e2, _, hck⟩ := psj.out_at hkl
                    simp only [Value.slice.injEq, Option.some.injEq, Addr.mk.injEq, and_true, true_and] at e e2
                    obtain ⟨rfl, rfl⟩ := e
                    obtain ⟨rfl, rfl⟩ := e2
                    have hrj := psj.row hjl
                    obtain ⟨pj, cj, ej⟩ := hrj.len
                    rw [ej] at hrj hcj
                    have hrk := psj.row hkl
                    obtain ⟨hap, hfj⟩ := HAP.out j hjk
                    rw [HER.out] at hck
                    obtain ⟨oj, hoj⟩ : ∃ o, out2[j]! = o := ⟨_, rfl⟩
                    rw [hoj] at hrj hcj hap hfj
                    rw [HER.out, HOK.out] at hrk
                    have hlg3 := cell_lt hcj
                    have HMT : Hid (∀ W, RowKit.Below wr.heap.size wr W → Calls Try.prog 13 #[.slice pj oj.length cj, .slice pr ok.length cr] W (TellsB false W)) := fun W hb => by have := Meet_any (hrj.next hb) (hrk.next hb) hfj HCR.out.2; rwa [decide_eq_true hap, Bool.not_true] at this
                    have HBJ := Lib.hid hbj.out
                    go_upto_region 34 with fail
                    have KK : Hid (∀ W, RowKit.Below wr.heap.size wr W → W.cell? ⟨g, j, none⟩ = some (.slice pj oj.length cj) ∧ W.cell? ⟨g, k, none⟩ = some (.slice pr ok.length cr)) := fun W hb => ⟨(hb.cell (p := ⟨g, j, none⟩) hlg3).trans hcj, (hb.cell (p := ⟨g, k, none⟩) hlg3).trans hck⟩
                    have HY : Hid (RowKit.Below wr.heap.size wr wr.drew) := (Below.refl _ wr).drew
                    clear hrj hrk hfj hap ej hoj hbj psj hcj hck
                    refine wp_region_held_drew (S := (fun W => W.cell? ⟨g, j, none⟩ = some (.slice pj oj.length cj) ∧ W.cell? ⟨g, k, none⟩ = some (.slice pr ok.length cr))) (by kernel_rfl) (by exact KK.out _ HY.out) (fun hHeld => ?_)
                    refine wpAnyH_take (i := 0) (v := ?_) (ata at0) (by kernel_rfl) (by kernel_rfl) (by kernel_rfl) (fun _ _ _ h => h) (Or.inl ⟨by rfl, ?_⟩) (by assumption) ?_
                    rotate_left
                    · (intro w hSw; (try dsimp only at hSw); go_simp; (first | done | with_reducible rfl))
                    try simp only [Act.put, List.setIfInBounds_toArray, List.set_cons_zero, List.set_cons_succ]
                    refine wpAnyH_take (i := 1) (v := ?_) (ata (atS at0)) (by kernel_rfl) (by kernel_rfl) (by kernel_rfl) (fun _ _ _ h => h) (Or.inl ⟨by rfl, ?_⟩) (by assumption) ?_
                    rotate_left
                    · (intro w hSw; (try dsimp only at hSw); go_simp; (first | done | with_reducible rfl))
                    try simp only [Act.put, List.setIfInBounds_toArray, List.set_cons_zero, List.set_cons_succ]
                    refine wpAnyH_take (i := 2) (v := ?_) (ata (atS (atS at0))) (by kernel_rfl) (by kernel_rfl) (by kernel_rfl) (fun _ _ _ h => h) (Or.inl ⟨by rfl, ?_⟩) (by assumption) ?_
                    rotate_left
                    · (intro w hSw; (try dsimp only at hSw); go_simp; (first | done | with_reducible rfl))
                    try simp only [Act.put, List.setIfInBounds_toArray, List.set_cons_zero, List.set_cons_succ]
                    refine wpAnyH_take (i := 3) (v := ?_) (ata (atS (atS (atS at0)))) (by kernel_rfl) (by kernel_rfl) (by kernel_rfl) (fun _ _ _ h => h) (Or.inl ⟨by rfl, ?_⟩) (by assumption) ?_
                    rotate_left
                    · (intro w hSw; (try dsimp only at hSw); go_simp; (first | done | with_reducible rfl))
                    try simp only [Act.put, List.setIfInBounds_toArray, List.set_cons_zero, List.set_cons_succ]
                    refine wpAnyH_take (i := 4) (v := ?_) (ata (atS (atS (atS (atS at0))))) (by kernel_rfl) (by kernel_rfl) (by kernel_rfl) (fun _ _ _ h => h) (Or.inl ⟨by rfl, ?_⟩) (by assumption) ?_
                    rotate_left
                    · (intro w hSw; (try dsimp only at hSw); go_simp; (first | done | with_reducible rfl))
                    try simp only [Act.put, List.setIfInBounds_toArray, List.set_cons_zero, List.set_cons_succ]
                    refine wpAnyH_take (i := 5) (v := ?_) (ata (atS (atS (atS (atS (atS at0)))))) (by kernel_rfl) (by kernel_rfl) (by kernel_rfl) (fun _ _ _ h => h) (Or.inl ⟨by rfl, ?_⟩) (by assumption) ?_
                    rotate_left
                    · (intro w hSw; (try dsimp only at hSw); go_simp; (first | done | with_reducible rfl))
                    try simp only [Act.put, List.setIfInBounds_toArray, List.set_cons_zero, List.set_cons_succ]
                    refine wpAnyH_take (i := 6) (v := ?_) (ata (atS (atS (atS (atS (atS (atS at0))))))) (by kernel_rfl) (by kernel_rfl) (by kernel_rfl) (fun _ _ _ h => h) (Or.inl ⟨by rfl, ?_⟩) (by assumption) ?_
                    rotate_left
                    · (intro w hSw; (try dsimp only at hSw); go_simp; (first | done | with_reducible rfl))
                    try simp only [Act.put, List.setIfInBounds_toArray, List.set_cons_zero, List.set_cons_succ]
                    refine wpAnyH_take (i := 7) (v := ?_) (ata (atS (atS (atS (atS (atS (atS (atS at0)))))))) (by kernel_rfl) (by kernel_rfl) (by kernel_rfl) (fun _ _ _ h => h) (Or.inl ⟨by rfl, ?_⟩) (by assumption) ?_
                    rotate_left
                    · (intro w hSw; (try dsimp only at hSw); go_simp; (first | done | with_reducible rfl))
                    try simp only [Act.put, List.setIfInBounds_toArray, List.set_cons_zero, List.set_cons_succ]
                    refine wpAnyH_ready (rs := [8]) (by kernel_rfl) (by simp) ?_
                    refine AllReadyH.cons (ata (atS (atS (atS (atS (atS (atS (atS (atS at0))))))))) (fun K hK => ?_) AllReadyH.nil
                    go_simp
                    (go_at_call 13; (with_reducible refine (HMT.out _ HY.out).mono ?_); rintro e w4 ⟨rfl, hb4⟩; have hY := HY.out.trans (hb4.mono HY.out.size); have HY := Lib.hid hY; clear hY hb4)
                    go_wp2_with fail
                    refine hK.out _ _ (by exact KK.out _ HY.out) (fun hHeld => ?_)
                    clear hK K
                    try simp only [Act.put, List.setIfInBounds_toArray, List.set_cons_zero, List.set_cons_succ]
                    refine wpAnyH_done (by kernel_rfl) ?_ _
                    go_wp2
                    go_roundw
                    case rel => exact ⟨j + 1, by go_num, by omega, (show Aside _ from HBJ.out.trans (HY.out.mono HBJ.out.size))⟩
                    case measure => simp [intOf]; omega
                  · have dj : decide ((j : Int) < (k : Int)) = false := decide_eq_false (by omega)
                    have dj2 : decide (j < k) = false := decide_eq_false hjk
                    go_wp2
                    go_roundw
                    case rel => exact ⟨k + 1, by rw [HT.out], by go_num, by omega, hbj⟩
                    case measure => simp [intOf]; omega
              · have dk : decide ((k : Int) < (out2.length : Int)) = false := decide_eq_false (by omega)
                have dk2 : decide (k < out2.length) = false := decide_eq_false hkl
                have hkk : po.tt (out2.take k) = po.tt out2 := by rw [List.take_of_length_le (by omega)]
                go_wp2
                go_meet
                case rel => exact ⟨by rw [hkk], hbk⟩
          case rest =>
            obtain ⟨rfl, hbx⟩ := hcut
            have ps := ps.next hbx.out
            have hb := hb.trans (hbx.out.mono hb.size)
            obtain ⟨pf, qf, rfl⟩ := ps.rf.rdc.rd.len
            obtain ⟨pu, qu, rfl, hqu⟩ := ps.cu
            have hto := iv.ttl
            obtain ⟨tt2, htt⟩ : ∃ t, po.tt out2 = t := ⟨_, rfl⟩
            obtain ⟨tf, htf⟩ : ∃ t, tot p2.free = t := ⟨_, rfl⟩
            rw [htt, htf] at hto
            rw [htt]
            have p0 := (tot_pos iv.v.vn.1).1
            have p1 := po.tt_pos (a := out2) fun r hr => (iv.ok r hr).1.1
            rw [htf] at p0
            rw [htt] at p1
            have hwr : IntKind.i64.wrap (tt2 + tf) = P.size := by rw [IntKind.wrap_i64]; omega
            have HPW : Hid (∀ W, RowKit.Below wc.heap.size wc W → PolW W (aggP p2 (.slice pf p2.free.length qf) (.slice pu p2.uses.length qu)) p2) := fun W hb => ⟨(ps.next hb).pool, by omega, by omega⟩
            have HV := Lib.hid (And.intro iv.v htf)
            have HIV := Lib.hid (And.intro iv ho2)
            have HPS := Lib.hid (And.intro ps hb)
            have HY : Hid (RowKit.Below wc.heap.size wc wc.drew) := (Below.refl _ wc).drew
            go_upto_region 36 with fail
            have KK : Hid (∀ W, RowKit.Below wc.heap.size wc W → (fun W => W.cell? ⟨B, 0, none⟩ = some (.int .i64 p2.size) ∧ W.cell? ⟨B, 1, none⟩ = some (.int .i64 p2.grain) ∧ W.cell? ⟨B, 2, none⟩ = some (.int .i64 p2.quota) ∧ W.cell? ⟨B, 3, none⟩ = some (.bool p2.drain) ∧ W.cell? ⟨B, 4, none⟩ = some (.bool p2.best) ∧ W.cell? ⟨B, 5, none⟩ = some (.slice pf p2.free.length qf) ∧ W.cell? ⟨B, 6, none⟩ = some (.slice pu p2.uses.length qu) ∧ W.cell? ⟨C, 0, none⟩ = some (.int .i64 P.size)) W) := fun W hb => ⟨cell_of_row W B 0 _ _ (0, 0) (ps.next hb).b7, cell_of_row W B 1 _ _ (0, 0) (ps.next hb).b7, cell_of_row W B 2 _ _ (0, 0) (ps.next hb).b7, cell_of_row W B 3 _ _ (0, 0) (ps.next hb).b7, cell_of_row W B 4 _ _ (0, 0) (ps.next hb).b7, cell_of_row W B 5 _ _ (0, 0) (ps.next hb).b7, cell_of_row W B 6 _ _ (0, 0) (ps.next hb).b7, cell_of_row W C 0 _ _ (0, 0) (ps.next hb).b9⟩
            clear ps hb iv hto htt htf p0 p1 f1 f2 f3 hbx ho2 hco hqu
            go_region_held3 (fun W => W.cell? ⟨B, 0, none⟩ = some (.int .i64 p2.size) ∧ W.cell? ⟨B, 1, none⟩ = some (.int .i64 p2.grain) ∧ W.cell? ⟨B, 2, none⟩ = some (.int .i64 p2.quota) ∧ W.cell? ⟨B, 3, none⟩ = some (.bool p2.drain) ∧ W.cell? ⟨B, 4, none⟩ = some (.bool p2.best) ∧ W.cell? ⟨B, 5, none⟩ = some (.slice pf p2.free.length qf) ∧ W.cell? ⟨B, 6, none⟩ = some (.slice pu p2.uses.length qu) ∧ W.cell? ⟨C, 0, none⟩ = some (.int .i64 P.size)) (exact KK.out _ HY.out) (first | (go_at_call 10; (with_reducible refine (Check_yes (HPW.out _ HY.out) HV.out.1).mono ?_); rintro e w4 ⟨rfl, hb4⟩; have hY := HY.out.trans (hb4.mono HY.out.size); have HY := Lib.hid hY; clear hY hb4) | (go_at_call 12; (with_reducible refine (Free_yes (HPW.out _ HY.out) HV.out.1).mono ?_); rintro e w4 ⟨rfl, hb4⟩; rw [HV.out.2]; have hY := HY.out.trans (hb4.mono HY.out.size); have HY := Lib.hid hY; clear hY hb4))
            go_wp2
            go_roundw
            case rel => exact ⟨i + 1, by go_num, by omega, p2, _, _, rs2, out2, who2, HPS.out.1.next HY.out, HIV.out.1, HIV.out.2, HPS.out.2.trans (HY.out.mono HPS.out.2.size)⟩
            case measure => simp [intOf]; omega
    · go_upto_region 10 with fail
      go_cut [61] from 54 to 60 (fun s61 wx => s61 = .bool false ∧ wr = wx)
      case first =>
        by_cases h1 : i < L.length
        · have d1 : decide ((i : Int) < (L.length : Int)) = true := decide_eq_true (by omega)
          have d1' : decide (i < L.length) = true := decide_eq_true h1
          have d2 : decide ((i : Int) < 30) = false := decide_eq_false (by omega)
          go_wp2_with fail
          go_meet
          case rel => exact ⟨rfl, rfl⟩
        · have d1 : decide ((i : Int) < (L.length : Int)) = false := decide_eq_false (by omega)
          have d1' : decide (i < L.length) = false := decide_eq_false h1
          go_wp2_with fail
          go_meet
          case rel => exact ⟨rfl, rfl⟩
      case rest =>
        obtain ⟨rfl, hwc⟩ := hcut
        subst hwc
        obtain ⟨qo, co, rfl, hco⟩ := ps.lenO
        obtain ⟨qs, cs, rfl, hcs⟩ := ps.lenS
        have HLN := Lib.hid iv.ln
        have hlo : out.length ≤ 30 := by omega
        have HS4 : Hid (PE w B C D P (.slice af P.free.length cf) (.slice au P.uses.length cu) (.slice qo out.length co) (.slice qs who.length cs) rs out who 0 wr) := ⟨p, _, _, ps, iv, hb⟩
        clear ps iv hb fa hlt ho
        go_wp2_with fail
        go_loopw [24] (fun s24 wr4 => ∃ k : Nat, s24 = .int .i64 k ∧ k ≤ out.length ∧ Aside (PE w B C D P (.slice af P.free.length cf) (.slice au P.uses.length cu) (.slice qo out.length co) (.slice qs who.length cs) rs out who k wr4)) (fun s24 _ => out.length - (intOf s24).toNat)
        case atStart => exact ⟨0, rfl, Nat.zero_le _, HS4.out⟩
        case round =>
          clear HS4
          obtain ⟨k, rfl, hk0, hPE⟩ := hrel
          obtain ⟨p, vf, vu, ps, iv, hb⟩ := hPE.out
          clear hPE
          by_cases hk : k < out.length
          · have dk : decide ((k : Int) < (out.length : Int)) = true := decide_eq_true (by omega)
            have dk2 : decide (k < out.length) = true := decide_eq_true hk
            obtain ⟨hr, ivQ⟩ := iv.front hP hk HLN.out
            go_upto_region 41 with fail
            obtain ⟨pf, qf, rfl⟩ := ps.rf.rdc.rd.len
            obtain ⟨pu, qu, rfl, hqu⟩ := ps.cu
            obtain ⟨f1, f2, f3⟩ := iv.few hP
            have hkw : k < who.length := by have := HLN.out; omega
            obtain ⟨gw, cw, ew, hlew, hcw⟩ := ps.who_at hkw
            obtain ⟨go, cgo, eo, hleo, hco3⟩ := ps.out_at hk
            simp only [Value.slice.injEq] at ew eo
            obtain ⟨rfl, _, rfl⟩ := ew
            obtain ⟨rfl, _, rfl⟩ := eo
            have hrow := ps.row hk
            obtain ⟨pr, cr, er⟩ := hrow.len
            rw [er] at hrow hco3
            have hlw : gw < wr.heap.size := cell_lt hcw
            have hlg : go < wr.heap.size := cell_lt hco3
            have HPW : Hid (∀ W, RowKit.Below wr.heap.size wr W → PolW W (aggP p (.slice pf p.free.length qf) (.slice pu p.uses.length qu)) p) := fun W hb => ⟨(ps.next hb).pool, by omega, by omega⟩
            have HRW : Hid (∀ W, RowKit.Below wr.heap.size wr W → Rd W (.slice pr out[k]!.length cr) out[k]!) := fun W hb => hrow.next hb
            obtain ⟨ro, hro⟩ : ∃ ro, out[k]! = ro := ⟨_, rfl⟩
            obtain ⟨uo, huo⟩ : ∃ uo, who[k]! = uo := ⟨_, rfl⟩
            rw [huo] at hcw hr ivQ
            rw [hro] at hco3 hr ivQ HRW
            obtain ⟨so, hso⟩ : ∃ so, str uo = so := ⟨_, rfl⟩
            rw [hso] at hcw
            have HCR : Hid (∀ W, PolW W (aggP p (.slice pf p.free.length qf) (.slice pu p.uses.length qu)) p → Rd W (.slice pr ro.length cr) ro → Calls Try.prog 15 #[aggP p (.slice pf p.free.length qf) (.slice pu p.uses.length qu), .string so, .slice pr ro.length cr] W fun e w' => ∃ va, e = .returned (.tuple #[va, .int .i64 0]) ∧ PolN W.heap.size w' va (po.rP p uo ro) ∧ RowKit.Below W.heap.size W w') := fun W h h2 => by have := Return_new h uo h2 hr; rwa [hso] at this
            clear hr hrow er hro huo hso hleo hlew
            generalize po.rP p uo ro = Q at *
            go_cut [25, 26] from 199 to 211 (fun s16 s17 wx => RetC wr Q s16 s17 wx)
            case first =>
              have KK : Hid (∀ W, RowKit.Below wr.heap.size wr W → (fun W => W.cell? ⟨B, 0, none⟩ = some (.int .i64 p.size) ∧ W.cell? ⟨B, 1, none⟩ = some (.int .i64 p.grain) ∧ W.cell? ⟨B, 2, none⟩ = some (.int .i64 p.quota) ∧ W.cell? ⟨B, 3, none⟩ = some (.bool p.drain) ∧ W.cell? ⟨B, 4, none⟩ = some (.bool p.best) ∧ W.cell? ⟨B, 5, none⟩ = some (.slice pf p.free.length qf) ∧ W.cell? ⟨B, 6, none⟩ = some (.slice pu p.uses.length qu) ∧ W.cell? ⟨gw, k, none⟩ = some (.string so) ∧ W.cell? ⟨go, k, none⟩ = some (.slice pr ro.length cr)) W) := fun W hb => ⟨cell_of_row W B 0 _ _ (0, 0) (ps.next hb).b7, cell_of_row W B 1 _ _ (0, 0) (ps.next hb).b7, cell_of_row W B 2 _ _ (0, 0) (ps.next hb).b7, cell_of_row W B 3 _ _ (0, 0) (ps.next hb).b7, cell_of_row W B 4 _ _ (0, 0) (ps.next hb).b7, cell_of_row W B 5 _ _ (0, 0) (ps.next hb).b7, cell_of_row W B 6 _ _ (0, 0) (ps.next hb).b7, (hb.cell (p := ⟨gw, k, none⟩) hlw).trans hcw, (hb.cell (p := ⟨go, k, none⟩) hlg).trans hco3⟩
              have HY : Hid (RowKit.Below wr.heap.size wr wr.drew) := (Below.refl _ wr).drew
              refine wp_region_held_drew (S := (fun W => W.cell? ⟨B, 0, none⟩ = some (.int .i64 p.size) ∧ W.cell? ⟨B, 1, none⟩ = some (.int .i64 p.grain) ∧ W.cell? ⟨B, 2, none⟩ = some (.int .i64 p.quota) ∧ W.cell? ⟨B, 3, none⟩ = some (.bool p.drain) ∧ W.cell? ⟨B, 4, none⟩ = some (.bool p.best) ∧ W.cell? ⟨B, 5, none⟩ = some (.slice pf p.free.length qf) ∧ W.cell? ⟨B, 6, none⟩ = some (.slice pu p.uses.length qu) ∧ W.cell? ⟨gw, k, none⟩ = some (.string so) ∧ W.cell? ⟨go, k, none⟩ = some (.slice pr ro.length cr))) (by kernel_rfl) (by exact KK.out _ HY.out) (fun hHeld => ?_)
              refine wpAnyH_take (i := 0) (v := ?_) (ata at0) (by kernel_rfl) (by kernel_rfl) (by kernel_rfl) (fun _ _ _ h => h) (Or.inl ⟨by rfl, ?_⟩) (by assumption) ?_
              rotate_left
              · (intro w hSw; (try dsimp only at hSw); go_simp; (first | done | with_reducible rfl))
              try simp only [Act.put, List.setIfInBounds_toArray, List.set_cons_zero, List.set_cons_succ]
              refine wpAnyH_take (i := 1) (v := ?_) (ata (atS at0)) (by kernel_rfl) (by kernel_rfl) (by kernel_rfl) (fun _ _ _ h => h) (Or.inl ⟨by rfl, ?_⟩) (by assumption) ?_
              rotate_left
              · (intro w hSw; (try dsimp only at hSw); go_simp; (first | done | with_reducible rfl))
              try simp only [Act.put, List.setIfInBounds_toArray, List.set_cons_zero, List.set_cons_succ]
              refine wpAnyH_take (i := 2) (v := ?_) (ata (atS (atS at0))) (by kernel_rfl) (by kernel_rfl) (by kernel_rfl) (fun _ _ _ h => h) (Or.inl ⟨by rfl, ?_⟩) (by assumption) ?_
              rotate_left
              · (intro w hSw; (try dsimp only at hSw); go_simp; (first | done | with_reducible rfl))
              try simp only [Act.put, List.setIfInBounds_toArray, List.set_cons_zero, List.set_cons_succ]
              refine wpAnyH_take (i := 3) (v := ?_) (ata (atS (atS (atS at0)))) (by kernel_rfl) (by kernel_rfl) (by kernel_rfl) (fun _ _ _ h => h) (Or.inl ⟨by rfl, ?_⟩) (by assumption) ?_
              rotate_left
              · (intro w hSw; (try dsimp only at hSw); go_simp; (first | done | with_reducible rfl))
              try simp only [Act.put, List.setIfInBounds_toArray, List.set_cons_zero, List.set_cons_succ]
              refine wpAnyH_take (i := 4) (v := ?_) (ata (atS (atS (atS (atS at0))))) (by kernel_rfl) (by kernel_rfl) (by kernel_rfl) (fun _ _ _ h => h) (Or.inl ⟨by rfl, ?_⟩) (by assumption) ?_
              rotate_left
              · (intro w hSw; (try dsimp only at hSw); go_simp; (first | done | with_reducible rfl))
              try simp only [Act.put, List.setIfInBounds_toArray, List.set_cons_zero, List.set_cons_succ]
              refine wpAnyH_take (i := 5) (v := ?_) (ata (atS (atS (atS (atS (atS at0)))))) (by kernel_rfl) (by kernel_rfl) (by kernel_rfl) (fun _ _ _ h => h) (Or.inl ⟨by rfl, ?_⟩) (by assumption) ?_
              rotate_left
              · (intro w hSw; (try dsimp only at hSw); go_simp; (first | done | with_reducible rfl))
              try simp only [Act.put, List.setIfInBounds_toArray, List.set_cons_zero, List.set_cons_succ]
              refine wpAnyH_take (i := 6) (v := ?_) (ata (atS (atS (atS (atS (atS (atS at0))))))) (by kernel_rfl) (by kernel_rfl) (by kernel_rfl) (fun _ _ _ h => h) (Or.inl ⟨by rfl, ?_⟩) (by assumption) ?_
              rotate_left
              · (intro w hSw; (try dsimp only at hSw); go_simp; (first | done | with_reducible rfl))
              try simp only [Act.put, List.setIfInBounds_toArray, List.set_cons_zero, List.set_cons_succ]
              refine wpAnyH_take (i := 7) (v := ?_) (ata (atS (atS (atS (atS (atS (atS (atS at0)))))))) (by kernel_rfl) (by kernel_rfl) (by kernel_rfl) (fun _ _ _ h => h) (Or.inl ⟨by rfl, ?_⟩) (by assumption) ?_
              rotate_left
              · (intro w hSw; (try dsimp only at hSw); go_simp; (first | done | with_reducible rfl))
              try simp only [Act.put, List.setIfInBounds_toArray, List.set_cons_zero, List.set_cons_succ]
              refine wpAnyH_take (i := 8) (v := ?_) (ata (atS (atS (atS (atS (atS (atS (atS (atS at0))))))))) (by kernel_rfl) (by kernel_rfl) (by kernel_rfl) (fun _ _ _ h => h) (Or.inl ⟨by rfl, ?_⟩) (by assumption) ?_
              rotate_left
              · (intro w hSw; (try dsimp only at hSw); go_simp; (first | done | with_reducible rfl))
              try simp only [Act.put, List.setIfInBounds_toArray, List.set_cons_zero, List.set_cons_succ]
              refine wpAnyH_ready (rs := [9, 13]) (by kernel_rfl) (by simp) ?_
              refine AllReadyH.cons (ata (atS (atS (atS (atS (atS (atS (atS (atS (atS at0)))))))))) (fun K hK => ?_) (AllReadyH.cons (ata (atS (atS (atS (atS (atS (atS (atS (atS (atS (atS (atS (atS (atS at0)))))))))))))) (fun K hK => ?_) AllReadyH.nil)
              · go_simp
                (go_at_call 15; (with_reducible refine (HCR.out _ (HPW.out _ HY.out) (HRW.out _ HY.out)).mono ?_); rintro e w7 ⟨va, rfl, ⟨v6, v7, rfl, r6, r7, q7, c7, rfl, hle7⟩, hb1⟩; obtain ⟨p6, c6, e6⟩ := r6.rd.len; subst e6; have hY := HY.out.trans (hb1.mono HY.out.size); have HR := Lib.hid (And.intro r6 (And.intro r7 hle7)); have HY := Lib.hid hY; clear hY hb1 r6 r7 hle7)
                go_wp2_with fail
                refine hK.out _ _ (by exact KK.out _ HY.out) (fun hHeld => ?_)
                clear hK K
                try simp only [Act.put, List.setIfInBounds_toArray, List.set_cons_zero, List.set_cons_succ]
                refine wpAnyH_take (i := 10) (v := ?_) (ata (atS (atS (atS (atS (atS (atS (atS (atS (atS (atS at0))))))))))) (by kernel_rfl) (by kernel_rfl) (by kernel_rfl) (fun _ _ _ h => h) (Or.inl ⟨by rfl, ?_⟩) (by assumption) ?_
                rotate_left
                · (intro w hSw; (try dsimp only at hSw); go_simp; (first | done | with_reducible rfl))
                try simp only [Act.put, List.setIfInBounds_toArray, List.set_cons_zero, List.set_cons_succ]
                refine wpAnyH_take (i := 11) (v := ?_) (ata (atS (atS (atS (atS (atS (atS (atS (atS (atS (atS (atS at0)))))))))))) (by kernel_rfl) (by kernel_rfl) (by kernel_rfl) (fun _ _ _ h => h) (Or.inl ⟨by rfl, ?_⟩) (by assumption) ?_
                rotate_left
                · (intro w hSw; (try dsimp only at hSw); go_simp; (first | done | with_reducible rfl))
                try simp only [Act.put, List.setIfInBounds_toArray, List.set_cons_zero, List.set_cons_succ]
                refine wpAnyH_take (i := 12) (v := ?_) (ata (atS (atS (atS (atS (atS (atS (atS (atS (atS (atS (atS (atS at0))))))))))))) (by kernel_rfl) (by kernel_rfl) (by kernel_rfl) (fun _ _ _ h => h) (Or.inl ⟨by rfl, ?_⟩) (by assumption) ?_
                rotate_left
                · (intro w hSw; (try dsimp only at hSw); go_simp; (first | done | with_reducible rfl))
                try simp only [Act.put, List.setIfInBounds_toArray, List.set_cons_zero, List.set_cons_succ]
                refine wpAnyH_ready (rs := [13]) (by kernel_rfl) (by simp) ?_
                refine AllReadyH.cons (ata (atS (atS (atS (atS (atS (atS (atS (atS (atS (atS (atS (atS (atS at0)))))))))))))) (fun K hK => ?_) AllReadyH.nil
                go_simp
                refine hK.out _ _ (by exact KK.out _ (HY.out.alloc HY.out.size _)) (fun hHeld => ?_)
                clear hK K
                try simp only [Act.put, List.setIfInBounds_toArray, List.set_cons_zero, List.set_cons_succ]
                have hBy : wr.heap.size ≤ w7.heap.size := HY.out.size
                obtain ⟨ya, hya⟩ : ∃ y, World.alloc w7 (.cells #[.int .i64 0, .int .i64 0, .int .i64 0, .bool false, .bool false, .slice none 0 0, .slice none 0 0] 25) = y := ⟨_, rfl⟩
                rw [hya]
                have hYa : RowKit.Below wr.heap.size wr ya := by rw [← hya]; exact HY.out.alloc HY.out.size _
                have HY := Lib.hid hYa
                have HO : Hid (RowKit.Below w7.heap.size w7 ya) := by show RowKit.Below _ _ _; rw [← hya]; exact ((Below.refl _ w7).alloc (Nat.le_refl _) _)
                have HZ : Hid (ya.heap[w7.heap.size]? = some (.cells #[.int .i64 0, .int .i64 0, .int .i64 0, .bool false, .bool false, .slice none 0 0, .slice none 0 0] 25 (0, 0))) := by show _ = _; rw [← hya]; exact World.alloc_heap_new w7 _
                clear hya hYa
                refine wpAnyH_ready (rs := [14]) (by kernel_rfl) (by simp) ?_
                refine AllReadyH.cons (ata (atS (atS (atS (atS (atS (atS (atS (atS (atS (atS (atS (atS (atS (atS at0))))))))))))))) (fun K hK => ?_) AllReadyH.nil
                refine wp_store_row _ _ _ rfl w7.heap.size #[.int .i64 Q.size, .int .i64 Q.grain, .int .i64 Q.quota, .bool Q.drain, .bool Q.best, .slice p6 Q.free.length c6, .slice q7 Q.uses.length c7] rfl rfl 25 #[.int .i64 0, .int .i64 0, .int .i64 0, .bool false, .bool false, .slice none 0 0, .slice none 0 0] HZ.out (by kernel_rfl) rfl (by kernel_rfl) ?_
                refine hK.out _ _ (by exact KK.out _ (below_setRow HY.out hBy _)) (fun hHeld => ?_)
                clear hK K
                try simp only [Act.put, List.setIfInBounds_toArray, List.set_cons_zero, List.set_cons_succ]
                refine wpAnyH_take (i := 15) (v := ?_) (ata (atS (atS (atS (atS (atS (atS (atS (atS (atS (atS (atS (atS (atS (atS (atS at0)))))))))))))))) (by kernel_rfl) (by kernel_rfl) (by kernel_rfl) (fun _ _ _ h => h) (Or.inl ⟨by rfl, ?_⟩) (by assumption) ?_
                rotate_left
                · (intro w hSw; (try dsimp only at hSw); go_simp; (first | done | with_reducible rfl))
                try simp only [Act.put, List.setIfInBounds_toArray, List.set_cons_zero, List.set_cons_succ]
                refine wpAnyH_done (by kernel_rfl) ?_ _
                have hYf := below_setRow HY.out hBy #[.int .i64 Q.size, .int .i64 Q.grain, .int .i64 Q.quota, .bool Q.drain, .bool Q.best, .slice p6 Q.free.length c6, .slice q7 Q.uses.length c7]
                have hWf := below_setRow HO.out (Nat.le_refl _) #[.int .i64 Q.size, .int .i64 Q.grain, .int .i64 Q.quota, .bool Q.drain, .bool Q.best, .slice p6 Q.free.length c6, .slice q7 Q.uses.length c7]
                obtain ⟨r6, r7, hle7⟩ := HR.out
                go_wp2
                go_meet
                case rel => exact ⟨w7.heap.size, _, _, rfl, rfl, setRow_heap _ _ _ _ _ (0, 0) HZ.out, (RdO.next r6 hWf), (r7.next hWf), ⟨_, _, rfl, hle7⟩, hYf⟩
              · go_simp
                refine hK.out _ _ (by exact KK.out _ (HY.out.alloc HY.out.size _)) (fun hHeld => ?_)
                clear hK K
                try simp only [Act.put, List.setIfInBounds_toArray, List.set_cons_zero, List.set_cons_succ]
                have hBy : wr.heap.size ≤ wr.heap.size := Nat.le_refl _
                obtain ⟨ya, hya⟩ : ∃ y, World.drew (World.alloc wr (.cells #[.int .i64 0, .int .i64 0, .int .i64 0, .bool false, .bool false, .slice none 0 0, .slice none 0 0] 25)) = y := ⟨_, rfl⟩
                rw [hya]
                have hYa : RowKit.Below wr.heap.size wr ya := by rw [← hya]; exact ((Below.refl _ wr).alloc (Nat.le_refl _) _).drew
                have HY := Lib.hid hYa
                have HO : Hid (RowKit.Below wr.heap.size wr ya) := by show RowKit.Below _ _ _; rw [← hya]; exact ((Below.refl _ wr).alloc (Nat.le_refl _) _).drew
                have HZ : Hid (ya.heap[wr.heap.size]? = some (.cells #[.int .i64 0, .int .i64 0, .int .i64 0, .bool false, .bool false, .slice none 0 0, .slice none 0 0] 25 (0, 0))) := by show _ = _; rw [← hya]; exact World.alloc_heap_new wr _
                clear hya hYa
                refine wpAnyH_ready (rs := [9]) (by kernel_rfl) (by simp) ?_
                refine AllReadyH.cons (ata (atS (atS (atS (atS (atS (atS (atS (atS (atS at0)))))))))) (fun K hK => ?_) AllReadyH.nil
                go_simp
                (go_at_call 15; (with_reducible refine (HCR.out _ (HPW.out _ HY.out) (HRW.out _ HY.out)).mono ?_); rintro e w7 ⟨va, rfl, ⟨v6, v7, rfl, r6, r7, q7, c7, rfl, hle7⟩, hb1⟩; obtain ⟨p6, c6, e6⟩ := r6.rd.len; subst e6; have HYA : Hid (wr.heap.size < ya.heap.size) := (Array.getElem?_eq_some_iff.1 HZ.out).1; have hZ := (hb1.block wr.heap.size HYA.out).trans HZ.out; have HZ := Lib.hid hZ; clear hZ; have hY := HY.out.trans (hb1.mono HY.out.size); have HR := Lib.hid (And.intro r6 (And.intro r7 hle7)); have HY := Lib.hid hY; clear hY hb1 r6 r7 hle7)
                go_wp2_with fail
                refine hK.out _ _ (by exact KK.out _ HY.out) (fun hHeld => ?_)
                clear hK K
                try simp only [Act.put, List.setIfInBounds_toArray, List.set_cons_zero, List.set_cons_succ]
                refine wpAnyH_take (i := 10) (v := ?_) (ata (atS (atS (atS (atS (atS (atS (atS (atS (atS (atS at0))))))))))) (by kernel_rfl) (by kernel_rfl) (by kernel_rfl) (fun _ _ _ h => h) (Or.inl ⟨by rfl, ?_⟩) (by assumption) ?_
                rotate_left
                · (intro w hSw; (try dsimp only at hSw); go_simp; (first | done | with_reducible rfl))
                try simp only [Act.put, List.setIfInBounds_toArray, List.set_cons_zero, List.set_cons_succ]
                refine wpAnyH_take (i := 11) (v := ?_) (ata (atS (atS (atS (atS (atS (atS (atS (atS (atS (atS (atS at0)))))))))))) (by kernel_rfl) (by kernel_rfl) (by kernel_rfl) (fun _ _ _ h => h) (Or.inl ⟨by rfl, ?_⟩) (by assumption) ?_
                rotate_left
                · (intro w hSw; (try dsimp only at hSw); go_simp; (first | done | with_reducible rfl))
                try simp only [Act.put, List.setIfInBounds_toArray, List.set_cons_zero, List.set_cons_succ]
                refine wpAnyH_take (i := 12) (v := ?_) (ata (atS (atS (atS (atS (atS (atS (atS (atS (atS (atS (atS (atS at0))))))))))))) (by kernel_rfl) (by kernel_rfl) (by kernel_rfl) (fun _ _ _ h => h) (Or.inl ⟨by rfl, ?_⟩) (by assumption) ?_
                rotate_left
                · (intro w hSw; (try dsimp only at hSw); go_simp; (first | done | with_reducible rfl))
                try simp only [Act.put, List.setIfInBounds_toArray, List.set_cons_zero, List.set_cons_succ]
                refine wpAnyH_ready (rs := [14]) (by kernel_rfl) (by simp) ?_
                refine AllReadyH.cons (ata (atS (atS (atS (atS (atS (atS (atS (atS (atS (atS (atS (atS (atS (atS at0))))))))))))))) (fun K hK => ?_) AllReadyH.nil
                refine wp_store_row _ _ _ rfl wr.heap.size #[.int .i64 Q.size, .int .i64 Q.grain, .int .i64 Q.quota, .bool Q.drain, .bool Q.best, .slice p6 Q.free.length c6, .slice q7 Q.uses.length c7] rfl rfl 25 #[.int .i64 0, .int .i64 0, .int .i64 0, .bool false, .bool false, .slice none 0 0, .slice none 0 0] HZ.out (by kernel_rfl) rfl (by kernel_rfl) ?_
                refine hK.out _ _ (by exact KK.out _ (below_setRow HY.out hBy _)) (fun hHeld => ?_)
                clear hK K
                try simp only [Act.put, List.setIfInBounds_toArray, List.set_cons_zero, List.set_cons_succ]
                refine wpAnyH_take (i := 15) (v := ?_) (ata (atS (atS (atS (atS (atS (atS (atS (atS (atS (atS (atS (atS (atS (atS (atS at0)))))))))))))))) (by kernel_rfl) (by kernel_rfl) (by kernel_rfl) (fun _ _ _ h => h) (Or.inl ⟨by rfl, ?_⟩) (by assumption) ?_
                rotate_left
                · (intro w hSw; (try dsimp only at hSw); go_simp; (first | done | with_reducible rfl))
                try simp only [Act.put, List.setIfInBounds_toArray, List.set_cons_zero, List.set_cons_succ]
                refine wpAnyH_done (by kernel_rfl) ?_ _
                have hYf := below_setRow HY.out hBy #[.int .i64 Q.size, .int .i64 Q.grain, .int .i64 Q.quota, .bool Q.drain, .bool Q.best, .slice p6 Q.free.length c6, .slice q7 Q.uses.length c7]
                obtain ⟨r6, r7, hle7⟩ := HR.out
                have hsm : Same 0 ya.heap.size w7 (w7.setRow wr.heap.size #[.int .i64 Q.size, .int .i64 Q.grain, .int .i64 Q.quota, .bool Q.drain, .bool Q.best, .slice p6 Q.free.length c6, .slice q7 Q.uses.length c7]) := Same.row _ _ _ (Nat.zero_le _) HYA.out
                have hya2 := HYA.out
                go_wp2
                go_meet
                case rel => exact ⟨wr.heap.size, _, _, rfl, rfl, setRow_heap _ _ _ _ _ (0, 0) HZ.out, ((RdO.same r6 hsm).sub (Nat.le_refl _) (by omega)), ((r7.same hsm).sub (Nat.le_refl _) (by omega)), ⟨_, _, rfl, hle7⟩, hYf⟩
            case rest =>
              obtain ⟨b8, v6, v7, rfl, rfl, hx, r6, r7, q7, hbw⟩ := hcut
              clear HPW HCR HRW
              have ps2 := ps.next hbw
              have r6 := ps.fresh r6
              have r7 := ps.fresh r7
              obtain ⟨p6, c6, rfl⟩ := r6.rdc.rd.len
              obtain ⟨p7, c7, rfl, hle7⟩ := q7
              have y0 := cell_of_row wc b8 0 _ _ (0, 0) hx; have y1 := cell_of_row wc b8 1 _ _ (0, 0) hx; have y2 := cell_of_row wc b8 2 _ _ (0, 0) hx; have y3 := cell_of_row wc b8 3 _ _ (0, 0) hx; have y4 := cell_of_row wc b8 4 _ _ (0, 0) hx; have y5 := cell_of_row wc b8 5 _ _ (0, 0) hx; have y6 := cell_of_row wc b8 6 _ _ (0, 0) hx
              have ps3 := ps2.store (q := Q) r6 r7 ⟨p7, c7, rfl, hle7⟩
              have hb3 := hb.trans (hbw.mono hb.size)
              have hb3 := below_setRow hb3 ps.n7 #[.int .i64 Q.size, .int .i64 Q.grain, .int .i64 Q.quota, .bool Q.drain, .bool Q.best, .slice p6 Q.free.length c6, .slice p7 Q.uses.length c7]
              have HP2 := Lib.hid ps2
              have HP3 := Lib.hid (And.intro ps3 hb3)
              clear ps2 ps3 hb3 r6 r7 ps hb hcw hco3
              go_wp2_with (refine wpList_store_row rfl _ _ _ rfl B #[.int .i64 Q.size, .int .i64 Q.grain, .int .i64 Q.quota, .bool Q.drain, .bool Q.best, .slice p6 Q.free.length c6, .slice p7 Q.uses.length c7] rfl rfl 25 #[.int .i64 p.size, .int .i64 p.grain, .int .i64 p.quota, .bool p.drain, .bool p.best, .slice pf p.free.length qf, .slice pu p.uses.length qu] HP2.out.b7 (by kernel_rfl) rfl (by kernel_rfl) ?_)
              go_roundw
              case rel => exact ⟨k + 1, by go_num, by omega, Q, _, _, HP3.out.1, ivQ, HP3.out.2⟩
              case measure => simp [intOf]; omega
          · have dk : decide ((k : Int) < (out.length : Int)) = false := decide_eq_false (by omega)
            have dk2 : decide (k < out.length) = false := decide_eq_false hk
            rw [List.drop_eq_nil_of_le (show out.length ≤ k by omega), List.drop_eq_nil_of_le (show who.length ≤ k by have := HLN.out; omega)] at iv
            have hpf := iv.done
            obtain ⟨f1, f2, f3⟩ := iv.few hP
            clear iv f3
            subst hpf
            obtain ⟨pf, qf, rfl⟩ := ps.rf.rdc.rd.len
            obtain ⟨pu, qu, rfl, hqu⟩ := ps.cu
            have y0 := cell_of_row wr B 0 _ _ (0, 0) ps.b7; have y1 := cell_of_row wr B 1 _ _ (0, 0) ps.b7; have y2 := cell_of_row wr B 2 _ _ (0, 0) ps.b7; have y3 := cell_of_row wr B 3 _ _ (0, 0) ps.b7; have y4 := cell_of_row wr B 4 _ _ (0, 0) ps.b7; have y5 := cell_of_row wr B 5 _ _ (0, 0) ps.b7; have y6 := cell_of_row wr B 6 _ _ (0, 0) ps.b7
            have x0 := cell_of_row wr C 0 _ _ (0, 0) ps.b9; have x1 := cell_of_row wr C 1 _ _ (0, 0) ps.b9; have x2 := cell_of_row wr C 2 _ _ (0, 0) ps.b9; have x3 := cell_of_row wr C 3 _ _ (0, 0) ps.b9; have x4 := cell_of_row wr C 4 _ _ (0, 0) ps.b9; have x5 := cell_of_row wr C 5 _ _ (0, 0) ps.b9; have x6 := cell_of_row wr C 6 _ _ (0, 0) ps.b9
            have HB := Lib.hid hb
            have HQ := Lib.hid (And.intro ps.pool ps.first)
            clear hb ps hqu
            go_wp2_with fail
            refine Calls.mono (PSame_yes HQ.out.1 HQ.out.2 (by omega) (by omega)) ?_
            rintro e z1 ⟨rfl, hb1⟩
            have HB1 := Lib.hid (HB.out.trans (hb1.mono HB.out.size))
            clear hb1
            go_wp2_with fail
            refine Calls.mono (head_any _) ?_
            rintro e z2 ⟨rfl, hb2⟩
            have HB2 := Lib.hid (HB1.out.trans (hb2.mono HB1.out.size))
            clear hb2
            go_wp2_with fail
            go_ret
            exact ⟨rfl, HB2.out⟩
theorem plays_law {w : World} {va : Value} {L : List Ac} (hA : RdA w va L) (size grain quota : Int) :
    Calls Try.prog 4 #[.agg #[.int .i64 size, .int .i64 grain, .int .i64 quota, va]] w (TellsB true w) := by
  by_cases hok : NOk size grain quota true
  · by_cases hs : size ≤ 1000
    · exact plays_ok hA size grain quota hok hs
    · exact plays_big hA size grain quota hok (by omega)
  · exact plays_no hA size grain quota hok
end Go.Proofs.Ytdjpnlkhdilakaa.gn
