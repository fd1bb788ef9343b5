/- PoolPlays: the ways that end ahead of the loop (written by gen_poJ.py). -/
import Derived.Test.YtdjpnlkhdilakaaPoX
import Derived.Test.YtdjpnlkhdilakaaPoS
import Derived.Test.YtdjpnlkhdilakaaPoY
set_option linter.unusedVariables false
set_option linter.unusedSimpArgs false
set_option maxRecDepth 100000
namespace Go.Proofs.Ytdjpnlkhdilakaa.gn
open Go.RowKit Go.Shelf Go.Sort Go.Lib
open Go.Proofs.Ytdjpnlkhdilakaa.ex
open Go.Proofs.Ytdjpnlkhdilakaa.po (Nm U less Pl)

attribute [local go_sem] Oper.semAt_some
attribute [local go_sem ↓] Go.wp_at_zero Go.wp_at_succ

theorem RdA.len {w : World} {v : Value} {L : List Ac} (h : RdA w v L) : ∃ p c, v = .slice p L.length c := by
  rcases h with ⟨p, c, rfl, rfl⟩ | ⟨b, off, c, rfl, _⟩
  · exact ⟨p, c, rfl⟩
  · exact ⟨_, _, rfl⟩
theorem NOk.any {s g q : Int} {b c : Bool} (h : NOk s g q b) : NOk s g q c :=
  ⟨h.s, h.g, ⟨⟨h.v.vb.s, h.v.vb.g, h.v.vb.q, h.v.vb.g0, h.v.vb.d⟩, h.v.vf, h.v.vn, h.v.vi, h.v.vr, h.v.vo, h.v.va⟩⟩
set_option maxHeartbeats 4000000 in
theorem plays_no {w : World} {va : Value} {L : List Ac} (hA : RdA w va L) (size grain quota : Int) (hno : ¬ NOk size grain quota true) :
    Calls Try.prog 4 #[.agg #[.int .i64 size, .int .i64 grain, .int .i64 quota, va]] w (TellsB true w) := by
  obtain ⟨pa, ca, rfl⟩ := hA.len
  have mixed : Try.prog.follows .mixedOrders = true := by kernel_rfl
  have hb0 : RowKit.Below w.heap.size w (w.alloc (.cells #[.int .i64 size, .int .i64 grain, .int .i64 quota, .slice pa L.length ca] 44)) := (Below.refl _ w).alloc (Nat.le_refl _) _
  have hh := World.alloc_heap_new w (.cells #[.int .i64 size, .int .i64 grain, .int .i64 quota, .slice pa L.length ca] 44)
  have k0 : (w.alloc (.cells #[.int .i64 size, .int .i64 grain, .int .i64 quota, .slice pa L.length ca] 44)).cell? ⟨w.heap.size, 0, none⟩ = some (.int .i64 size) := cell_of_row _ _ 0 _ _ (0, 0) hh
  have k1 : (w.alloc (.cells #[.int .i64 size, .int .i64 grain, .int .i64 quota, .slice pa L.length ca] 44)).cell? ⟨w.heap.size, 1, none⟩ = some (.int .i64 grain) := cell_of_row _ _ 1 _ _ (0, 0) hh
  have k2 : (w.alloc (.cells #[.int .i64 size, .int .i64 grain, .int .i64 quota, .slice pa L.length ca] 44)).cell? ⟨w.heap.size, 2, none⟩ = some (.int .i64 quota) := cell_of_row _ _ 2 _ _ (0, 0) hh
  have k3 : (w.alloc (.cells #[.int .i64 size, .int .i64 grain, .int .i64 quota, .slice pa L.length ca] 44)).cell? ⟨w.heap.size, 3, none⟩ = some (.slice pa L.length ca) := cell_of_row _ _ 3 _ _ (0, 0) hh
  have Fa := hA.next hb0
  have lw : w.heap.size < (w.alloc (.cells #[.int .i64 size, .int .i64 grain, .int .i64 quota, .slice pa L.length ca] 44)).heap.size := by simp
  clear hh hA
  go_enter Try.func4, Try.ntmps4
  go_upto_region 1 with fail
  obtain ⟨w0, hw0⟩ : ∃ w0, w.alloc (.cells #[.int .i64 size, .int .i64 grain, .int .i64 quota, .slice pa L.length ca] 44) = w0 := ⟨_, rfl⟩
  rw [hw0] at hb0 k0 k1 k2 k3 Fa lw ⊢
  clear hw0
  go_quiet (fail)
  have HB : Hid (RowKit.Below w.heap.size w (w0.drewN nq)) := ⟨hb0.os, hb0.tape, hb0.output, hb0.size, hb0.block⟩
  replace Fa : RdA (w0.drewN nq) (.slice pa L.length ca) L := Fa.next ⟨rfl, rfl, rfl, Nat.le_refl _, fun _ _ => rfl⟩
  have lY : w.heap.size < (w0.drewN nq).heap.size := lw
  generalize w0.drewN nq = y0 at *
  clear hb0 k0 k1 k2 k3 lw
  go_wp2_with fail
  refine Calls.mono (New_no (fun h => hno h.any) _) ?_
  rintro e z1 ⟨rfl, hb⟩
  have hx1 : RowKit.Below y0.heap.size y0 z1 := by
    refine Below.trans ?_ (hb.mono ?_)
    · (first | exact Below.refl _ _ | exact (Below.refl _ _).alloc (by simp) _ | exact ((Below.refl _ _).alloc (by simp) _).alloc (by simp) _ | exact (((Below.refl _ _).alloc (by simp) _).alloc (by simp) _).alloc (by simp) _)
    · first | exact Nat.le_refl _ | (simp; done) | (simp; omega)
  replace Fa := Fa.next hx1
  replace HB := Lib.hid (HB.out.trans (hx1.mono HB.out.size))
  clear hb hx1
  go_wp2_with fail
  obtain ⟨y2, hy2⟩ : ∃ y, z1.alloc (.cells #[.int .i64 0, .int .i64 0, .int .i64 0, .bool false, .bool false, .slice none 0 0, .slice none 0 0] 25) = y := ⟨_, rfl⟩
  have hx2 : RowKit.Below z1.heap.size z1 y2 := by rw [← hy2]; exact below_box _ _
  replace Fa := Fa.next hx2
  replace HB := Lib.hid (HB.out.trans (hx2.mono HB.out.size))
  rw [hy2]
  clear hy2
  refine Calls.mono (head_any _) ?_
  rintro e z3 ⟨rfl, hb⟩
  have hx3 : RowKit.Below y2.heap.size y2 z3 := by
    refine Below.trans ?_ (hb.mono ?_)
    · (first | exact Below.refl _ _ | exact (Below.refl _ _).alloc (by simp) _ | exact ((Below.refl _ _).alloc (by simp) _).alloc (by simp) _ | exact (((Below.refl _ _).alloc (by simp) _).alloc (by simp) _).alloc (by simp) _)
    · first | exact Nat.le_refl _ | (simp; done) | (simp; omega)
  replace Fa := Fa.next hx3
  replace HB := Lib.hid (HB.out.trans (hx3.mono HB.out.size))
  clear hb hx3
  go_wp2_with fail
  go_ret
  exact ⟨rfl, HB.out⟩
set_option maxHeartbeats 4000000 in
theorem plays_big {w : World} {va : Value} {L : List Ac} (hA : RdA w va L) (size grain quota : Int) (hok : NOk size grain quota true) (hbig : 1000 < size) :
    Calls Try.prog 4 #[.agg #[.int .i64 size, .int .i64 grain, .int .i64 quota, va]] w (TellsB true w) := by
  obtain ⟨pa, ca, rfl⟩ := hA.len
  have mixed : Try.prog.follows .mixedOrders = true := by kernel_rfl
  have hb0 : RowKit.Below w.heap.size w (w.alloc (.cells #[.int .i64 size, .int .i64 grain, .int .i64 quota, .slice pa L.length ca] 44)) := (Below.refl _ w).alloc (Nat.le_refl _) _
  have hh := World.alloc_heap_new w (.cells #[.int .i64 size, .int .i64 grain, .int .i64 quota, .slice pa L.length ca] 44)
  have k0 : (w.alloc (.cells #[.int .i64 size, .int .i64 grain, .int .i64 quota, .slice pa L.length ca] 44)).cell? ⟨w.heap.size, 0, none⟩ = some (.int .i64 size) := cell_of_row _ _ 0 _ _ (0, 0) hh
  have k1 : (w.alloc (.cells #[.int .i64 size, .int .i64 grain, .int .i64 quota, .slice pa L.length ca] 44)).cell? ⟨w.heap.size, 1, none⟩ = some (.int .i64 grain) := cell_of_row _ _ 1 _ _ (0, 0) hh
  have k2 : (w.alloc (.cells #[.int .i64 size, .int .i64 grain, .int .i64 quota, .slice pa L.length ca] 44)).cell? ⟨w.heap.size, 2, none⟩ = some (.int .i64 quota) := cell_of_row _ _ 2 _ _ (0, 0) hh
  have k3 : (w.alloc (.cells #[.int .i64 size, .int .i64 grain, .int .i64 quota, .slice pa L.length ca] 44)).cell? ⟨w.heap.size, 3, none⟩ = some (.slice pa L.length ca) := cell_of_row _ _ 3 _ _ (0, 0) hh
  have Fa := hA.next hb0
  have lw : w.heap.size < (w.alloc (.cells #[.int .i64 size, .int .i64 grain, .int .i64 quota, .slice pa L.length ca] 44)).heap.size := by simp
  clear hh hA
  go_enter Try.func4, Try.ntmps4
  go_upto_region 1 with fail
  obtain ⟨w0, hw0⟩ : ∃ w0, w.alloc (.cells #[.int .i64 size, .int .i64 grain, .int .i64 quota, .slice pa L.length ca] 44) = w0 := ⟨_, rfl⟩
  rw [hw0] at hb0 k0 k1 k2 k3 Fa lw ⊢
  clear hw0
  go_quiet (fail)
  have HB : Hid (RowKit.Below w.heap.size w (w0.drewN nq)) := ⟨hb0.os, hb0.tape, hb0.output, hb0.size, hb0.block⟩
  replace Fa : RdA (w0.drewN nq) (.slice pa L.length ca) L := Fa.next ⟨rfl, rfl, rfl, Nat.le_refl _, fun _ _ => rfl⟩
  have lY : w.heap.size < (w0.drewN nq).heap.size := lw
  generalize w0.drewN nq = y0 at *
  clear hb0 k0 k1 k2 k3 lw
  go_wp2_with fail
  refine Calls.mono (New_yes hok.any _) ?_
  rintro e z1 ⟨v0, rfl, hv, hb⟩
  generalize newP size grain quota _ = P at *
  have hx1 : RowKit.Below y0.heap.size y0 z1 := by
    refine Below.trans ?_ (hb.mono ?_)
    · (first | exact Below.refl _ _ | exact (Below.refl _ _).alloc (by simp) _ | exact ((Below.refl _ _).alloc (by simp) _).alloc (by simp) _ | exact (((Below.refl _ _).alloc (by simp) _).alloc (by simp) _).alloc (by simp) _)
    · first | exact Nat.le_refl _ | (simp; done) | (simp; omega)
  replace Fa := Fa.next hx1
  replace HB := Lib.hid (HB.out.trans (hx1.mono HB.out.size))
  clear hb hx1
  obtain ⟨va, hva⟩ : ∃ va, v0 = va := ⟨_, rfl⟩
  subst hva
  obtain ⟨vfp, vup, rfl, hfp, hup⟩ := hv
  obtain ⟨afp, cfp, rfl⟩ := hfp.len
  obtain ⟨aup, cup, rfl, _⟩ := hup.2
  have Xp : PX (z1.alloc (.cells #[.int .i64 P.size, .int .i64 P.grain, .int .i64 P.quota, .bool P.drain, .bool P.best, .slice afp P.free.length cfp, .slice aup P.uses.length cup] 25)) z1.heap.size P (.slice afp P.free.length cfp) (.slice aup P.uses.length cup) := PX.new hfp hup
  obtain ⟨y2, hy2⟩ : ∃ y, z1.alloc (.cells #[.int .i64 P.size, .int .i64 P.grain, .int .i64 P.quota, .bool P.drain, .bool P.best, .slice afp P.free.length cfp, .slice aup P.uses.length cup] 25) = y := ⟨_, rfl⟩
  have hx2 : RowKit.Below z1.heap.size z1 y2 := by rw [← hy2]; exact below_box _ _
  replace Fa := Fa.next hx2
  replace HB := Lib.hid (HB.out.trans (hx2.mono HB.out.size))
  rw [hy2] at Xp
  clear hfp hup
  have xp0 := Xp.pb.k0; have xp1 := Xp.pb.k1; have xp2 := Xp.pb.k2; have xp3 := Xp.pb.k3; have xp4 := Xp.pb.k4; have xp5 := Xp.pb.k5; have xp6 := Xp.pb.k6
  go_wp2_with fail
  clear hy2
  refine Calls.mono (head_any _) ?_
  rintro e z3 ⟨rfl, hb⟩
  clear xp0 xp1 xp2 xp3 xp4 xp5 xp6
  have hx3 : RowKit.Below y2.heap.size y2 z3 := by
    refine Below.trans ?_ (hb.mono ?_)
    · (first | exact Below.refl _ _ | exact (Below.refl _ _).alloc (by simp) _ | exact ((Below.refl _ _).alloc (by simp) _).alloc (by simp) _ | exact (((Below.refl _ _).alloc (by simp) _).alloc (by simp) _).alloc (by simp) _)
    · first | exact Nat.le_refl _ | (simp; done) | (simp; omega)
  replace Fa := Fa.next hx3
  replace Xp := Xp.next hx3
  replace HB := Lib.hid (HB.out.trans (hx3.mono HB.out.size))
  have xp0 := Xp.pb.k0; have xp1 := Xp.pb.k1; have xp2 := Xp.pb.k2; have xp3 := Xp.pb.k3; have xp4 := Xp.pb.k4; have xp5 := Xp.pb.k5; have xp6 := Xp.pb.k6
  clear hb hx3
  go_wp2_with fail
  go_ret
  exact ⟨rfl, HB.out⟩
end Go.Proofs.Ytdjpnlkhdilakaa.gn
