/- The contract of Crash. -/
import Derived.Test.YtmaohncddjhgeaaGreatMFiV
import Derived.Deep.LoopGhost
import Derived.WalkMore
import Derived.Deep.CutBlock
import Derived.Laws.EntriesVeiled
section
set_option linter.unusedVariables false
set_option maxRecDepth 100000
namespace Go.Proofs.YtmaohncddjhgeaaGreat.gn
open Go.RowKit
open Go.Proofs.YtmaohncddjhgeaaGreat.fi

theorem row_at {w : World} {g cap n : Nat} {cs : List (Value × Value)} (h : w.ownsRow 0 88 2 (.slice (some ⟨g, 0, none⟩) n cap) n (flatC cs)) {i : Nat} {c : Value × Value} (hc : cs[i]? = some c) :
    w.cell? ⟨g, i * 2, none⟩ = some c.1 ∧ w.cell? ⟨g, i * 2 + 1, none⟩ = some c.2 := by
  have hf : ∀ (l : List (Value × Value)) (i : Nat), l[i]? = some c → (flatC l)[i * 2]? = some c.1 ∧ (flatC l)[i * 2 + 1]? = some c.2 := by
    intro l
    induction l with
    | nil => intro i hi; simp at hi
    | cons x r ih =>
      intro i hi
      match i with
      | 0 => simp at hi; subst hi; exact ⟨rfl, rfl⟩
      | i + 1 =>
        have := ih i (by simpa using hi)
        rw [show (i + 1) * 2 = i * 2 + 1 + 1 by omega]
        exact this
  have hadd : ∀ j, (⟨g, 0, none⟩ : Addr).add j = ⟨g, j, none⟩ := fun j => by unfold Addr.add; split <;> simp_all
  have h1 := h.cells (g := g) rfl (i * 2) c.1 (hf cs i hc).1
  have h2 := h.cells (g := g) rfl (i * 2 + 1) c.2 (hf cs i hc).2
  rw [hadd] at h1 h2
  exact ⟨h1, h2⟩

theorem eqlNil (W : World) : (binOp .eql 86 .nilFunc .nilFunc).run Tryz.prog W = .ok (.bool true) W := by kernel_rfl
theorem neqNil (W : World) : (binOp .neq 86 .nilFunc .nilFunc).run Tryz.prog W = .ok (.bool false) W := by kernel_rfl
theorem eqlFn (W : World) (g : Fn) (a b : Array Value) : (binOp .eql 86 (.func g a b) .nilFunc).run Tryz.prog W = .ok (.bool false) W := by kernel_rfl
theorem neqFn (W : World) (g : Fn) (a b : Array Value) : (binOp .neq 86 (.func g a b) .nilFunc).run Tryz.prog W = .ok (.bool true) W := by kernel_rfl

theorem only_set {w : World} {d room nb sb : Nat} {v : Value} (h : BlkD w d room nb sb v) {j : Nat} {u : Value} : Only (fun i => i = d) w (w.setCell ⟨d, j, none⟩ u) := ⟨rfl, rfl, rfl, by simp [World.setCell], fun i _ hi => Below.heap_setCell _ _ _ _ hi⟩
theorem crash_ext {X : Nat → Prop} {w wc w1 w2 : World} (h : OnlyT X w wc) (hb : Below wc.heap.size wc w1) (hz : w2.heap.size = w1.heap.size) {i : Nat} (hi : ext (ext X w wc) wc w1 i) : ext X w w2 i := by
  have z1 := h.size
  have z2 := hb.size
  rcases hi with (hi | ⟨i1, i2⟩) | ⟨i1, i2⟩
  · exact .inl hi
  · exact .inr ⟨i1, by omega⟩
  · exact .inr ⟨by omega, by omega⟩
theorem crash_mid {X : Nat → Prop} {w w1 : World} {TT : Nat → Option Tb} {d room nb sb b1 : Nat} {v : Value} (hk : BlkD w1 d room nb sb v) (hb : Below w.heap.size w w1) (hs : SysT w1 (ext X w w1) TT) : SysT (w1.setCell ⟨d, 2, none⟩ (.map (some b1))) (ext X w w1) TT :=
  hs.keptT fun i _ _ ht => Below.heap_setCell _ _ _ _ fun e => by
    have e' : i = d := e
    subst e'
    exact Dir_ne_TS hk ht
theorem bit_is (l k : Nat) (h : l < 18446744073709551616) : bits .and .u64 ((l : Int) / 2 ^ (k % 64)) 1 = ((l >>> (k % 64) % 2 : Nat) : Int) := by
  have h1 : ((l : Int) / 2 ^ (k % 64)) = ((l >>> (k % 64) : Nat) : Int) := by
    rw [Nat.shiftRight_eq_div_pow]
    simp
  have h2 : l >>> (k % 64) < 18446744073709551616 := by
    rw [Nat.shiftRight_eq_div_pow]
    exact Nat.lt_of_le_of_lt (Nat.div_le_self _ _) h
  rw [h1]
  generalize l >>> (k % 64) = x at h2 ⊢
  have h3 := u64_and_nat x 1 h2 (by decide)
  rw [Nat.and_one_is_mod] at h3
  exact h3
theorem box_keeps {X : Nat → Prop} {w w2 : World} {b : Nat} {f : Fault} (h : OnlyT X w w2) (hb : BoxF w b f) : BoxF w2 b f := h.block hb (by decide) (by decide)

set_option maxHeartbeats 64000000 in
set_option maxRecDepth 100000 in
theorem crash_loop (w : World) (X : Nat → Prop) (TT : Nat → Option Tb) (role : Nat → Nat × Bool) (ga : Nat → Nat) (D : Nat → Option FS) (d : Nat) (s : FS) (h : SysD w X TT role ga D) (nb sb : Nat) (A : Option Addr) (c : Nat) (hk : DirOk w X TT role ga d s nb sb (.slice A s.op.length c)) (hwt : s.wt ≤ 549755813888) (f : Fault) (hfl : f.lose < 18446744073709551616) :
    Calls Tryz.prog 26 #[.pointer (some ⟨d, 0, none⟩), .agg #[.int .i64 f.keep, .int .u64 (f.lose : Int), .int .i64 f.cut]] w (Does X (upd D d (s.crash f)) (.tuple #[]) w) := by
  obtain ⟨cs, hrow, hcs, hga⟩ := hk.ops
  have hb0 : Below w.heap.size w (w.alloc (.cells #[.int .i64 f.keep, .int .u64 (f.lose : Int), .int .i64 f.cut] 36)) := (Below.refl _ w).alloc (Nat.le_refl _) _
  have hbx : BoxF (w.alloc (.cells #[.int .i64 f.keep, .int .u64 (f.lose : Int), .int .i64 f.cut] 36)) w.heap.size f := heap_alloc_new w _
  have hk0 := hk.blk.below hb0
  obtain ⟨c0, c1, c2, c3, c4⟩ := hk0.cells
  have hlen : s.op.length ≤ 1099511627776 := by
    have h1 := wts_len s.op
    unfold FS.wt at hwt
    omega
  have hstart : CrRel w X TT sb s f 0 (w.alloc (.cells #[.int .i64 f.keep, .int .u64 (f.lose : Int), .int .i64 f.cut] 36)) :=
    ⟨s.safe, by rw [upd_self hk.safe]; exact (h.1.below hb0).more fun i hi => ext_old hi, OnlyT.of_below hb0, hbx, Half.refl _, hk.ok.keyed, Nat.le_refl _, rfl⟩
  have hfits := hk.ok.fits
  have HD := Lib.hid h
  have HK := Lib.hid hk
  have HROW := Lib.hid hrow
  have HCS := Lib.hid hcs
  have HST := Lib.hid hstart
  have HW := Lib.hid hwt
  have HFI := Lib.hid hfits
  have HSB : Hid (∀ T, upd TT sb T sb = some T) := fun T => upd_same _ _ _
  clear h hk hrow hcs hga hb0 hbx hk0 hstart hwt hfits
  have q1 := eqlNil
  have q2 := neqNil
  have q3 := eqlFn
  have q4 := neqFn
  go_enter Tryz.func26, Tryz.ntmps26
  go_wp2_with (go_at_call 46; ((with_reducible refine (is_any _ _ c0).mono ?_); rintro e w' ⟨rfl, rfl⟩))
  go_step3
  go_wp2_with (go_at_call 46; ((with_reducible refine (is_any _ _ c0).mono ?_); rintro e w' ⟨rfl, rfl⟩))
  go_step3
  go_upto_block 0 with fail
  go_cut [14] from 15 to 68 (fun _ wx => CrEnd w X TT sb s f wx)
  case first =>
    go_wp2_with fail
    go_loopg [14] s.op.length (fun n14 i wx => ∃ k : Nat, k + n14 = s.op.length ∧ i = .int .i64 k ∧ CrRel w X TT sb s f k wx)
    case atStart => exact ⟨0, by omega, rfl, HST.out⟩
    case round =>
      obtain ⟨k, hkg, rfl, T, hrel⟩ := hrel
      have hkl : k ≤ s.op.length := by omega
      by_cases hlt : k < s.op.length
      · obtain ⟨gk', rfl⟩ : ∃ m, gk = m + 1 := ⟨gk - 1, by omega⟩
        obtain ⟨g, hg⟩ : ∃ g, A = some ⟨g, 0, none⟩ := by
          rcases HROW.out.2 with ⟨hv, hn⟩ | ⟨g, cap, cur, hv, _⟩
          · omega
          · injection hv with h1; exact ⟨g, h1⟩
        subst hg
        have hcap : s.op.length ≤ c := by
          rcases HROW.out.2 with ⟨hv, hn⟩ | ⟨g', cap, cur, hv, _, _, hc, _⟩
          · cases hv
          · injection hv with h1 h2 h3; omega
        have ho1 := hrel.only
        have hkb := ho1.block HK.out.blk (by decide) (by decide)
        obtain ⟨d0, d1, d2, d3, d4⟩ := (show BlkD wr d s.room nb sb _ from hkb).cells
        obtain ⟨e0, e1, e2⟩ := hrel.box.cells
        have hrow1 : wr.ownsRow 0 88 2 (.slice (some ⟨g, 0, none⟩) s.op.length c) s.op.length (flatC cs) := row_kept HROW.out fun g cs' _ hh => ho1.block hh (by decide) (by decide)
        obtain ⟨cl, hcl, hclo⟩ := HCS.out.at_ k hlt
        obtain ⟨r0, r1⟩ := row_at hrow1 hcl
        have hI0 : (0 : Int) ≤ (k : Int) := by omega
        have hI1 : (k : Int) < (s.op.length : Int) := by omega
        have hd1 : s.op.drop k = s.op[k] :: s.op.drop (k + 1) := List.drop_eq_getElem_cons hlt
        have hfit := fits_at HFI.out k hlt
        have hw1 := hrel.hwt
        have hT : wt T + wts (s.op.drop k) ≤ 549755813888 := by have := HW.out; unfold FS.wt at this; omega
        have hTl := wt_len T
        obtain ⟨o, ho⟩ : ∃ o, o = s.op[k] := ⟨_, rfl⟩
        rw [← ho] at hd1 hclo hfit
        rw [hd1] at hT
        have HR := Lib.hid hrel
        have HO1 := Lib.hid ho1
        have HOK := Lib.hid ho
        have HD1 := Lib.hid hd1
        obtain ⟨vd, vs⟩ := cl
        simp only at r0 r1
        have hcellsW : ∀ (u v : Value), (BoxF (wr.alloc (.cells #[u, v] 88)) w.heap.size f) ∧ BlkD (wr.alloc (.cells #[u, v] 88)) d s.room nb sb (.slice (some ⟨g, 0, none⟩) s.op.length c) := fun u v =>
          ⟨(Below.heap_alloc _ _ _ (lt_of_block hrel.box)).trans hrel.box, (Below.heap_alloc _ _ _ (lt_of_block hkb)).trans hkb⟩
        have HCW := Lib.hid hcellsW
        clear hcellsW
        have hbe : ∀ (u v : Value), Below wr.heap.size wr (wr.alloc (.cells #[u, v] 88)) := fun u v => (Below.refl _ _).alloc (Nat.le_refl _) _
        have HBE := Lib.hid hbe
        have HFT := Lib.hid hfit
        have HTW := Lib.hid hT
        have HTL := Lib.hid hTl
        clear hrel ho1 hkb hrow1 hcl hd1 ho hbe hfit hT hTl hw1
        cases o with
        | make n =>
          obtain ⟨hn, b1, hv, hx, _⟩ := hclo
          injection hv with hv1 hv2
          subst hv1 hv2
          obtain ⟨hcw1, hcw2⟩ := HCW.out (.func (.func 39) #[] #[.pointer (some ⟨b1, 0, none⟩)]) .nilFunc
          obtain ⟨x0, x1, x2⟩ := hcw1.cells
          obtain ⟨v0, v1, v2, v3, v4⟩ := hcw2.cells
          clear hcw1 hcw2
          by_cases hkeep : f.keep < (k : Int)
          · go_wp2_with fail
            go_meet
            case rel => exact HR.out.stop (HBE.out _ _) (by rw [HD1.out]; exact crashes_over hkeep)
          · have hge : (k : Int) ≤ f.keep := by omega
            by_cases heq : f.keep = (k : Int)
            · have hq : ((k : Int) == f.keep) = true := by simp [heq]
              have HQ := Lib.hid heq
              clear heq
              go_wp2_with fail
              go_meet
              case rel => exact HR.out.stop (HBE.out _ _) (by rw [HD1.out]; exact crashes_at rfl HQ.out)
            · have hq : ((k : Int) == f.keep) = false := by simpa using fun e : (k : Int) = f.keep => heq e.symm
              have HQ := Lib.hid heq
              have HC : Hid (∀ W, Below wr.heap.size wr W → Calls Tryz.prog 39 #[.map (some sb), .pointer (some ⟨b1, 0, none⟩)] W (Goes (ext X w wr) (upd TT sb T) sb (doOp (.make n) T) W)) := fun W hb => make1_any W _ _ sb T (HR.out.sys.below hb) (HSB.out T) b1 n (box_on HO1.out hb hx) (len_max hn) (by unfold maxLen; have h1 := HTW.out; have h2 := HTL.out; omega)
              clear heq
              go_wp2_with fail
              go_region_held3 (fun W => W.cell? ⟨wr.heap.size, 0, none⟩ = some (.func (.func 39) #[] #[.pointer (some ⟨b1, 0, none⟩)]) ∧ W.cell? ⟨d, 3, none⟩ = some (.map (some sb))) (go_keep)
                (first | ((with_reducible refine (HC.out _ (HBE.out _ _).drew).mono ?_); rintro e w2 ⟨rfl, hg1, hg2⟩; have hkb2 : BlkD w2 d s.room nb sb _ := hg2.block ((HBE.out _ _).block d (lt_of_block (HO1.out.block HK.out.blk (by decide) (by decide))) |>.trans (HO1.out.block HK.out.blk (by decide) (by decide))) (by decide) (by decide); obtain ⟨y0, y1, y2, y3, y4⟩ := hkb2.cells; have hbb2 : Box2 w2 wr.heap.size (.func (.func 39) #[] #[.pointer (some ⟨b1, 0, none⟩)]) (.nilFunc) := hg2.block (heap_alloc_new wr _) (by decide) (by decide); obtain ⟨z0, z1⟩ := hbb2.cells; clear hkb2 hbb2; have G1 := Lib.hid hg1; have G2 := Lib.hid hg2; clear hg1 hg2))
              go_wp2_with fail
              go_roundg gk'
              case measure => omega
              case rel => exact ⟨k + 1, by omega, by go_num, HR.out.did hlt HOK.out (HBE.out _ _).drew G1.out G2.out (crashes_do rfl (by omega) HQ.out)⟩
        | app n t =>
          obtain ⟨hn, b1, b2, hv, hx, hx2, _⟩ := hclo
          injection hv with hv1 hv2
          subst hv1 hv2
          obtain ⟨hcw1, hcw2⟩ := HCW.out (.func (.func 41) #[] #[.pointer (some ⟨b1, 0, none⟩), .pointer (some ⟨b2, 0, none⟩)]) (.func (.func 44) #[] #[.pointer (some ⟨b1, 0, none⟩), .pointer (some ⟨b2, 0, none⟩)])
          obtain ⟨x0, x1, x2⟩ := hcw1.cells
          obtain ⟨v0, v1, v2, v3, v4⟩ := hcw2.cells
          clear hcw1 hcw2
          have hwl : wt T + t.length ≤ 1099511627776 := by have h1 := HTW.out; simp only [wts, FOp.wt] at h1; omega
          by_cases hkeep : f.keep < (k : Int)
          · go_wp2_with fail
            go_meet
            case rel => exact HR.out.stop (HBE.out _ _) (by rw [HD1.out]; exact crashes_over hkeep)
          · have hge : (k : Int) ≤ f.keep := by omega
            have hbit := bit_is f.lose k hfl
            by_cases heq : f.keep = (k : Int)
            · have hq : ((k : Int) == f.keep) = true := by simp [heq]
              have HQ : Hid (f.keep = (k : Int) ∨ f.lose >>> (k % 64) % 2 = 1) := .inl heq
              clear heq hbit
              have HC : Hid (∀ W, Below wr.heap.size wr W → Calls Tryz.prog 44 #[.map (some sb), .int .i64 f.cut, .pointer (some ⟨b1, 0, none⟩), .pointer (some ⟨b2, 0, none⟩)] W (Goes (ext X w wr) (upd TT sb T) sb (short n t f.cut T) W)) := fun W hb => app2_any W _ _ sb T (HR.out.sys.below hb) (HSB.out T) f.cut b1 b2 n t (box_on HO1.out hb hx) (box_on HO1.out hb hx2) (len_max hn) hwl
              go_wp2_with fail
              go_region_held3 (fun W => W.cell? ⟨wr.heap.size, 1, none⟩ = some (.func (.func 44) #[] #[.pointer (some ⟨b1, 0, none⟩), .pointer (some ⟨b2, 0, none⟩)]) ∧ W.cell? ⟨d, 3, none⟩ = some (.map (some sb)) ∧ W.cell? ⟨w.heap.size, 2, none⟩ = some (.int .i64 f.cut)) (go_keep)
                (first | ((with_reducible refine (HC.out _ (HBE.out _ _).drew).mono ?_); rintro e w2 ⟨rfl, hg1, hg2⟩; have hkb2 : BlkD w2 d s.room nb sb _ := hg2.block ((HBE.out _ _).block d (lt_of_block (HO1.out.block HK.out.blk (by decide) (by decide))) |>.trans (HO1.out.block HK.out.blk (by decide) (by decide))) (by decide) (by decide); obtain ⟨y0, y1, y2, y3, y4⟩ := hkb2.cells; have hbb2 : Box2 w2 wr.heap.size (.func (.func 41) #[] #[.pointer (some ⟨b1, 0, none⟩), .pointer (some ⟨b2, 0, none⟩)]) (.func (.func 44) #[] #[.pointer (some ⟨b1, 0, none⟩), .pointer (some ⟨b2, 0, none⟩)]) := hg2.block (heap_alloc_new wr _) (by decide) (by decide); obtain ⟨z0, z1⟩ := hbb2.cells; clear hkb2 hbb2; have hfx2 : BoxF w2 w.heap.size f := box_keeps hg2 ((HBE.out _ _).block _ (lt_of_block HR.out.box) |>.trans HR.out.box); obtain ⟨n0, n1, n2⟩ := hfx2.cells; clear hfx2; have G1 := Lib.hid hg1; have G2 := Lib.hid hg2; clear hg1 hg2))
              go_wp2_with fail
              go_roundg gk'
              case measure => omega
              case rel => exact ⟨k + 1, by omega, by go_num, HR.out.shorted hlt HOK.out (HBE.out _ _).drew G1.out G2.out (crashes_short (by omega) HQ.out)⟩
            · have hq : ((k : Int) == f.keep) = false := by simpa using fun e : (k : Int) = f.keep => heq e.symm
              by_cases hone : f.lose >>> (k % 64) % 2 = 1
              · have hq2 : (bits .and .u64 ((f.lose : Int) / 2 ^ (k % 64)) 1 == 1) = true := by rw [hbit, hone]; rfl
                have HQ : Hid (f.keep = (k : Int) ∨ f.lose >>> (k % 64) % 2 = 1) := .inr hone
                clear heq hbit hone
                have HC : Hid (∀ W, Below wr.heap.size wr W → Calls Tryz.prog 44 #[.map (some sb), .int .i64 f.cut, .pointer (some ⟨b1, 0, none⟩), .pointer (some ⟨b2, 0, none⟩)] W (Goes (ext X w wr) (upd TT sb T) sb (short n t f.cut T) W)) := fun W hb => app2_any W _ _ sb T (HR.out.sys.below hb) (HSB.out T) f.cut b1 b2 n t (box_on HO1.out hb hx) (box_on HO1.out hb hx2) (len_max hn) hwl
                go_wp2_with fail
                go_region_held3 (fun W => W.cell? ⟨wr.heap.size, 1, none⟩ = some (.func (.func 44) #[] #[.pointer (some ⟨b1, 0, none⟩), .pointer (some ⟨b2, 0, none⟩)]) ∧ W.cell? ⟨d, 3, none⟩ = some (.map (some sb)) ∧ W.cell? ⟨w.heap.size, 2, none⟩ = some (.int .i64 f.cut)) (go_keep)
                  (first | ((with_reducible refine (HC.out _ (HBE.out _ _).drew).mono ?_); rintro e w2 ⟨rfl, hg1, hg2⟩; have hkb2 : BlkD w2 d s.room nb sb _ := hg2.block ((HBE.out _ _).block d (lt_of_block (HO1.out.block HK.out.blk (by decide) (by decide))) |>.trans (HO1.out.block HK.out.blk (by decide) (by decide))) (by decide) (by decide); obtain ⟨y0, y1, y2, y3, y4⟩ := hkb2.cells; have hbb2 : Box2 w2 wr.heap.size (.func (.func 41) #[] #[.pointer (some ⟨b1, 0, none⟩), .pointer (some ⟨b2, 0, none⟩)]) (.func (.func 44) #[] #[.pointer (some ⟨b1, 0, none⟩), .pointer (some ⟨b2, 0, none⟩)]) := hg2.block (heap_alloc_new wr _) (by decide) (by decide); obtain ⟨z0, z1⟩ := hbb2.cells; clear hkb2 hbb2; have hfx2 : BoxF w2 w.heap.size f := box_keeps hg2 ((HBE.out _ _).block _ (lt_of_block HR.out.box) |>.trans HR.out.box); obtain ⟨n0, n1, n2⟩ := hfx2.cells; clear hfx2; have G1 := Lib.hid hg1; have G2 := Lib.hid hg2; clear hg1 hg2))
                go_wp2_with fail
                go_roundg gk'
                case measure => omega
                case rel => exact ⟨k + 1, by omega, by go_num, HR.out.shorted hlt HOK.out (HBE.out _ _).drew G1.out G2.out (crashes_short (by omega) HQ.out)⟩
              · have hq2 : (bits .and .u64 ((f.lose : Int) / 2 ^ (k % 64)) 1 == 1) = false := by
                  rw [hbit]
                  simp only [beq_eq_false_iff_ne]
                  omega
                have HQ : Hid (¬ (f.keep = (k : Int) ∨ f.lose >>> (k % 64) % 2 = 1)) := fun e => by rcases e with e | e; exact heq e; exact hone e
                clear heq hbit hone
                have HC : Hid (∀ W, Below wr.heap.size wr W → Calls Tryz.prog 41 #[.map (some sb), .pointer (some ⟨b1, 0, none⟩), .pointer (some ⟨b2, 0, none⟩)] W (Goes (ext X w wr) (upd TT sb T) sb (doOp (.app n t) T) W)) := fun W hb => app1_any W _ _ sb T (HR.out.sys.below hb) (HSB.out T) b1 b2 n t (box_on HO1.out hb hx) (box_on HO1.out hb hx2) (len_max hn) hwl
                go_wp2_with fail
                go_region_held3 (fun W => W.cell? ⟨wr.heap.size, 0, none⟩ = some (.func (.func 41) #[] #[.pointer (some ⟨b1, 0, none⟩), .pointer (some ⟨b2, 0, none⟩)]) ∧ W.cell? ⟨d, 3, none⟩ = some (.map (some sb))) (go_keep)
                  (first | ((with_reducible refine (HC.out _ (HBE.out _ _).drew).mono ?_); rintro e w2 ⟨rfl, hg1, hg2⟩; have hkb2 : BlkD w2 d s.room nb sb _ := hg2.block ((HBE.out _ _).block d (lt_of_block (HO1.out.block HK.out.blk (by decide) (by decide))) |>.trans (HO1.out.block HK.out.blk (by decide) (by decide))) (by decide) (by decide); obtain ⟨y0, y1, y2, y3, y4⟩ := hkb2.cells; have hbb2 : Box2 w2 wr.heap.size (.func (.func 41) #[] #[.pointer (some ⟨b1, 0, none⟩), .pointer (some ⟨b2, 0, none⟩)]) (.func (.func 44) #[] #[.pointer (some ⟨b1, 0, none⟩), .pointer (some ⟨b2, 0, none⟩)]) := hg2.block (heap_alloc_new wr _) (by decide) (by decide); obtain ⟨z0, z1⟩ := hbb2.cells; clear hkb2 hbb2; have G1 := Lib.hid hg1; have G2 := Lib.hid hg2; clear hg1 hg2))
                go_wp2_with fail
                go_roundg gk'
                case measure => omega
                case rel => exact ⟨k + 1, by omega, by go_num, HR.out.did hlt HOK.out (HBE.out _ _).drew G1.out G2.out (crashes_app (by omega) HQ.out)⟩
        | cut n m =>
          obtain ⟨hn, b1, b2, hv, hx, hx2, _⟩ := hclo
          injection hv with hv1 hv2
          subst hv1 hv2
          obtain ⟨hcw1, hcw2⟩ := HCW.out (.func (.func 142) #[] #[.pointer (some ⟨b1, 0, none⟩), .pointer (some ⟨b2, 0, none⟩)]) .nilFunc
          obtain ⟨x0, x1, x2⟩ := hcw1.cells
          obtain ⟨v0, v1, v2, v3, v4⟩ := hcw2.cells
          clear hcw1 hcw2
          by_cases hkeep : f.keep < (k : Int)
          · go_wp2_with fail
            go_meet
            case rel => exact HR.out.stop (HBE.out _ _) (by rw [HD1.out]; exact crashes_over hkeep)
          · have hge : (k : Int) ≤ f.keep := by omega
            by_cases heq : f.keep = (k : Int)
            · have hq : ((k : Int) == f.keep) = true := by simp [heq]
              have HQ := Lib.hid heq
              clear heq
              go_wp2_with fail
              go_meet
              case rel => exact HR.out.stop (HBE.out _ _) (by rw [HD1.out]; exact crashes_at rfl HQ.out)
            · have hq : ((k : Int) == f.keep) = false := by simpa using fun e : (k : Int) = f.keep => heq e.symm
              have HQ := Lib.hid heq
              have HC : Hid (∀ W, Below wr.heap.size wr W → Calls Tryz.prog 142 #[.map (some sb), .pointer (some ⟨b1, 0, none⟩), .pointer (some ⟨b2, 0, none⟩)] W (Goes (ext X w wr) (upd TT sb T) sb (doOp (.cut n m) T) W)) := fun W hb => cut1_any W _ _ sb T (HR.out.sys.below hb) (HSB.out T) b1 b2 n m (box_on HO1.out hb hx) (boxI_on HO1.out hb hx2) (len_max hn) (half_fit HR.out.half HFT.out rfl)
              clear heq
              go_wp2_with fail
              go_region_held3 (fun W => W.cell? ⟨wr.heap.size, 0, none⟩ = some (.func (.func 142) #[] #[.pointer (some ⟨b1, 0, none⟩), .pointer (some ⟨b2, 0, none⟩)]) ∧ W.cell? ⟨d, 3, none⟩ = some (.map (some sb))) (go_keep)
                (first | ((with_reducible refine (HC.out _ (HBE.out _ _).drew).mono ?_); rintro e w2 ⟨rfl, hg1, hg2⟩; have hkb2 : BlkD w2 d s.room nb sb _ := hg2.block ((HBE.out _ _).block d (lt_of_block (HO1.out.block HK.out.blk (by decide) (by decide))) |>.trans (HO1.out.block HK.out.blk (by decide) (by decide))) (by decide) (by decide); obtain ⟨y0, y1, y2, y3, y4⟩ := hkb2.cells; have hbb2 : Box2 w2 wr.heap.size (.func (.func 142) #[] #[.pointer (some ⟨b1, 0, none⟩), .pointer (some ⟨b2, 0, none⟩)]) (.nilFunc) := hg2.block (heap_alloc_new wr _) (by decide) (by decide); obtain ⟨z0, z1⟩ := hbb2.cells; clear hkb2 hbb2; have G1 := Lib.hid hg1; have G2 := Lib.hid hg2; clear hg1 hg2))
              go_wp2_with fail
              go_roundg gk'
              case measure => omega
              case rel => exact ⟨k + 1, by omega, by go_num, HR.out.did hlt HOK.out (HBE.out _ _).drew G1.out G2.out (crashes_do rfl (by omega) HQ.out)⟩
        | ren n m =>
          obtain ⟨hn, hm, b1, b2, hv, hx, hx2, _⟩ := hclo
          injection hv with hv1 hv2
          subst hv1 hv2
          obtain ⟨hcw1, hcw2⟩ := HCW.out (.func (.func 127) #[] #[.pointer (some ⟨b1, 0, none⟩), .pointer (some ⟨b2, 0, none⟩)]) .nilFunc
          obtain ⟨x0, x1, x2⟩ := hcw1.cells
          obtain ⟨v0, v1, v2, v3, v4⟩ := hcw2.cells
          clear hcw1 hcw2
          by_cases hkeep : f.keep < (k : Int)
          · go_wp2_with fail
            go_meet
            case rel => exact HR.out.stop (HBE.out _ _) (by rw [HD1.out]; exact crashes_over hkeep)
          · have hge : (k : Int) ≤ f.keep := by omega
            by_cases heq : f.keep = (k : Int)
            · have hq : ((k : Int) == f.keep) = true := by simp [heq]
              have HQ := Lib.hid heq
              clear heq
              go_wp2_with fail
              go_meet
              case rel => exact HR.out.stop (HBE.out _ _) (by rw [HD1.out]; exact crashes_at rfl HQ.out)
            · have hq : ((k : Int) == f.keep) = false := by simpa using fun e : (k : Int) = f.keep => heq e.symm
              have HQ := Lib.hid heq
              have HC : Hid (∀ W, Below wr.heap.size wr W → Calls Tryz.prog 127 #[.map (some sb), .pointer (some ⟨b1, 0, none⟩), .pointer (some ⟨b2, 0, none⟩)] W (Goes (ext X w wr) (upd TT sb T) sb (doOp (.ren n m) T) W)) := fun W hb => rename1_any W _ _ sb T (HR.out.sys.below hb) (HSB.out T) b1 b2 n m (box_on HO1.out hb hx) (box_on HO1.out hb hx2) (len_max hn) (len_max hm) (by unfold maxLen; have h1 := HTW.out; have h2 := HTL.out; omega)
              clear heq
              go_wp2_with fail
              go_region_held3 (fun W => W.cell? ⟨wr.heap.size, 0, none⟩ = some (.func (.func 127) #[] #[.pointer (some ⟨b1, 0, none⟩), .pointer (some ⟨b2, 0, none⟩)]) ∧ W.cell? ⟨d, 3, none⟩ = some (.map (some sb))) (go_keep)
                (first | ((with_reducible refine (HC.out _ (HBE.out _ _).drew).mono ?_); rintro e w2 ⟨rfl, hg1, hg2⟩; have hkb2 : BlkD w2 d s.room nb sb _ := hg2.block ((HBE.out _ _).block d (lt_of_block (HO1.out.block HK.out.blk (by decide) (by decide))) |>.trans (HO1.out.block HK.out.blk (by decide) (by decide))) (by decide) (by decide); obtain ⟨y0, y1, y2, y3, y4⟩ := hkb2.cells; have hbb2 : Box2 w2 wr.heap.size (.func (.func 127) #[] #[.pointer (some ⟨b1, 0, none⟩), .pointer (some ⟨b2, 0, none⟩)]) (.nilFunc) := hg2.block (heap_alloc_new wr _) (by decide) (by decide); obtain ⟨z0, z1⟩ := hbb2.cells; clear hkb2 hbb2; have G1 := Lib.hid hg1; have G2 := Lib.hid hg2; clear hg1 hg2))
              go_wp2_with fail
              go_roundg gk'
              case measure => omega
              case rel => exact ⟨k + 1, by omega, by go_num, HR.out.did hlt HOK.out (HBE.out _ _).drew G1.out G2.out (crashes_do rfl (by omega) HQ.out)⟩
        | rem n =>
          obtain ⟨hn, b1, hv, hx, _⟩ := hclo
          injection hv with hv1 hv2
          subst hv1 hv2
          obtain ⟨hcw1, hcw2⟩ := HCW.out (.func (.func 140) #[] #[.pointer (some ⟨b1, 0, none⟩)]) .nilFunc
          obtain ⟨x0, x1, x2⟩ := hcw1.cells
          obtain ⟨v0, v1, v2, v3, v4⟩ := hcw2.cells
          clear hcw1 hcw2
          by_cases hkeep : f.keep < (k : Int)
          · go_wp2_with fail
            go_meet
            case rel => exact HR.out.stop (HBE.out _ _) (by rw [HD1.out]; exact crashes_over hkeep)
          · have hge : (k : Int) ≤ f.keep := by omega
            by_cases heq : f.keep = (k : Int)
            · have hq : ((k : Int) == f.keep) = true := by simp [heq]
              have HQ := Lib.hid heq
              clear heq
              go_wp2_with fail
              go_meet
              case rel => exact HR.out.stop (HBE.out _ _) (by rw [HD1.out]; exact crashes_at rfl HQ.out)
            · have hq : ((k : Int) == f.keep) = false := by simpa using fun e : (k : Int) = f.keep => heq e.symm
              have HQ := Lib.hid heq
              have HC : Hid (∀ W, Below wr.heap.size wr W → Calls Tryz.prog 140 #[.map (some sb), .pointer (some ⟨b1, 0, none⟩)] W (Goes (ext X w wr) (upd TT sb T) sb (doOp (.rem n) T) W)) := fun W hb => remove1_any W _ _ sb T (HR.out.sys.below hb) (HSB.out T) b1 n (box_on HO1.out hb hx) (len_max hn)
              clear heq
              go_wp2_with fail
              go_region_held3 (fun W => W.cell? ⟨wr.heap.size, 0, none⟩ = some (.func (.func 140) #[] #[.pointer (some ⟨b1, 0, none⟩)]) ∧ W.cell? ⟨d, 3, none⟩ = some (.map (some sb))) (go_keep)
                (first | ((with_reducible refine (HC.out _ (HBE.out _ _).drew).mono ?_); rintro e w2 ⟨rfl, hg1, hg2⟩; have hkb2 : BlkD w2 d s.room nb sb _ := hg2.block ((HBE.out _ _).block d (lt_of_block (HO1.out.block HK.out.blk (by decide) (by decide))) |>.trans (HO1.out.block HK.out.blk (by decide) (by decide))) (by decide) (by decide); obtain ⟨y0, y1, y2, y3, y4⟩ := hkb2.cells; have hbb2 : Box2 w2 wr.heap.size (.func (.func 140) #[] #[.pointer (some ⟨b1, 0, none⟩)]) (.nilFunc) := hg2.block (heap_alloc_new wr _) (by decide) (by decide); obtain ⟨z0, z1⟩ := hbb2.cells; clear hkb2 hbb2; have G1 := Lib.hid hg1; have G2 := Lib.hid hg2; clear hg1 hg2))
              go_wp2_with fail
              go_roundg gk'
              case measure => omega
              case rel => exact ⟨k + 1, by omega, by go_num, HR.out.did hlt HOK.out (HBE.out _ _).drew G1.out G2.out (crashes_do rfl (by omega) HQ.out)⟩
      · go_wp2_with fail
        go_meet
        case rel =>
          exact hrel.stop (Below.refl _ _) (by rw [List.drop_of_length_le (by omega)]; rfl)
  case rest =>
    obtain ⟨T, hs1, ho1, hwT, hkT, hcT⟩ := hcut
    have hkc : BlkD wc d s.room nb sb (.slice A s.op.length c) := ho1.block HK.out.blk (by decide) (by decide)
    obtain ⟨d0, d1, d2, d3, d4⟩ := hkc.cells
    have hw39 : wt T ≤ 1099511627776 := by have := HW.out; unfold FS.wt at this; omega
    have HKC := Lib.hid hkc
    have HS1 := Lib.hid hs1
    have HO1 := Lib.hid ho1
    have HKT := Lib.hid hkT
    have HCT := Lib.hid hcT
    have HTS : Hid (upd TT sb T sb = some T) := upd_same _ _ _
    have HWS : Hid (wt (strip T) ≤ 1099511627776) := by rw [wt_strip]; exact hw39
    clear hkc hs1 ho1 hkT hcT hwT
    go_wp2_with (first
      | (go_at_call 47; ((with_reducible refine (copy_any wc (ext X w wc) (upd TT sb T) sb T HS1.out HTS.out hw39).mono ?_); rintro e w1 ⟨b1, rfl, hb1, hs2, hbel1⟩; have hk1 := HKC.out.below hbel1; obtain ⟨x0, x1, x2, x3, x4⟩ := hk1.cells; have x5 := hk1.free 2; have hk2 := hk1.set2 b1; obtain ⟨y0, y1, y2, y3, y4⟩ := hk2.cells; have hs3 := crash_mid (b1 := b1) hk1 hbel1 hs2; have htt : upd (upd TT sb T) b1 (strip T) b1 = some (strip T) := upd_same _ _ _; have HSY := Lib.hid (sync_raw _ _ _ (strip T) d s.room b1 sb _ hs3 hk2 htt HWS.out); have HK1 := Lib.hid hk1; have HK2 := Lib.hid hk2; have HS2 := Lib.hid hs2; have HB1 := Lib.hid hbel1; clear hk1 hk2 hs2 hbel1 hs3 htt))
      | (go_at_call 20; ((with_reducible refine HSY.out.mono ?_); rintro e w4 ⟨rfl, b2, w3, h3, h4, h5, h6, h7⟩; have H3 := Lib.hid h3; have H4 := Lib.hid h4; have H6 := Lib.hid h6; have H7 := Lib.hid h7; clear h3 h4 h6 h7)))
    go_wp2
    try rw [Exit.noGoto_ret]
    go_end0
    refine ⟨rfl, ?_⟩
    exact HD.out.crashed HK.out HS1.out HO1.out HKT.out HCT.out hb1 HB1.out (HS2.out.lt (upd_same _ _ _)).1 (only_set HK1.out) (fun i hi => crash_ext HO1.out HB1.out (by simp [World.setCell]) hi) h5 H3.out H4.out H6.out H7.out (Dir_ne_TS (HK2.out.below H4.out))

theorem crash_any (w : World) (X : Nat → Prop) (D : Nat → Option FS) (d : Nat) (s : FS) (hS : Sys w X D) (hd : D d = some s) (hwt : s.wt ≤ 549755813888) (f : Fault) (hfl : f.lose < 18446744073709551616) :
    Calls Tryz.prog 26 #[.pointer (some ⟨d, 0, none⟩), .agg #[.int .i64 f.keep, .int .u64 (f.lose : Int), .int .i64 f.cut]] w (Does X (upd D d (s.crash f)) (.tuple #[]) w) := by
  obtain ⟨TT, role, ga, h⟩ := hS
  obtain ⟨nb, sb, v, hk⟩ := h.2 d s hd
  obtain ⟨cs, hrow, _⟩ := hk.ops
  obtain ⟨A, c, rfl⟩ := own_form hrow
  exact crash_loop w X TT role ga D d s h nb sb A c hk hwt f hfl
end Go.Proofs.YtmaohncddjhgeaaGreat.gn
end
