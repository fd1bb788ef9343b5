/- For any seat: the operations of a region, written out. -/
import Derived.Lib.Hide
import Derived.Deep.RegionHeld3
import Derived.Deep.DeepCutAuto
import Derived.Deep.DrawnRows
import Derived.Test.YtkjffoebcblpoaaGreatMSvK
section
namespace Go.Proofs.YtkjffoebcblpoaaGreat.gn

/-- The operations of a region, written out. -/
theorem at0 {α : Type} {o : α} {l : List α} : (o :: l)[0]? = some o := rfl
theorem atS {α : Type} {o x : α} {l : List α} {n : Nat} (h : l[n]? = some o) : (x :: l)[n + 1]? = some o := h
theorem ata {α : Type} {o : α} {l : List α} {n : Nat} (h : l[n]? = some o) : l.toArray[n]? = some o := by simpa using h

end Go.Proofs.YtkjffoebcblpoaaGreat.gn
end
section
namespace Go.Proofs.YtkjffoebcblpoaaGreat.gn
open Go.RowKit Go.Shelf Go.Sort Go.Lib
variable {P : Program} {ρ : Ren} {α : Type} [Inhabited α] {enc : α → List Value} {k : Nat} {cf : α → α → Int} {g : FuncId} {fs cb : Array Value} {w0 : World} {blk off : Nat} {d0 : Array α}

/-- Two places of lo .. hi are told; the counter c has at most m. -/
def Two (enc : α → List Value) (k : Nat) (w0 : World) (blk off : Nat) (d : Array α) (lo hi c m : Nat) (e : Ending) (w' : World) : Prop :=
  ∃ x y s : Nat, e = .returned (.tuple #[.int .i64 x, .int .i64 y]) ∧ (lo ≤ x ∧ x < hi) ∧ (lo ≤ y ∧ y < hi) ∧ s ≤ m ∧ CntK enc k w0 blk off d c s w'
def One (enc : α → List Value) (k : Nat) (w0 : World) (blk off : Nat) (d : Array α) (lo hi c m : Nat) (e : Ending) (w' : World) : Prop :=
  ∃ x s : Nat, e = .returned (.int .i64 x) ∧ (lo ≤ x ∧ x < hi) ∧ s ≤ m ∧ CntK enc k w0 blk off d c s w'
def Pivot (enc : α → List Value) (k : Nat) (w0 : World) (blk off : Nat) (d : Array α) (lo hi : Nat) (e : Ending) (w' : World) : Prop :=
  ∃ (x : Nat) (h : Int), e = .returned (.tuple #[.int .i64 x, .int .i64 h]) ∧ (lo ≤ x ∧ x < hi) ∧ SWK enc k w0 blk off d w'

set_option maxHeartbeats 8000000 in
set_option maxRecDepth 1000000 in
theorem sv_order2 (L : SlLaysF0.n57 P ρ) (E : Elt P ρ k) (M : Srt P enc k cf g fs cb w0 blk off d0) {d : Array α} {w : World} {a b lo hi c s cap : Nat} (C : CntK enc k w0 blk off d c s w) (hs : d0.size = d.size) (ha1 : lo ≤ a) (ha2 : a < hi) (hb1 : lo ≤ b) (hb2 : b < hi) (hhi : hi ≤ d.size) (hsm : s < 1000) :
    Calls P (ρ.f 57) #[.slice (some ⟨blk, off, none⟩) d.size cap, .int .i64 a, .int .i64 b, .pointer (some ⟨c, 0, none⟩), .func (.func g) fs cb] w (Two enc k w0 blk off d lo hi c (s + 1)) := by
  have mixed := L.mixed; have t0 := L.t0; have a0 := L.a0; have z0 := L.z0; have v0 := L.v0; have t3 := L.t3; have a3 := L.a3; have z3 := L.z3; have v3 := L.v3; have t4 := L.t4; have a4 := L.a4; have z4 := L.z4; have v4 := L.v4; have t22 := L.t22; have a22 := L.a22; have z22 := L.z22; have v22 := L.v22; have t25 := L.t25; have a25 := L.a25; have z25 := L.z25; have v25 := L.v25; have t70 := L.t70; have a70 := L.a70; have z70 := L.z70; have v70 := L.v70
  have aE := E.aE; have zE := E.zE
  have eg := M.eg
  have hsz : d.size < 4611686018427387904 := by rw [← hs]; exact M.hsz
  obtain ⟨_, _, FG⟩ := L.f57
  have S1 : Aside (SWK enc k w0 blk off d w) := C.1
  have C1 : Aside (CntK enc k w0 blk off d c s w) := C
  clear C
  go_enter FG, SlBodyF.n57_ntmps ρ
  cases hl : ltOf cf d[b]! d[a]! with
  | true =>
    obtain ⟨x10, y10, hv10, hd10, la10, lb10, hc10⟩ := M.less S1.out (by omega) (i := b) (j := a) (by omega) (by omega) hl
    obtain ⟨ia11, ib11, ic11, id11⟩ := idx (z := (b : Int)) (i := b) (n := d.size) (by omega) (by omega) hsz
    obtain ⟨ia12, ib12, ic12, id12⟩ := idx (z := (a : Int)) (i := a) (n := d.size) (by omega) (by omega) hsz
    go_wp2_with fail
    go_quiet_grown (first | (go_at_fn g; exact hc10 _ _))
    have C2 : Aside (CntK enc k w0 blk off d c s (grow (w.drewN nq) osq)) := C1.out.grown nq osq
    clear la10 lb10 hc10 S1 C1
    generalize grow (w.drewN nq) osq = w2 at C2 ⊢
    clear nq osq
    obtain ⟨_, cc, cfz, _, _⟩ := C2.out
    go_wp2
    go_ret2
    exact ⟨b, a, s + 1, rfl, ⟨hb1, hb2⟩, ⟨ha1, ha2⟩, Nat.le_refl _, by have := C2.out.bump (s + 1); simpa using this⟩
  | false =>
    obtain ⟨x13, y13, hv13, hd13, la13, lb13, hc13⟩ := M.notLess S1.out (by omega) (i := b) (j := a) (by omega) (by omega) hl
    obtain ⟨ia14, ib14, ic14, id14⟩ := idx (z := (b : Int)) (i := b) (n := d.size) (by omega) (by omega) hsz
    obtain ⟨ia15, ib15, ic15, id15⟩ := idx (z := (a : Int)) (i := a) (n := d.size) (by omega) (by omega) hsz
    go_wp2_with fail
    go_quiet_grown (first | (go_at_fn g; exact hc13 _ _))
    have C2 : Aside (CntK enc k w0 blk off d c s (grow (w.drewN nq) osq)) := C1.out.grown nq osq
    clear la13 lb13 hc13 S1 C1
    generalize grow (w.drewN nq) osq = w2 at C2 ⊢
    clear nq osq
    obtain ⟨_, cc, cfz, _, _⟩ := C2.out
    go_wp2
    go_ret2
    exact ⟨a, b, s, rfl, ⟨ha1, ha2⟩, ⟨hb1, hb2⟩, by omega, C2.out⟩

set_option maxHeartbeats 2000000 in
set_option maxRecDepth 1000000 in
theorem sv_median (L : SlLaysF0.n50 P ρ) (E : Elt P ρ k) (M : Srt P enc k cf g fs cb w0 blk off d0) {d : Array α} {w : World} {a b c' lo hi c s cap : Nat} (C : CntK enc k w0 blk off d c s w) (hs : d0.size = d.size) (ha1 : lo ≤ a) (ha2 : a < hi) (hb1 : lo ≤ b) (hb2 : b < hi) (hc1 : lo ≤ c') (hc2 : c' < hi) (hhi : hi ≤ d.size) (hsm : s < 900) :
    Calls P (ρ.f 50) #[.slice (some ⟨blk, off, none⟩) d.size cap, .int .i64 a, .int .i64 b, .int .i64 c', .pointer (some ⟨c, 0, none⟩), .func (.func g) fs cb] w (One enc k w0 blk off d lo hi c (s + 3)) := by
  have mixed := L.mixed; have t0 := L.t0; have a0 := L.a0; have z0 := L.z0; have v0 := L.v0; have t3 := L.t3; have a3 := L.a3; have z3 := L.z3; have v3 := L.v3; have t4 := L.t4; have a4 := L.a4; have z4 := L.z4; have v4 := L.v4; have t22 := L.t22; have a22 := L.a22; have z22 := L.z22; have v22 := L.v22; have t25 := L.t25; have a25 := L.a25; have z25 := L.z25; have v25 := L.v25; have t70 := L.t70; have a70 := L.a70; have z70 := L.z70; have v70 := L.v70; have t77 := L.t77; have a77 := L.a77; have z77 := L.z77; have v77 := L.v77
  have aE := E.aE; have zE := E.zE
  have eg := M.eg
  have hsz : d.size < 4611686018427387904 := by rw [← hs]; exact M.hsz
  obtain ⟨_, _, FG⟩ := L.f50
  have e57 : ∀ args w, (callFunc (ρ.f 57) args).run P w = .ok (.enter (ρ.f 57) args) w := L.f57.enters rfl
  have step := fun (W : World) (t x y : Nat) (C' : CntK enc k w0 blk off d c t W) (h1 : lo ≤ x) (h2 : x < hi) (h3 : lo ≤ y) (h4 : y < hi) (h5 : t < 1000) => sv_order2 (cap := cap) (P := P) (ρ := ρ) { L with } E M C' hs h1 h2 h3 h4 hhi h5
  have STEP : Aside _ := step
  clear step
  go_enter FG, SlBodyF.n50_ntmps ρ
  go_wp2_with fail
  go_at_fn (ρ.f 57)
  refine (STEP.out _ _ _ _ C ha1 ha2 hb1 hb2 (by omega)).mono ?_
  rintro e w1 ⟨x1, y1, s1, rfl, ⟨hx1, hx2⟩, ⟨hy1, hy2⟩, hs1, C1⟩
  clear C
  go_wp2_with fail
  go_at_fn (ρ.f 57)
  refine (STEP.out _ _ _ _ C1 hy1 hy2 hc1 hc2 (by omega)).mono ?_
  rintro e w2 ⟨x2, y2, s2, rfl, ⟨hu1, hu2⟩, ⟨hv1, hv2⟩, hs2, C2⟩
  clear C1
  go_wp2_with fail
  go_at_fn (ρ.f 57)
  refine (STEP.out _ _ _ _ C2 hx1 hx2 hu1 hu2 (by omega)).mono ?_
  rintro e w3 ⟨x3, y3, s3, rfl, _, ⟨hq1, hq2⟩, hs3, C3⟩
  clear C2
  go_wp2_with fail
  go_ret
  exact ⟨y3, s3, rfl, ⟨hq1, hq2⟩, by omega, C3⟩

set_option maxHeartbeats 2000000 in
set_option maxRecDepth 1000000 in
theorem sv_medianAdj (L : SlLaysF0.n49 P ρ) (E : Elt P ρ k) (M : Srt P enc k cf g fs cb w0 blk off d0) {d : Array α} {w : World} {a lo hi c s cap : Nat} (C : CntK enc k w0 blk off d c s w) (hs : d0.size = d.size) (ha1 : lo < a) (ha2 : a + 1 < hi) (hhi : hi ≤ d.size) (hsm : s < 900) :
    Calls P (ρ.f 49) #[.slice (some ⟨blk, off, none⟩) d.size cap, .int .i64 a, .pointer (some ⟨c, 0, none⟩), .func (.func g) fs cb] w (One enc k w0 blk off d lo hi c (s + 3)) := by
  have hm := sv_median (P := P) (ρ := ρ) (a := a - 1) (b := a) (c' := a + 1) (cap := cap) { L with } E M C hs (lo := lo) (hi := hi) (by omega) (by omega) (by omega) (by omega) (by omega) (by omega) hhi hsm
  rw [show ((a - 1 : Nat) : Int) = (a : Int) - 1 by omega, show ((a + 1 : Nat) : Int) = (a : Int) + 1 by omega] at hm
  clear C
  have mixed := L.mixed; have t0 := L.t0; have a0 := L.a0; have z0 := L.z0; have v0 := L.v0; have t3 := L.t3; have a3 := L.a3; have z3 := L.z3; have v3 := L.v3; have t4 := L.t4; have a4 := L.a4; have z4 := L.z4; have v4 := L.v4; have t22 := L.t22; have a22 := L.a22; have z22 := L.z22; have v22 := L.v22; have t25 := L.t25; have a25 := L.a25; have z25 := L.z25; have v25 := L.v25; have t70 := L.t70; have a70 := L.a70; have z70 := L.z70; have v70 := L.v70; have t77 := L.t77; have a77 := L.a77; have z77 := L.z77; have v77 := L.v77
  have aE := E.aE; have zE := E.zE
  have eg := M.eg
  have hsz : d.size < 4611686018427387904 := by rw [← hs]; exact M.hsz
  obtain ⟨_, _, FG⟩ := L.f49
  have e50 : ∀ args w, (callFunc (ρ.f 50) args).run P w = .ok (.enter (ρ.f 50) args) w := L.f50.enters rfl
  go_enter FG, SlBodyF.n49_ntmps ρ
  go_wp2_with (go_at_fn (ρ.f 50); refine hm.mono ?_; rintro e w1 ⟨x, t, rfl, h1, h2, C1⟩)
  go_ret
  exact ⟨x, t, rfl, h1, h2, C1⟩

set_option maxHeartbeats 8000000 in
set_option maxRecDepth 1000000 in
theorem sv_pivot (L : SlLaysF0.n23 P ρ) (E : Elt P ρ k) (M : Srt P enc k cf g fs cb w0 blk off d0) {d : Array α} {w : World} {a b cap : Nat} (S : SWK enc k w0 blk off d w) (hs : d0.size = d.size) (hab : a < b) (hb : b ≤ d.size) :
    Calls P (ρ.f 23) #[.slice (some ⟨blk, off, none⟩) d.size cap, .int .i64 a, .int .i64 b, .func (.func g) fs cb] w (Pivot enc k w0 blk off d a b) := by
  have eg := M.eg
  have hsz : d.size < 4611686018427387904 := by rw [← hs]; exact M.hsz
  have MA := fun (W' : World) (x s : Nat) (C' : CntK enc k w0 blk off d w.heap.size s W') (h1 : a < x) (h2 : x + 1 < b) (h3 : s < 900) => sv_medianAdj (P := P) (ρ := ρ) (cap := cap) { L with } E M C' hs h1 h2 hb h3
  have MD := fun (W' : World) (x y z s : Nat) (C' : CntK enc k w0 blk off d w.heap.size s W') (h1 : a ≤ x) (h2 : x < b) (h3 : a ≤ y) (h4 : y < b) (h5 : a ≤ z) (h6 : z < b) (h7 : s < 900) => sv_median (P := P) (ρ := ρ) (cap := cap) { L with } E M C' hs h1 h2 h3 h4 h5 h6 hb h7
  have HMA : Aside _ := MA
  have HMD : Aside _ := MD
  clear MA MD
  have C0 : CntK enc k w0 blk off d w.heap.size 0 (w.alloc (.cells #[.int .i64 0] (ρ.t 3))) := CntK.start S (ρ.t 3)
  have H0 : Aside _ := C0
  clear S C0
  have mixed := L.mixed; have t0 := L.t0; have a0 := L.a0; have z0 := L.z0; have v0 := L.v0; have t3 := L.t3; have a3 := L.a3; have z3 := L.z3; have v3 := L.v3; have t4 := L.t4; have a4 := L.a4; have z4 := L.z4; have v4 := L.v4; have t22 := L.t22; have a22 := L.a22; have z22 := L.z22; have v22 := L.v22; have t25 := L.t25; have a25 := L.a25; have z25 := L.z25; have v25 := L.v25; have t45 := L.t45; have a45 := L.a45; have z45 := L.z45; have v45 := L.v45; have t70 := L.t70; have a70 := L.a70; have z70 := L.z70; have v70 := L.v70; have t77 := L.t77; have a77 := L.a77; have z77 := L.z77; have v77 := L.v77
  have aE := E.aE; have zE := E.zE
  obtain ⟨_, _, FG⟩ := L.f23
  have e49 : ∀ args w, (callFunc (ρ.f 49) args).run P w = .ok (.enter (ρ.f 49) args) w := L.f49.enters rfl
  have e50 : ∀ args w, (callFunc (ρ.f 50) args).run P w = .ok (.enter (ρ.f 50) args) w := L.f50.enters rfl
  obtain ⟨N, hN⟩ : ∃ N : Nat, N = b - a := ⟨_, rfl⟩
  have zN : (b : Int) - (a : Int) = (N : Int) := by omega
  have hN1 : a + N ≤ b := by omega
  have hN2 : b ≤ a + N := by omega
  clear hN
  obtain ⟨I, hI⟩ : ∃ I : Nat, I = a + N / 4 := ⟨_, rfl⟩
  obtain ⟨J, hJ⟩ : ∃ J : Nat, J = a + N / 4 * 2 := ⟨_, rfl⟩
  obtain ⟨K, hK⟩ : ∃ K : Nat, K = a + N / 4 * 3 := ⟨_, rfl⟩
  have zI : (a : Int) + (N : Int) / 4 = (I : Int) := by omega
  have zJ : (a : Int) + (N : Int) / 4 * 2 = (J : Int) := by omega
  have zK : (a : Int) + (N : Int) / 4 * 3 = (K : Int) := by omega
  have bI : 50 ≤ N → a < I ∧ I + 1 < b ∧ a < J ∧ J + 1 < b ∧ a < K ∧ K + 1 < b := fun h => by omega
  have bJ : a ≤ I ∧ I < b ∧ a ≤ J ∧ J < b ∧ a ≤ K ∧ K < b := by omega
  have BI : Aside _ := bI
  have BJ : Aside _ := bJ
  clear hI hJ hK bI bJ
  have ends : ∀ (p s : Nat) (W : World), CntK enc k w0 blk off d w.heap.size s W → a ≤ p → p < b → ∀ h : Int, Pivot enc k w0 blk off d a b (.returned (.tuple #[.int .i64 p, .int .i64 h])) W := fun p s W C h1 h2 h => ⟨p, h, rfl, ⟨h1, h2⟩, C.1⟩
  have ENDS : Aside _ := ends
  clear ends
  by_cases h8 : 8 ≤ N
  · by_cases h50 : 50 ≤ N
    · obtain ⟨p1, p2, p3, p4, p5, p6⟩ := BI.out h50
      have h8z : (8 : Int) ≤ (N : Int) := by omega
      have h50z : (50 : Int) ≤ (N : Int) := by omega
      go_enter FG, SlBodyF.n23_ntmps ρ
      go_wp2_with fail
      go_at_fn (ρ.f 49)
      refine (HMA.out _ _ _ H0.out p1 p2 (by omega)).mono ?_
      rintro e w1 ⟨x1, s1, rfl, ⟨hx1, hx2⟩, hs1, C1⟩
      go_wp2_with fail
      go_at_fn (ρ.f 49)
      refine (HMA.out _ _ _ C1 p3 p4 (by omega)).mono ?_
      rintro e w2 ⟨x2, s2, rfl, ⟨hy1, hy2⟩, hs2, C2⟩
      go_wp2_with fail
      go_at_fn (ρ.f 49)
      refine (HMA.out _ _ _ C2 p5 p6 (by omega)).mono ?_
      rintro e w3 ⟨x3, s3, rfl, ⟨hz1, hz2⟩, hs3, C3⟩
      go_wp2_with fail
      go_at_fn (ρ.f 50)
      refine (HMD.out _ _ _ _ _ C3 hx1 hx2 hy1 hy2 hz1 hz2 (by omega)).mono ?_
      rintro e w4 ⟨x4, s4, rfl, ⟨hq1, hq2⟩, hs4, C4⟩
      have D4 : Aside _ := C4
      obtain ⟨_, cc, _, _, _⟩ := C4
      clear C1 C2 C3
      go_wp2
      all_goals
        go_ret2
        exact ENDS.out _ _ _ D4.out hq1 hq2 _
    · obtain ⟨p1, p2, p3, p4, p5, p6⟩ := BJ.out
      have h8z : (8 : Int) ≤ (N : Int) := by omega
      have h50z : ¬ (50 : Int) ≤ (N : Int) := by omega
      go_enter FG, SlBodyF.n23_ntmps ρ
      go_wp2_with fail
      go_at_fn (ρ.f 50)
      refine (HMD.out _ _ _ _ _ H0.out p1 p2 p3 p4 p5 p6 (by omega)).mono ?_
      rintro e w4 ⟨x4, s4, rfl, ⟨hq1, hq2⟩, hs4, C4⟩
      have D4 : Aside _ := C4
      obtain ⟨_, cc, _, _, _⟩ := C4
      go_wp2
      all_goals
        go_ret2
        exact ENDS.out _ _ _ D4.out hq1 hq2 _
  · obtain ⟨p1, p2, p3, p4, p5, p6⟩ := BJ.out
    have h8z : ¬ (8 : Int) ≤ (N : Int) := by omega
    go_enter FG, SlBodyF.n23_ntmps ρ
    go_wp2
    all_goals
      go_ret2
      exact ENDS.out _ _ _ H0.out p3 p4 _
end Go.Proofs.YtkjffoebcblpoaaGreat.gn
end
