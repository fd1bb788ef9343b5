/- Is: its contract. -/
import Derived.Test.YtigomdihkojdmaaFtF
namespace Go.Proofs.Ytigomdihkojdmaa.gn
open Go.RowKit Go.Shelf
open Go.Proofs.Ytigomdihkojdmaa.sp
attribute [local go_sem ↓] Go.wp_at_zero Go.wp_at_succ

/-- These rows are a room's. -/
structure Rw.Is (R : Rw) (r : Rm) : Prop where
  an : R.an = r.n.map Prod.fst
  nn : R.nn = r.n.map Prod.snd
  ab : R.ab = r.b.map Prod.fst
  nb : R.nb = r.b.map Prod.snd
  al : R.al = r.l.map Prod.fst
  nl : R.nl = r.l.map Prod.snd
theorem Rw.ok_iff {R : Rw} : R.Ok ↔ ∃ r : Rm, r.Ok ∧ R.Is r := by
  constructor
  · rintro ⟨⟨Ln, h1, e1, e2⟩, ⟨Lb, h2, e3, e4⟩, ⟨Ll, h3, e5, e6⟩⟩
    exact ⟨⟨Ln, Lb, Ll⟩, ⟨h1, h2, h3⟩, ⟨e1, e2, e3, e4, e5, e6⟩⟩
  · rintro ⟨r, ⟨h1, h2, h3⟩, ⟨e1, e2, e3, e4, e5, e6⟩⟩
    exact ⟨⟨r.n, h1, e1, e2⟩, ⟨r.b, h2, e3, e4⟩, ⟨r.l, h3, e5, e6⟩⟩
theorem zip_uniq {L M : List (Int × Int)} (h1 : L.map Prod.fst = M.map Prod.fst) (h2 : L.map Prod.snd = M.map Prod.snd) : L = M := by
  have e : ∀ K : List (Int × Int), K = (K.map Prod.fst).zip (K.map Prod.snd) := fun K => by
    induction K with
    | nil => rfl
    | cons p K ih => rw [List.map_cons, List.map_cons, List.zip_cons_cons, ← ih]
  rw [e L, e M, h1, h2]
theorem Rw.Is.uniq {R : Rw} {r r' : Rm} (h : R.Is r) (h' : R.Is r') : r = r' := by
  obtain ⟨n, b, l⟩ := r
  obtain ⟨n', b', l'⟩ := r'
  have e1 : n = n' := zip_uniq (h.an.symm.trans h'.an) (h.nn.symm.trans h'.nn)
  have e2 : b = b' := zip_uniq (h.ab.symm.trans h'.ab) (h.nb.symm.trans h'.nb)
  have e3 : l = l' := zip_uniq (h.al.symm.trans h'.al) (h.nl.symm.trans h'.nl)
  rw [e1, e2, e3]

theorem lst_fits {L : List (Int × Int)} (hL : Ok L) {f l n : Int} (hf : Q f) (he : Q (f + l)) (hn : n ≤ 1099511627776) : n ≤ lst L f (f + l) ↔ FitsAt L f l n := by
  have h := lst_is hL hf he
  constructor
  · intro hle
    exact ⟨he.2, fun u h1 h2 => Int.le_trans hle (h.low u h1 h2)⟩
  · rintro ⟨_, hall⟩
    rcases h.is with e | ⟨t, h1, h2, e⟩
    · omega
    · rw [e]; exact hall t h1 h2
open Classical in
noncomputable def fitB (L : List (Int × Int)) (f l n : Int) : Bool := decide (FitsAt L f l n)
open Classical in
theorem fitB_iff {L : List (Int × Int)} {f l n : Int} : fitB L f l n = true ↔ FitsAt L f l n := decide_eq_true_iff
theorem fitB_yes {L : List (Int × Int)} {f l n : Int} (h : FitsAt L f l n) : fitB L f l n = true := fitB_iff.2 h
theorem fitB_no {L : List (Int × Int)} {f l n : Int} (h : ¬ FitsAt L f l n) : fitB L f l n = false := by
  cases e : fitB L f l n with
  | false => rfl
  | true => exact absurd (fitB_iff.1 e) h

open Classical in
/-- Is it one? -/
noncomputable def isB (R : Rw) (x : Shp) (a : Slt) : Bool := decide (x.Q ∧ ∃ r : Rm, r.Ok ∧ R.Is r ∧ IsSlot r x a)
open Classical in
theorem isB_iff {R : Rw} {x : Shp} {a : Slt} : isB R x a = true ↔ x.Q ∧ ∃ r : Rm, r.Ok ∧ R.Is r ∧ IsSlot r x a := decide_eq_true_iff
theorem isB_no {R : Rw} {x : Shp} {a : Slt} (h : ¬ (x.Q ∧ ∃ r : Rm, r.Ok ∧ R.Is r ∧ IsSlot r x a)) : isB R x a = false := by
  cases e : isB R x a with
  | false => rfl
  | true => exact absurd (isB_iff.1 e) h
theorem isB_of {R : Rw} {x : Shp} {a : Slt} {r : Rm} (hx : x.Q) (hr : r.Ok) (h : R.Is r) : isB R x a = true ↔ IsSlot r x a := by
  rw [isB_iff]
  constructor
  · rintro ⟨_, r', hr', h', hs⟩
    rw [h.uniq h']; exact hs
  · exact fun hs => ⟨hx, r, hr, h, hs⟩

/-- A room's values. -/
structure Rv where
  p1 : Option Addr
  q1 : Nat
  r1 : Nat
  p2 : Option Addr
  q2 : Nat
  r2 : Nat
  p3 : Option Addr
  q3 : Nat
  r3 : Nat
  p4 : Option Addr
  q4 : Nat
  r4 : Nat
  p5 : Option Addr
  q5 : Nat
  r5 : Nat
  p6 : Option Addr
  q6 : Nat
  r6 : Nat
abbrev Rv.c (v : Rv) : Array Value := #[.slice v.p1 v.q1 v.r1, .slice v.p2 v.q2 v.r2, .slice v.p3 v.q3 v.r3, .slice v.p4 v.q4 v.r4, .slice v.p5 v.q5 v.r5, .slice v.p6 v.q6 v.r6]
/-- A room in memory, with its values laid open. -/
abbrev RoomV (w : World) (v : Rv) (R : Rw) : Prop := RoomI w (.slice v.p1 v.q1 v.r1) (.slice v.p2 v.q2 v.r2) (.slice v.p3 v.q3 v.r3) (.slice v.p4 v.q4 v.r4) (.slice v.p5 v.q5 v.r5) (.slice v.p6 v.q6 v.r6) R

theorem fitsl_any {w : World} {v : Rv} {R : Rw} {r : Rm} (h : RoomV w v R) (hr : r.Ok) (hR : R.Is r) {f l n : Int} (hf : Q f) (he : 0 ≤ f + l) (he2 : f + l ≤ 8796093022208) (hn : n ≤ 1099511627776) :
    Calls Try.prog 22 #[.agg (prtC f l n 32), .agg v.c] w (TellsB (fitB r.l f l n) w) := by
  by_cases hle : f + l ≤ 1099511627776
  · have := fits_l f l n _ _ _ _ _ _ _ _ _ _ _ _ _ _ _ _ _ _ R r.l w h hr.l hR.al hR.nl hf ⟨he, hle⟩
    have e : decide (n ≤ lst r.l f (f + l)) = fitB r.l f l n := by
      have := lst_fits hr.l (n := n) hf ⟨he, hle⟩ hn
      by_cases hF : FitsAt r.l f l n
      · rw [fitB_yes hF]; exact decide_eq_true (this.2 hF)
      · rw [fitB_no hF]; exact decide_eq_false fun h => hF (this.1 h)
    rwa [e] at this
  · rw [fitB_no fun hF => hle hF.1]
    exact fits_far _ f l n _ _ _ _ _ _ _ _ _ _ _ _ _ _ _ _ _ _ R w h (by omega) (by omega)
theorem fitsn_any {w : World} {v : Rv} {R : Rw} {r : Rm} (h : RoomV w v R) (hr : r.Ok) (hR : R.Is r) {f l n : Int} (hf : Q f) (he : 0 ≤ f + l) (he2 : f + l ≤ 8796093022208) (hn : n ≤ 1099511627776) :
    Calls Try.prog 22 #[.agg (prtC f l n 33), .agg v.c] w (TellsB (fitB r.n f l n) w) := by
  by_cases hle : f + l ≤ 1099511627776
  · have := fits_n f l n _ _ _ _ _ _ _ _ _ _ _ _ _ _ _ _ _ _ R r.n w h hr.n hR.an hR.nn hf ⟨he, hle⟩
    have e : decide (n ≤ lst r.n f (f + l)) = fitB r.n f l n := by
      have := lst_fits hr.n (n := n) hf ⟨he, hle⟩ hn
      by_cases hF : FitsAt r.n f l n
      · rw [fitB_yes hF]; exact decide_eq_true (this.2 hF)
      · rw [fitB_no hF]; exact decide_eq_false fun h => hF (this.1 h)
    rwa [e] at this
  · rw [fitB_no fun hF => hle hF.1]
    exact fits_far _ f l n _ _ _ _ _ _ _ _ _ _ _ _ _ _ _ _ _ _ R w h (by omega) (by omega)
theorem fitsb_any {w : World} {v : Rv} {R : Rw} {r : Rm} (h : RoomV w v R) (hr : r.Ok) (hR : R.Is r) {f l n : Int} (hf : Q f) (he : 0 ≤ f + l) (he2 : f + l ≤ 8796093022208) (hn : n ≤ 1099511627776) :
    Calls Try.prog 22 #[.agg (prtC f l n 34), .agg v.c] w (TellsB (fitB r.b f l n) w) := by
  by_cases hle : f + l ≤ 1099511627776
  · have := fits_b f l n _ _ _ _ _ _ _ _ _ _ _ _ _ _ _ _ _ _ R r.b w h hr.b hR.ab hR.nb hf ⟨he, hle⟩
    have e : decide (n ≤ lst r.b f (f + l)) = fitB r.b f l n := by
      have := lst_fits hr.b (n := n) hf ⟨he, hle⟩ hn
      by_cases hF : FitsAt r.b f l n
      · rw [fitB_yes hF]; exact decide_eq_true (this.2 hF)
      · rw [fitB_no hF]; exact decide_eq_false fun h => hF (this.1 h)
    rwa [e] at this
  · rw [fitB_no fun hF => hle hF.1]
    exact fits_far _ f l n _ _ _ _ _ _ _ _ _ _ _ _ _ _ _ _ _ _ R w h (by omega) (by omega)

/-- The boxes of a room, a shape and a slot. -/
structure Rxa (w : World) (v : Rv) (R : Rw) (x : Shp) (a : Slt) (W : World) : Prop where
  bR : BoxA W w.heap.size 26 v.c
  bX : BoxA W (w.heap.size + 1) 28 (shpC x)
  bA : BoxA W (w.heap.size + 1 + 1) 30 (sltC a)
  hB : Below w.heap.size w W
  hR : RoomV W v R
theorem Rxa.next {w W W' : World} {v : Rv} {R : Rw} {x : Shp} {a : Slt} (h : Rxa w v R x a W) (hb : Below W.heap.size W W') : Rxa w v R x a W' :=
  ⟨h.bR.next hb, h.bX.next hb, h.bA.next hb, h.hB.trans (hb.mono h.hB.size), RoomI.below h.hR hb⟩
theorem Rxa.new {w : World} {v : Rv} {R : Rw} (x : Shp) (a : Slt) (h : RoomV w v R) : Rxa w v R x a (((w.alloc (.cells v.c 26)).alloc (.cells (shpC x) 28)).alloc (.cells (sltC a) 30)) := by
  have b1 := ((BoxA.new w 26 v.c).alloc (.cells (shpC x) 28)).alloc (.cells (sltC a) 30)
  have b2 := (BoxA.new (w.alloc (.cells v.c 26)) 28 (shpC x)).alloc (.cells (sltC a) 30)
  have b3 := BoxA.new ((w.alloc (.cells v.c 26)).alloc (.cells (shpC x) 28)) 30 (sltC a)
  simp only [World.size_alloc] at b2 b3
  have hb : Below w.heap.size w (((w.alloc (.cells v.c 26)).alloc (.cells (shpC x) 28)).alloc (.cells (sltC a) 30)) := (((Below.refl _ w).alloc (Nat.le_refl _) _).alloc (by simp) _).alloc (by simp; omega) _
  exact ⟨b1, b2, b3, hb, RoomI.below h hb⟩
theorem quant3 {a b c : Int} : (∀ n ∈ [a, b, c], Q n) ↔ Q a ∧ Q b ∧ Q c := by simp

set_option maxRecDepth 100000 in
set_option maxHeartbeats 1000000 in
theorem is_bad {w : World} {v : Rv} {R : Rw} (x : Shp) (a : Slt) (h : RoomV w v R) (hno : ¬ (R.Ok ∧ x.Q ∧ Q a.s ∧ Q a.c ∧ Q a.o)) :
    Calls Try.prog 9 #[.agg v.c, shpV x, sltV a] w (TellsB false w) := by
  have hv : vld3 R x [a.s, a.c, a.o] = false := vld3_no fun h => hno ⟨h.1, h.2.1, quant3.1 h.2.2⟩
  have HV := Lib.hid hv
  have S := Rxa.new x a h
  have HV3 := Lib.hid (valid3_any (x := x) (l := [a.s, a.c, a.o]) (RoomI.below S.hR ((Below.refl _ _).alloc (Nat.le_refl _) (.cells #[.int .i64 a.s, .int .i64 a.c, .int .i64 a.o] 2))) (row3 _ a.s a.c a.o))
  simp only [World.size_alloc] at HV3
  have HB := Lib.hid S.hB
  clear S h hv
  unfold shpV shpC sltV sltC at *
  go_enter Try.func9, Try.ntmps9
  go_wp2_with (go_at_call 17; refine HV3.out.mono ?_; rintro e w1 ⟨rfl, hb1⟩; rw [HV.out]; have HB1 := Lib.hid ((HB.out.alloc HB.out.size _).trans (hb1.mono (HB.out.alloc HB.out.size _).size)); clear hb1)
  go_ret
  exact ⟨rfl, HB1.out⟩
end Go.Proofs.Ytigomdihkojdmaa.gn
