/- Appends in a plain region; the contracts of short, sound, waits. -/
import Derived.Test.YtekcjfdllclphaaGreatDoorMSlG
import Derived.Test.YtekcjfdllclphaaGreatDoorMSlB
import Derived.BigFrame
section
set_option linter.unusedVariables false
set_option linter.unusedSimpArgs false
namespace Go.Proofs.YtekcjfdllclphaaGreatDoor.gn
open Go.RowKit
open Go.Proofs.YtekcjfdllclphaaGreatDoor.un
open Go.Proofs.YtekcjfdllclphaaGreatDoor.di
open Go.Proofs.YtekcjfdllclphaaGreatDoor.sp (Slip shortP soundP waitsP storedP apartP dirsP dropD useD capD innD outD chkS chkS_P)

/-! ### appends -/
theorem own_low {w w' : World} {base : Nat} {e : TypeId} {size : Nat} {v : Value} {n : Nat} {cs : List Value} (h : w.ownsRow base e size v n cs) (hg : w.grownBy w' v.ownBlock) (hb : base ≤ w.heap.size) : Below base w w' :=
  (Below.refl _ _).grown hg hb fun k hk => (World.ownsRow.lt h k hk).1
theorem wpl_app {t e : TypeId} {z : Value} {size bytes : Nat} (E : EltI t e z size bytes) {ops : Array Oper} {rest : List Oper} {o : Oper} {a : Act} {w : World} {Q : Exit → Act → World → Prop} (hgd : o.guard = none) (s x : Operand)
    (ho : o.op = .call { callee := .builtin .append, args := #[s, x], argTypes := #[t, t] })
    {base n : Nat} {v : Value} {cs : List Value} (hs : a.eval s = v) (hown : w.ownsRow base e size v n cs) (ad : Addr) (ds : List Value) (hx : a.eval x = .slice (some ad) 1 1) (hc : ∀ j u, ds[j]? = some u → w.cell? (ad.add j) = some u) (hd : ds.length = size)
    (h1 : ∀ u ∈ ds, u.oneCell' = true) (hlen : n ≤ 1000000) (hby : bytes ≤ 100) (hb : base ≤ w.heap.size)
    (hK : ∀ g c w', w'.ownsRow base e size (.slice (some ⟨g, 0, none⟩) (n + 1) c) (n + 1) (cs ++ ds) → Below base w w' → wpList Tryz.prog ops Q rest (a.put o.dst (.slice (some ⟨g, 0, none⟩) (n + 1) c)) w') :
    wpList Tryz.prog ops Q (o :: rest) a w := by
  refine wpList_plain hgd fun K hK' => ?_
  obtain ⟨v', w', hrun, r1, r2, r4⟩ := run_own E o.type hown hc (by rw [hd, Nat.one_mul]) h1 (show n + 1 ≤ maxLen by unfold maxLen; omega) (by have : (n + 1) * bytes ≤ 1000001 * 100 := Nat.mul_le_mul (by omega) hby; omega) hb (show 0 < 1 by decide) (c := 1)
  have hform : ∃ g c, v' = .slice (some ⟨g, 0, none⟩) (n + 1) c := by
    rcases r1.2 with ⟨_, h0⟩ | ⟨g, cap, cur, e, _⟩
    · omega
    · exact ⟨_, _, e⟩
  obtain ⟨g, c, rfl⟩ := hform
  unfold Oper.wp
  simp [execOp, ho, resolve, invoke, builtin, hs, hx, hrun, Result.andThen]
  exact hK' _ _ (hK g c w' r1 (own_low hown r2 hb))
/-- A row that is read, behind a row of the call's own. -/
theorem wpl_ow {t e : TypeId} {z : Value} {size bytes : Nat} (E : EltI t e z size bytes) {ops : Array Oper} {rest : List Oper} {o : Oper} {a : Act} {w : World} {Q : Exit → Act → World → Prop} (hgd : o.guard = none) (s x : Operand)
    (ho : o.op = .call { callee := .builtin .append, args := #[s, x], argTypes := #[t, t] })
    {base n m : Nat} {v u : Value} {cs ds : List Value} (hs : a.eval s = v) (hown : w.ownsRow base e size v n cs) (hx : a.eval x = u) (hr : RdC w u m ds) (hd : ds.length = m * size)
    (h1 : ∀ u ∈ ds, u.oneCell' = true) (hlen : n + m ≤ 1000000) (hby : bytes ≤ 100) (hb : base ≤ w.heap.size)
    (hK : ∀ p c w', w'.ownsRow base e size (.slice p (n + m) c) (n + m) (cs ++ ds) → Below base w w' → wpList Tryz.prog ops Q rest (a.put o.dst (.slice p (n + m) c)) w') :
    wpList Tryz.prog ops Q (o :: rest) a w := by
  refine wpList_plain hgd fun K hK' => ?_
  obtain ⟨v', w', hrun, r1, r2⟩ := run_ow E o.type hown hr hd h1 (show n + m ≤ maxLen by unfold maxLen; omega) (by have : (n + m) * bytes ≤ 1000000 * 100 := Nat.mul_le_mul hlen hby; omega) hb
  have hform : ∃ p c, v' = .slice p (n + m) c := by
    rcases r1.2 with ⟨rfl, h0⟩ | ⟨g, cap, cur, e, _⟩
    · rw [h0]; exact ⟨_, _, rfl⟩
    · exact ⟨_, _, e⟩
  obtain ⟨p, c, rfl⟩ := hform
  unfold Oper.wp
  simp [execOp, ho, resolve, invoke, builtin, hs, hx, hrun, Result.andThen]
  exact hK' _ _ (hK p c w' r1 r2)

/-! ### slips that came in -/
structure SW (x : Slip) : Prop where
  user : x.user.length ≤ 9223372036854775807
  pool : x.pool.length ≤ 9223372036854775807
  nodes : -9223372036854775808 ≤ x.nodes ∧ x.nodes ≤ 9223372036854775807
  wall : -9223372036854775808 ≤ x.wall ∧ x.wall ≤ 9223372036854775807
  qos : -9223372036854775808 ≤ x.qos ∧ x.qos ≤ 9223372036854775807
  cap : -9223372036854775808 ≤ x.cap ∧ x.cap ≤ 9223372036854775807
  inn : -9223372036854775808 ≤ x.inn ∧ x.inn ≤ 9223372036854775807
  out : -9223372036854775808 ≤ x.out ∧ x.out ≤ 9223372036854775807
  after : ∀ d ∈ x.after, -9223372036854775808 ≤ d.1 ∧ d.1 ≤ 9223372036854775807
  make : ∀ d ∈ x.make, DW d
  drop : ∀ n ∈ x.drop, n.length ≤ 9223372036854775807
  use : ∀ n ∈ x.use, n.length ≤ 9223372036854775807

theorem le_true {n m : Nat} (h : n ≤ m) : decide ((n : Int) ≤ (m : Int)) = true := decide_eq_true (by omega)
theorem le_false {n m : Nat} (h : ¬ n ≤ m) : decide ((n : Int) ≤ (m : Int)) = false := decide_eq_false (by omega)

set_option maxRecDepth 100000 in
set_option maxHeartbeats 4000000 in
theorem short_any (x : Slip) (g : Gh) (w : World) (h : SR w x g) : Calls Tryz.prog 57 #[sV x g] w (Told (.bool (shortP x)) w) := by
  obtain ⟨va, vm, vd, vu⟩ := g
  obtain ⟨pa, ca, ea, la1, la2⟩ := h.ca
  obtain ⟨pm, cm, em, lm1, lm2⟩ := h.cm
  obtain ⟨pd, cd, ed, ld1, ld2⟩ := h.cd
  obtain ⟨pu, cu, eu, lu1, lu2⟩ := h.cu
  dsimp only at ea em ed eu
  subst ea em ed eu
  have HP := Lib.hid (show shortP x = (decide (x.after.length ≤ 8) && (decide (x.make.length ≤ 4) && (decide (x.drop.length ≤ 4) && decide (x.use.length ≤ 4)))) by
    unfold shortP
    rw [Bool.eq_iff_iff]
    simp)
  clear h la1 la2 lm1 lm2 ld1 ld2 lu1 lu2
  unfold sV scs
  dsimp only
  generalize x.after.length = na at *
  generalize x.make.length = nm at *
  generalize x.drop.length = nd at *
  generalize x.use.length = nu at *
  generalize str x.user = su at *
  generalize str x.pool = sp at *
  by_cases h1 : na ≤ 8
  · have q1 : decide ((na : Int) ≤ 8) = true := decide_eq_true (by omega)
    by_cases h2 : nm ≤ 4
    · have q2 : decide ((nm : Int) ≤ 4) = true := decide_eq_true (by omega)
      by_cases h3 : nd ≤ 4
      · have q3 : decide ((nd : Int) ≤ 4) = true := decide_eq_true (by omega)
        have HR := Lib.hid (show shortP x = decide (nu ≤ 4) by rw [HP.out, decide_eq_true h1, decide_eq_true h2, decide_eq_true h3]; rfl)
        clear h1 h2 h3
        go_enter Tryz.func57, Tryz.ntmps57
        go_wp2
        go_ret
        exact ⟨by rw [HR.out]; show Ending.returned (.bool (decide ((nu : Int) ≤ 4))) = _; congr 2; rw [Bool.eq_iff_iff]; simp; omega, (Below.refl _ _).alloc (Nat.le_refl _) _⟩
      · have q3 : decide ((nd : Int) ≤ 4) = false := decide_eq_false (by omega)
        have HR := Lib.hid (show shortP x = false by rw [HP.out, decide_eq_false h3]; simp)
        clear h1 h2 h3
        go_enter Tryz.func57, Tryz.ntmps57
        go_wp2
        go_ret
        exact ⟨by rw [HR.out]; rfl, (Below.refl _ _).alloc (Nat.le_refl _) _⟩
    · have q2 : decide ((nm : Int) ≤ 4) = false := decide_eq_false (by omega)
      have HR := Lib.hid (show shortP x = false by rw [HP.out, decide_eq_false h2]; simp)
      clear h1 h2
      go_enter Tryz.func57, Tryz.ntmps57
      go_wp2
      go_ret
      exact ⟨by rw [HR.out]; rfl, (Below.refl _ _).alloc (Nat.le_refl _) _⟩
  · have q1 : decide ((na : Int) ≤ 8) = false := decide_eq_false (by omega)
    have HR := Lib.hid (show shortP x = false by rw [HP.out, decide_eq_false h1]; simp)
    clear h1
    go_enter Tryz.func57, Tryz.ntmps57
    go_wp2
    go_ret
    exact ⟨by rw [HR.out]; rfl, (Below.refl _ _).alloc (Nat.le_refl _) _⟩
end Go.Proofs.YtekcjfdllclphaaGreatDoor.gn
end
section
set_option linter.unusedVariables false
set_option linter.unusedSimpArgs false
namespace Go.Proofs.YtekcjfdllclphaaGreatDoor.gn
open Go.RowKit
open Go.Proofs.YtekcjfdllclphaaGreatDoor.un
open Go.Proofs.YtekcjfdllclphaaGreatDoor.di
open Go.Proofs.YtekcjfdllclphaaGreatDoor.sp (Slip shortP soundP waitsP storedP apartP dirsP dropD useD capD innD outD chkS chkS_P)

theorem sound_eq (x : Slip) : soundP x = (isName x.user && ((decide (1 ≤ x.nodes) && decide (x.nodes ≤ 64)) && ((decide (1 ≤ x.wall) && decide (x.wall ≤ 1048576)) && (decide (0 ≤ x.qos) && decide (x.qos ≤ 9))))) := by
  unfold soundP
  rw [Bool.eq_iff_iff]
  simp
set_option maxRecDepth 100000 in
set_option maxHeartbeats 4000000 in
theorem sound_any (x : Slip) (g : Gh) (w : World) (h : SW x) : Calls Tryz.prog 58 #[sV x g] w (Told (.bool (soundP x)) w) := by
  obtain ⟨va, vm, vd, vu⟩ := g
  have HP := Lib.hid (sound_eq x)
  have HNM := Lib.hid (fun W => name_all x.user h.user W)
  clear h
  unfold sV scs
  dsimp only
  obtain ⟨us, nodes, wall, qos, after, cap, inn, out, pool, mk, dr, use⟩ := x
  dsimp only at HP HNM ⊢
  obtain ⟨nm, hnm⟩ : ∃ b, isName us = b := ⟨_, rfl⟩
  rw [hnm] at HP HNM
  clear hnm
  have HW1 := Lib.hid (fun (t : Bool) (ht : (decide (1 ≤ nodes) && decide (nodes ≤ 64)) = t) W => within_at ht W)
  have HW2 := Lib.hid (fun (t : Bool) (ht : (decide (1 ≤ wall) && decide (wall ≤ 1048576)) = t) W => within_at ht W)
  have HW3 := Lib.hid (fun (t : Bool) (ht : (decide (0 ≤ qos) && decide (qos ≤ 9)) = t) W => within_at ht W)
  obtain ⟨b1, hb1⟩ : ∃ b, (decide (1 ≤ nodes) && decide (nodes ≤ 64)) = b := ⟨_, rfl⟩
  obtain ⟨b2, hb2⟩ : ∃ b, (decide (1 ≤ wall) && decide (wall ≤ 1048576)) = b := ⟨_, rfl⟩
  obtain ⟨b3, hb3⟩ : ∃ b, (decide (0 ≤ qos) && decide (qos ≤ 9)) = b := ⟨_, rfl⟩
  rw [hb1, hb2, hb3] at HP
  have H1 := Lib.hid (HW1.out b1 hb1)
  have H2 := Lib.hid (HW2.out b2 hb2)
  have H3 := Lib.hid (HW3.out b3 hb3)
  clear hb1 hb2 hb3 HW1 HW2 HW3
  generalize str pool = spl at *
  obtain ⟨w1, hw1⟩ : ∃ w1, w.alloc (.cells #[.string (str us), .int .i64 nodes, .int .i64 wall, .int .i64 qos, va, .int .i64 cap, .int .i64 inn, .int .i64 out, .string spl, vm, vd, vu] 27) = w1 := ⟨_, rfl⟩
  have hbx : BoxA w1 w.heap.size 27 #[.string (str us), .int .i64 nodes, .int .i64 wall, .int .i64 qos, va, .int .i64 cap, .int .i64 inn, .int .i64 out, .string spl, vm, vd, vu] := by rw [← hw1]; exact BoxA.new _ _ _
  have hB1 : Below w.heap.size w w1 := by rw [← hw1]; exact (Below.refl _ _).alloc (Nat.le_refl _) _
  have HBX := Lib.hid hbx
  have HB1 := Lib.hid hB1
  have H0 := Lib.hid hw1
  have c0 := hbx.cell 0 _
  have hlt := hbx.lt
  clear hbx hB1 hw1
  go_enter Tryz.func58, Tryz.ntmps58
  go_upto_region 1 with fail
  rw [H0.out]
  cases nm with
  | false =>
    go_wp2_with (go_at_call 98; ((with_reducible refine (HNM.out _).mono ?_); rintro e w2 ⟨rfl, hb⟩); have HB2 := Lib.hid hb; clear hb)
    go_ret
    exact ⟨by rw [HP.out]; rfl, HB1.out.trans (HB2.out.mono HB1.out.size)⟩
  | true =>
    cases b1 with
    | false =>
      go_wp2_with (first
        | (go_at_call 98; ((with_reducible refine (HNM.out _).mono ?_); rintro e w2 ⟨rfl, hb⟩); have HB2 := Lib.hid hb; have c1 := (HBX.out.next hb).cell 1 _; have hl2 := (HBX.out.next hb).lt; clear hb)
        | (go_at_call 99; first | ((with_reducible refine (H1.out _).mono ?_); rintro e w3 ⟨rfl, rfl⟩)))
      go_ret
      exact ⟨by rw [HP.out]; rfl, HB1.out.trans (HB2.out.mono HB1.out.size)⟩
    | true =>
      cases b2 with
      | false =>
        go_wp2_with (first
          | (go_at_call 98; ((with_reducible refine (HNM.out _).mono ?_); rintro e w2 ⟨rfl, hb⟩); have HB2 := Lib.hid hb; have c1 := (HBX.out.next hb).cell 1 _; have c2 := (HBX.out.next hb).cell 2 _; have hl2 := (HBX.out.next hb).lt; clear hb)
          | (go_at_call 99; first | ((with_reducible refine (H1.out _).mono ?_); rintro e w3 ⟨rfl, rfl⟩) | ((with_reducible refine (H2.out _).mono ?_); rintro e w3 ⟨rfl, rfl⟩)))
        go_ret
        exact ⟨by rw [HP.out]; rfl, HB1.out.trans (HB2.out.mono HB1.out.size)⟩
      | true =>
        go_wp2_with (first
          | (go_at_call 98; ((with_reducible refine (HNM.out _).mono ?_); rintro e w2 ⟨rfl, hb⟩); have HB2 := Lib.hid hb; have c1 := (HBX.out.next hb).cell 1 _; have c2 := (HBX.out.next hb).cell 2 _; have c3 := (HBX.out.next hb).cell 3 _; have hl2 := (HBX.out.next hb).lt; clear hb)
          | (go_at_call 99; first | ((with_reducible refine (H1.out _).mono ?_); rintro e w3 ⟨rfl, rfl⟩) | ((with_reducible refine (H2.out _).mono ?_); rintro e w3 ⟨rfl, rfl⟩) | ((with_reducible refine (H3.out _).mono ?_); rintro e w3 ⟨rfl, rfl⟩)))
        go_ret
        exact ⟨by rw [HP.out]; rfl, HB1.out.trans (HB2.out.mono HB1.out.size)⟩

/-! ### waits -/
theorem waits_bad {l : List Dep} {k : Nat} {d : Dep} (hd : l[k]? = some d) (h : ¬ (1 ≤ d.1 ∧ d.1 ≤ 1073741824)) : waitsP l = false := by
  unfold waitsP
  exact decide_eq_false fun h2 => h (h2.1 d (List.mem_of_getElem? hd))
set_option maxRecDepth 100000 in
set_option maxHeartbeats 8000000 in
theorem waits_any (l : List Dep) (v : Value) (w : World) (h : RdC w v l.length (flA l)) (hn : l.length ≤ 1000) : Calls Tryz.prog 59 #[v] w (Told (.bool (waitsP l)) w) := by
  obtain ⟨p, c, rfl⟩ := h.form
  have HC := Lib.hid h
  obtain ⟨n, hnl⟩ : ∃ n, l.length = n := ⟨_, rfl⟩
  rw [hnl] at hn HC ⊢
  have HN := Lib.hid hnl
  clear h hnl
  go_enter Tryz.func59, Tryz.ntmps59
  go_wp2
  go_loopw [3, 8] (fun s3 s8 W => ∃ (k : Nat) (v3 : Value), s3 = v3 ∧ s8 = .int .i64 k ∧ k ≤ n ∧ Aside (∀ d ∈ l.take k, 1 ≤ d.1 ∧ d.1 ≤ 1073741824) ∧ Aside (W.ownsRow w.heap.size 2 1 v3 k (flI ((l.take k).map (·.1)))) ∧ Aside (Below w.heap.size w W)) (fun _ s8 _ => n - (intOf s8).toNat)
  case atStart => exact ⟨0, _, rfl, rfl, Nat.zero_le _, by show ∀ d ∈ l.take 0, _; simp, World.ownsRow_nil _ _ _ _, Below.refl _ _⟩
  case round =>
    obtain ⟨k, v3, h3, rfl, hk, hok, hown, hbl⟩ := hrel
    replace h3 := h3.symm
    subst h3
    have HO := Lib.hid (show ∀ d ∈ l.take k, 1 ≤ d.1 ∧ d.1 ≤ 1073741824 from hok)
    have HW := Lib.hid (show wr.ownsRow w.heap.size 2 1 v3 k (flI ((l.take k).map (·.1))) from hown)
    have HB := Lib.hid (show Below w.heap.size w wr from hbl)
    clear hok hown hbl
    by_cases hkn : k < n
    · obtain ⟨b, off, rfl, hb, hc⟩ := (HC.out.next HB.out).at_ (size := 2) rfl (by omega)
      obtain ⟨d, hd⟩ : ∃ d, l[k]? = some d := ⟨_, List.getElem?_eq_getElem (by rw [HN.out]; exact hkn)⟩
      have c0 : wr.cell? ⟨b, off + k * 2, none⟩ = some (.int .i64 d.1) := hc.elt (f := cA) (k := 2) (fun _ => rfl) (j := 0) hd (by decide) rfl
      have c1 : wr.cell? ⟨b, off + k * 2 + 1, none⟩ = some (.bool d.2) := by
        have := hc.elt (f := cA) (k := 2) (fun _ => rfl) (j := 1) hd (by decide) rfl
        rwa [← Nat.add_assoc] at this
      have HD := Lib.hid hd
      clear hc hd
      obtain ⟨dn, db⟩ := d
      dsimp only at c0 c1
      obtain ⟨t, ht⟩ : ∃ t, (decide (1 ≤ dn) && decide (dn ≤ 1073741824)) = t := ⟨_, rfl⟩
      have H1 := Lib.hid (fun W => within_at ht W)
      have HT := Lib.hid (show (1 ≤ dn ∧ dn ≤ 1073741824) ↔ t = true by rw [← ht]; simp)
      clear ht
      go_upto_region 5 with fail
      have hbd : BoxA (wr.alloc (.cells #[.int .i64 dn, .bool db] 88)) wr.heap.size 88 #[.int .i64 dn, .bool db] := BoxA.new _ _ _
      have hb4 : Below wr.heap.size wr (wr.alloc (.cells #[.int .i64 dn, .bool db] 88)) := (Below.refl _ _).alloc (Nat.le_refl _) _
      generalize wr.alloc (.cells #[.int .i64 dn, .bool db] 88) = w4 at *
      have y0 := hbd.cell 0 _
      have y1 := hbd.cell 1 _
      have ylt := hbd.lt
      have HW4 := Lib.hid (show w4.ownsRow w.heap.size 2 1 v3 k (flI ((l.take k).map (·.1))) from World.ownsRow.kept HW.out (grown_new hb4) (by cases hv : v3.ownBlock <;> simp))
      have HB4 := Lib.hid (HB.out.trans (hb4.mono HB.out.size))
      generalize wr.heap.size = bd at *
      clear hbd hb4 c0 c1 hb
      cases t with
      | false =>
        have HF := Lib.hid (show waitsP l = false from waits_bad HD.out (fun h => by have := HT.out.1 h; cases this))
        go_wp2_with (go_at_call 99; ((with_reducible refine (H1.out _).mono ?_); rintro e w3 ⟨rfl, rfl⟩))
        go_ret
        exact ⟨by rw [HF.out]; rfl, HB4.out⟩
      | true =>
        have HK := Lib.hid (show ∀ d ∈ l.take (k + 1), 1 ≤ d.1 ∧ d.1 ≤ 1073741824 from fun d hd => by
          rw [take_snoc HD.out] at hd
          rcases List.mem_append.1 hd with hd | hd
          · exact HO.out d hd
          · simp at hd; subst hd; exact HT.out.2 rfl)
        have HK2 := Lib.hid (show flI ((l.take k).map (·.1)) ++ cI dn = flI ((l.take (k + 1)).map (·.1)) by rw [take_snoc HD.out, List.map_append, flI_app]; rfl)
        have hb5 : Below w4.heap.size w4 (w4.alloc (.cells #[.int .i64 dn] 2)) := (Below.refl _ _).alloc (Nat.le_refl _) _
        have HW5 := Lib.hid (show (w4.alloc (.cells #[.int .i64 dn] 2)).ownsRow w.heap.size 2 1 v3 k (flI ((l.take k).map (·.1))) from World.ownsRow.kept HW4.out (grown_new hb5) (by cases hv : v3.ownBlock <;> simp))
        have HC5 := Lib.hid (show ∀ j u, (cI dn)[j]? = some u → (w4.alloc (.cells #[.int .i64 dn] 2)).cell? ((⟨w4.heap.size, 0, none⟩ : Addr).add j) = some u from fun j u hu => by
          rw [Addr.add_lit, World.cell?_alloc_mark]
          simpa [cI] using hu)
        have HZ5 := Lib.hid (Nat.le_trans HB4.out.size hb5.size)
        have HB5 := Lib.hid (HB4.out.trans (hb5.mono HB4.out.size))
        clear hb5
        go_wp2_with (first
          | (go_at_call 99; ((with_reducible refine (H1.out _).mono ?_); rintro e w3 ⟨rfl, rfl⟩))
          | (at_builtin; refine wpl_app eltI rfl _ _ rfl (base := w.heap.size) (n := k) (cs := flI ((l.take k).map (·.1))) (v := v3) rfl HW5.out ⟨w4.heap.size, 0, none⟩ (cI dn) rfl HC5.out rfl (fun u hu => by simp [cI] at hu; subst hu; rfl) (by omega) (by decide) HZ5.out ?_; intro gb cb w6 h1 h2; have HW6 := Lib.hid h1; have HB6 := Lib.hid (HB5.out.trans h2); clear h1 h2))
        go_roundw
        case rel => exact ⟨k + 1, _, rfl, by go_num, by omega, HK.out, by rw [← HK2.out]; exact HW6.out, HB6.out⟩
        case measure => simp [intOf]; omega
    · obtain rfl : k = n := by omega
      have ht : l.take k = l := List.take_of_length_le (by rw [HN.out]; exact Nat.le_refl _)
      rw [ht] at HO HW
      have hlm : (l.map (·.1)).length = k := by rw [List.length_map, HN.out]
      have HDI := Lib.hid (distinct_i (l.map (·.1)) v3 wr (by rw [hlm]; exact ApC.rdc (.inr HW.out)) (by rw [hlm]; exact cp_own HW.out))
      have HR := Lib.hid (show waitsP l = decide (l.map (·.1)).Nodup by
        unfold waitsP
        rw [Bool.eq_iff_iff]
        simp only [decide_eq_true_eq]
        exact ⟨fun h => h.2, fun h => ⟨HO.out, h⟩⟩)
      obtain ⟨t, ht2⟩ : ∃ t, decide (l.map (·.1)).Nodup = t := ⟨_, rfl⟩
      rw [ht2] at HDI HR
      clear ht hlm ht2
      go_wp2_with (go_at_call 100; ((with_reducible refine HDI.out.mono ?_); rintro e w3 ⟨rfl, rfl⟩))
      go_ret
      exact ⟨by rw [HR.out]; rfl, HB.out⟩
end Go.Proofs.YtekcjfdllclphaaGreatDoor.gn
end
