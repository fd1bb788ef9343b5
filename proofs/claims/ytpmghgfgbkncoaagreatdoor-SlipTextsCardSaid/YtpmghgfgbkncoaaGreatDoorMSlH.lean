/- Appends in a plain region; the contracts of short, sound, waits. -/
import Derived.Test.YtpmghgfgbkncoaaGreatDoorMSlA
import Derived.Test.YtpmghgfgbkncoaaGreatDoorMSlB
import Derived.BigFrame
section
set_option linter.unusedVariables false
set_option linter.unusedSimpArgs false
namespace Go.Proofs.YtpmghgfgbkncoaaGreatDoor.gn
open Go.RowKit
open Go.Proofs.YtpmghgfgbkncoaaGreatDoor.un
open Go.Proofs.YtpmghgfgbkncoaaGreatDoor.di
open Go.Proofs.YtpmghgfgbkncoaaGreatDoor.sp (Slip shortP soundP waitsP storedP apartP dirsP dropD useD capD innD outD chkS chkS_P)

/-! ### appends -/
theorem own_low {w w' : World} {base : Nat} {e : TypeId} {size : Nat} {v : Value} {n : Nat} {cs : List Value} (h : w.ownsRow base e size v n cs) (hg : w.grownBy w' v.ownBlock) (hb : base ≤ w.heap.size) : Below base w w' :=
  (Below.refl _ _).grown hg hb fun k hk => (World.ownsRow.lt h k hk).1
theorem wpl_app {t e : TypeId} {z : Value} {size bytes : Nat} (E : EltI t e z size bytes) {ops : Array Oper} {rest : List Oper} {o : Oper} {a : Act} {w : World} {Q : Exit → Act → World → Prop} (hgd : o.guard = none) (s x : Operand)
    (ho : o.op = .call { callee := .builtin .append, args := #[s, x], argTypes := #[t, t] })
    {base n : Nat} {v : Value} {cs : List Value} (hs : a.eval s = v) (hown : w.ownsRow base e size v n cs) (ad : Addr) (ds : List Value) (hx : a.eval x = .slice (some ad) 1 1) (hc : ∀ j u, ds[j]? = some u → w.cell? (ad.add j) = some u) (hd : ds.length = size)
    (h1 : ∀ u ∈ ds, u.oneCell' = true) (hlen : n ≤ 1000000) (hby : bytes ≤ 100) (hb : base ≤ w.heap.size)
    (hK : ∀ g c w', w'.ownsRow base e size (.slice (some ⟨g, 0, none⟩) (n + 1) c) (n + 1) (cs ++ ds) → Below base w w' → wpList Tryz.prog ops Q rest (a.put o.dst (.slice (some ⟨g, 0, none⟩) (n + 1) c)) w') :
    wpList Tryz.prog ops Q (o :: rest) a w := by
  refine wpList_plain hgd fun K hK' => ?_
  obtain ⟨v', w', hrun, r1, r2, r4⟩ := run_own E o.type hown hc (by rw [hd, Nat.one_mul]) h1 (show n + 1 ≤ maxLen by unfold maxLen; omega) (by have : (n + 1) * bytes ≤ 1000001 * 100 := Nat.mul_le_mul (by omega) hby; omega) hb (show 0 < 1 by decide) (c := 1)
  have hform : ∃ g c, v' = .slice (some ⟨g, 0, none⟩) (n + 1) c := by
    rcases r1.2 with ⟨_, h0⟩ | ⟨g, cap, cur, e, _⟩
    · omega
    · exact ⟨_, _, e⟩
  obtain ⟨g, c, rfl⟩ := hform
  unfold Oper.wp
  simp [execOp, ho, resolve, invoke, builtin, hs, hx, hrun, Result.andThen]
  exact hK' _ _ (hK g c w' r1 (own_low hown r2 hb))
/-- A row that is read, behind a row of the call's own. -/
theorem wpl_ow {t e : TypeId} {z : Value} {size bytes : Nat} (E : EltI t e z size bytes) {ops : Array Oper} {rest : List Oper} {o : Oper} {a : Act} {w : World} {Q : Exit → Act → World → Prop} (hgd : o.guard = none) (s x : Operand)
    (ho : o.op = .call { callee := .builtin .append, args := #[s, x], argTypes := #[t, t] })
    {base n m : Nat} {v u : Value} {cs ds : List Value} (hs : a.eval s = v) (hown : w.ownsRow base e size v n cs) (hx : a.eval x = u) (hr : RdC w u m ds) (hd : ds.length = m * size)
    (h1 : ∀ u ∈ ds, u.oneCell' = true) (hlen : n + m ≤ 1000000) (hby : bytes ≤ 100) (hb : base ≤ w.heap.size)
    (hK : ∀ p c w', w'.ownsRow base e size (.slice p (n + m) c) (n + m) (cs ++ ds) → Below base w w' → wpList Tryz.prog ops Q rest (a.put o.dst (.slice p (n + m) c)) w') :
    wpList Tryz.prog ops Q (o :: rest) a w := by
  refine wpList_plain hgd fun K hK' => ?_
  obtain ⟨v', w', hrun, r1, r2⟩ := run_ow E o.type hown hr hd h1 (show n + m ≤ maxLen by unfold maxLen; omega) (by have : (n + m) * bytes ≤ 1000000 * 100 := Nat.mul_le_mul hlen hby; omega) hb
  have hform : ∃ p c, v' = .slice p (n + m) c := by
    rcases r1.2 with ⟨rfl, h0⟩ | ⟨g, cap, cur, e, _⟩
    · rw [h0]; exact ⟨_, _, rfl⟩
    · exact ⟨_, _, e⟩
  obtain ⟨p, c, rfl⟩ := hform
  unfold Oper.wp
  simp [execOp, ho, resolve, invoke, builtin, hs, hx, hrun, Result.andThen]
  exact hK' _ _ (hK p c w' r1 r2)

/-! ### slips that came in -/
structure SW (x : Slip) : Prop where
  user : x.user.length ≤ 9223372036854775807
  pool : x.pool.length ≤ 9223372036854775807
  nodes : -9223372036854775808 ≤ x.nodes ∧ x.nodes ≤ 9223372036854775807
  wall : -9223372036854775808 ≤ x.wall ∧ x.wall ≤ 9223372036854775807
  qos : -9223372036854775808 ≤ x.qos ∧ x.qos ≤ 9223372036854775807
  cap : -9223372036854775808 ≤ x.cap ∧ x.cap ≤ 9223372036854775807
  inn : -9223372036854775808 ≤ x.inn ∧ x.inn ≤ 9223372036854775807
  out : -9223372036854775808 ≤ x.out ∧ x.out ≤ 9223372036854775807
  after : ∀ d ∈ x.after, -9223372036854775808 ≤ d.1 ∧ d.1 ≤ 9223372036854775807
  make : ∀ d ∈ x.make, DW d
  drop : ∀ n ∈ x.drop, n.length ≤ 9223372036854775807
  use : ∀ n ∈ x.use, n.length ≤ 9223372036854775807

theorem le_true {n m : Nat} (h : n ≤ m) : decide ((n : Int) ≤ (m : Int)) = true := decide_eq_true (by omega)
theorem le_false {n m : Nat} (h : ¬ n ≤ m) : decide ((n : Int) ≤ (m : Int)) = false := decide_eq_false (by omega)

set_option maxRecDepth 100000 in
set_option maxHeartbeats 4000000 in
theorem short_any (x : Slip) (g : Gh) (w : World) (h : SR w x g) : Calls Tryz.prog 29 #[sV x g] w (Told (.bool (shortP x)) w) := by
  obtain ⟨va, vm, vd, vu⟩ := g
  obtain ⟨pa, ca, ea, la1, la2⟩ := h.ca
  obtain ⟨pm, cm, em, lm1, lm2⟩ := h.cm
  obtain ⟨pd, cd, ed, ld1, ld2⟩ := h.cd
  obtain ⟨pu, cu, eu, lu1, lu2⟩ := h.cu
  dsimp only at ea em ed eu
  subst ea em ed eu
  have HP := Lib.hid (show shortP x = (decide (x.after.length ≤ 8) && (decide (x.make.length ≤ 4) && (decide (x.drop.length ≤ 4) && decide (x.use.length ≤ 4)))) by
    unfold shortP
    rw [Bool.eq_iff_iff]
    simp)
  clear h la1 la2 lm1 lm2 ld1 ld2 lu1 lu2
  unfold sV scs
  dsimp only
  generalize x.after.length = na at *
  generalize x.make.length = nm at *
  generalize x.drop.length = nd at *
  generalize x.use.length = nu at *
  generalize str x.user = su at *
  generalize str x.pool = sp at *
  by_cases h1 : na ≤ 8
  · have q1 : decide ((na : Int) ≤ 8) = true := decide_eq_true (by omega)
    by_cases h2 : nm ≤ 4
    · have q2 : decide ((nm : Int) ≤ 4) = true := decide_eq_true (by omega)
      by_cases h3 : nd ≤ 4
      · have q3 : decide ((nd : Int) ≤ 4) = true := decide_eq_true (by omega)
        have HR := Lib.hid (show shortP x = decide (nu ≤ 4) by rw [HP.out, decide_eq_true h1, decide_eq_true h2, decide_eq_true h3]; rfl)
        clear h1 h2 h3
        go_enter Tryz.func29, Tryz.ntmps29
        go_wp2
        go_ret
        exact ⟨by rw [HR.out]; show Ending.returned (.bool (decide ((nu : Int) ≤ 4))) = _; congr 2; rw [Bool.eq_iff_iff]; simp; omega, (Below.refl _ _).alloc (Nat.le_refl _) _⟩
      · have q3 : decide ((nd : Int) ≤ 4) = false := decide_eq_false (by omega)
        have HR := Lib.hid (show shortP x = false by rw [HP.out, decide_eq_false h3]; simp)
        clear h1 h2 h3
        go_enter Tryz.func29, Tryz.ntmps29
        go_wp2
        go_ret
        exact ⟨by rw [HR.out]; rfl, (Below.refl _ _).alloc (Nat.le_refl _) _⟩
    · have q2 : decide ((nm : Int) ≤ 4) = false := decide_eq_false (by omega)
      have HR := Lib.hid (show shortP x = false by rw [HP.out, decide_eq_false h2]; simp)
      clear h1 h2
      go_enter Tryz.func29, Tryz.ntmps29
      go_wp2
      go_ret
      exact ⟨by rw [HR.out]; rfl, (Below.refl _ _).alloc (Nat.le_refl _) _⟩
  · have q1 : decide ((na : Int) ≤ 8) = false := decide_eq_false (by omega)
    have HR := Lib.hid (show shortP x = false by rw [HP.out, decide_eq_false h1]; simp)
    clear h1
    go_enter Tryz.func29, Tryz.ntmps29
    go_wp2
    go_ret
    exact ⟨by rw [HR.out]; rfl, (Below.refl _ _).alloc (Nat.le_refl _) _⟩
end Go.Proofs.YtpmghgfgbkncoaaGreatDoor.gn
end
section
set_option linter.unusedVariables false
set_option linter.unusedSimpArgs false
namespace Go.Proofs.YtpmghgfgbkncoaaGreatDoor.gn
open Go.RowKit
open Go.Proofs.YtpmghgfgbkncoaaGreatDoor.un
open Go.Proofs.YtpmghgfgbkncoaaGreatDoor.di
open Go.Proofs.YtpmghgfgbkncoaaGreatDoor.sp (Slip shortP soundP waitsP storedP apartP dirsP dropD useD capD innD outD chkS chkS_P)

theorem sound_eq (x : Slip) : soundP x = (isName x.user && ((decide (1 ≤ x.nodes) && decide (x.nodes ≤ 64)) && ((decide (1 ≤ x.wall) && decide (x.wall ≤ 1048576)) && (decide (0 ≤ x.qos) && decide (x.qos ≤ 9))))) := by
  unfold soundP
  rw [Bool.eq_iff_iff]
  simp
set_option maxRecDepth 100000 in
set_option maxHeartbeats 4000000 in
theorem sound_any (x : Slip) (g : Gh) (w : World) (h : SW x) : Calls Tryz.prog 30 #[sV x g] w (Told (.bool (soundP x)) w) := by
  obtain ⟨va, vm, vd, vu⟩ := g
  have HP := Lib.hid (sound_eq x)
  have HNM := Lib.hid (fun W => name_all x.user h.user W)
  clear h
  unfold sV scs
  dsimp only
  obtain ⟨us, nodes, wall, qos, after, cap, inn, out, pool, mk, dr, use⟩ := x
  dsimp only at HP HNM ⊢
  obtain ⟨nm, hnm⟩ : ∃ b, isName us = b := ⟨_, rfl⟩
  rw [hnm] at HP HNM
  clear hnm
  have HW1 := Lib.hid (fun (t : Bool) (ht : (decide (1 ≤ nodes) && decide (nodes ≤ 64)) = t) W => within_at ht W)
  have HW2 := Lib.hid (fun (t : Bool) (ht : (decide (1 ≤ wall) && decide (wall ≤ 1048576)) = t) W => within_at ht W)
  have HW3 := Lib.hid (fun (t : Bool) (ht : (decide (0 ≤ qos) && decide (qos ≤ 9)) = t) W => within_at ht W)
  obtain ⟨b1, hb1⟩ : ∃ b, (decide (1 ≤ nodes) && decide (nodes ≤ 64)) = b := ⟨_, rfl⟩
  obtain ⟨b2, hb2⟩ : ∃ b, (decide (1 ≤ wall) && decide (wall ≤ 1048576)) = b := ⟨_, rfl⟩
  obtain ⟨b3, hb3⟩ : ∃ b, (decide (0 ≤ qos) && decide (qos ≤ 9)) = b := ⟨_, rfl⟩
  rw [hb1, hb2, hb3] at HP
  have H1 := Lib.hid (HW1.out b1 hb1)
  have H2 := Lib.hid (HW2.out b2 hb2)
  have H3 := Lib.hid (HW3.out b3 hb3)
  clear hb1 hb2 hb3 HW1 HW2 HW3
  generalize str pool = spl at *
  obtain ⟨w1, hw1⟩ : ∃ w1, w.alloc (.cells #[.string (str us), .int .i64 nodes, .int .i64 wall, .int .i64 qos, va, .int .i64 cap, .int .i64 inn, .int .i64 out, .string spl, vm, vd, vu] 27) = w1 := ⟨_, rfl⟩
  have hbx : BoxA w1 w.heap.size 27 #[.string (str us), .int .i64 nodes, .int .i64 wall, .int .i64 qos, va, .int .i64 cap, .int .i64 inn, .int .i64 out, .string spl, vm, vd, vu] := by rw [← hw1]; exact BoxA.new _ _ _
  have hB1 : Below w.heap.size w w1 := by rw [← hw1]; exact (Below.refl _ _).alloc (Nat.le_refl _) _
  have HBX := Lib.hid hbx
  have HB1 := Lib.hid hB1
  have H0 := Lib.hid hw1
  have c0 := hbx.cell 0 _
  have hlt := hbx.lt
  clear hbx hB1 hw1
  go_enter Tryz.func30, Tryz.ntmps30
  go_upto_region 1 with fail
  rw [H0.out]
  cases nm with
  | false =>
    go_wp2_with (go_at_call 59; ((with_reducible refine (HNM.out _).mono ?_); rintro e w2 ⟨rfl, hb⟩); have HB2 := Lib.hid hb; clear hb)
    go_ret
    exact ⟨by rw [HP.out]; rfl, HB1.out.trans (HB2.out.mono HB1.out.size)⟩
  | true =>
    cases b1 with
    | false =>
      go_wp2_with (first
        | (go_at_call 59; ((with_reducible refine (HNM.out _).mono ?_); rintro e w2 ⟨rfl, hb⟩); have HB2 := Lib.hid hb; have c1 := (HBX.out.next hb).cell 1 _; have hl2 := (HBX.out.next hb).lt; clear hb)
        | (go_at_call 60; first | ((with_reducible refine (H1.out _).mono ?_); rintro e w3 ⟨rfl, rfl⟩)))
      go_ret
      exact ⟨by rw [HP.out]; rfl, HB1.out.trans (HB2.out.mono HB1.out.size)⟩
    | true =>
      cases b2 with
      | false =>
        go_wp2_with (first
          | (go_at_call 59; ((with_reducible refine (HNM.out _).mono ?_); rintro e w2 ⟨rfl, hb⟩); have HB2 := Lib.hid hb; have c1 := (HBX.out.next hb).cell 1 _; have c2 := (HBX.out.next hb).cell 2 _; have hl2 := (HBX.out.next hb).lt; clear hb)
          | (go_at_call 60; first | ((with_reducible refine (H1.out _).mono ?_); rintro e w3 ⟨rfl, rfl⟩) | ((with_reducible refine (H2.out _).mono ?_); rintro e w3 ⟨rfl, rfl⟩)))
        go_ret
        exact ⟨by rw [HP.out]; rfl, HB1.out.trans (HB2.out.mono HB1.out.size)⟩
      | true =>
        go_wp2_with (first
          | (go_at_call 59; ((with_reducible refine (HNM.out _).mono ?_); rintro e w2 ⟨rfl, hb⟩); have HB2 := Lib.hid hb; have c1 := (HBX.out.next hb).cell 1 _; have c2 := (HBX.out.next hb).cell 2 _; have c3 := (HBX.out.next hb).cell 3 _; have hl2 := (HBX.out.next hb).lt; clear hb)
          | (go_at_call 60; first | ((with_reducible refine (H1.out _).mono ?_); rintro e w3 ⟨rfl, rfl⟩) | ((with_reducible refine (H2.out _).mono ?_); rintro e w3 ⟨rfl, rfl⟩) | ((with_reducible refine (H3.out _).mono ?_); rintro e w3 ⟨rfl, rfl⟩)))
        go_ret
        exact ⟨by rw [HP.out]; rfl, HB1.out.trans (HB2.out.mono HB1.out.size)⟩

/-! ### waits -/
theorem waits_bad {l : List Dep} {k : Nat} {d : Dep} (hd : l[k]? = some d) (h : ¬ (1 ≤ d.1 ∧ d.1 ≤ 1073741824)) : waitsP l = false := by
  unfold waitsP
  exact decide_eq_false fun h2 => h (h2.1 d (List.mem_of_getElem? hd))
set_option maxRecDepth 100000 in
set_option maxHeartbeats 8000000 in
theorem waits_any (l : List Dep) (v : Value) (w : World) (h : RdC w v l.length (flA l)) (hn : l.length ≤ 1000) : Calls Tryz.prog 31 #[v] w (Told (.bool (waitsP l)) w) := by
  obtain ⟨p, c, rfl⟩ := h.form
  have HC := Lib.hid h
  obtain ⟨n, hnl⟩ : ∃ n, l.length = n := ⟨_, rfl⟩
  rw [hnl] at hn HC ⊢
  have HN := Lib.hid hnl
  clear h hnl
  go_enter Tryz.func31, Tryz.ntmps31
  go_wp2
  go_loopw [3, 8] (fun s3 s8 W => ∃ (k : Nat) (v3 : Value), s3 = v3 ∧ s8 = .int .i64 k ∧ k ≤ n ∧ Aside (∀ d ∈ l.take k, 1 ≤ d.1 ∧ d.1 ≤ 1073741824) ∧ Aside (W.ownsRow w.heap.size 2 1 v3 k (flI ((l.take k).map (·.1)))) ∧ Aside (Below w.heap.size w W)) (fun _ s8 _ => n - (intOf s8).toNat)
  case atStart => exact ⟨0, _, rfl, rfl, Nat.zero_le _, by show ∀ d ∈ l.take 0, _; simp, World.ownsRow_nil _ _ _ _, Below.refl _ _⟩
  case round =>
    obtain ⟨k, v3, h3, rfl, hk, hok, hown, hbl⟩ := hrel
    replace h3 := h3.symm
    subst h3
    have HO := Lib.hid (show ∀ d ∈ l.take k, 1 ≤ d.1 ∧ d.1 ≤ 1073741824 from hok)
    have HW := Lib.hid (show wr.ownsRow w.heap.size 2 1 v3 k (flI ((l.take k).map (·.1))) from hown)
    have HB := Lib.hid (show Below w.heap.size w wr from hbl)
    clear hok hown hbl
    by_cases hkn : k < n
    · obtain ⟨b, off, rfl, hb, hc⟩ := (HC.out.next HB.out).at_ (size := 2) rfl (by omega)
      obtain ⟨d, hd⟩ : ∃ d, l[k]? = some d := ⟨_, List.getElem?_eq_getElem (by rw [HN.out]; exact hkn)⟩
      have c0 : wr.cell? ⟨b, off + k * 2, none⟩ = some (.int .i64 d.1) := hc.elt (f := cA) (k := 2) (fun _ => rfl) (j := 0) hd (by decide) rfl
      have c1 : wr.cell? ⟨b, off + k * 2 + 1, none⟩ = some (.bool d.2) := by
        have := hc.elt (f := cA) (k := 2) (fun _ => rfl) (j := 1) hd (by decide) rfl
        rwa [← Nat.add_assoc] at this
      have HD := Lib.hid hd
      clear hc hd
      obtain ⟨dn, db⟩ := d
      dsimp only at c0 c1
      obtain ⟨t, ht⟩ : ∃ t, (decide (1 ≤ dn) && decide (dn ≤ 1073741824)) = t := ⟨_, rfl⟩
      have H1 := Lib.hid (fun W => within_at ht W)
      have HT := Lib.hid (show (1 ≤ dn ∧ dn ≤ 1073741824) ↔ t = true by rw [← ht]; simp)
      clear ht
      go_upto_region 5 with fail
      have hbd : BoxA (wr.alloc (.cells #[.int .i64 dn, .bool db] 44)) wr.heap.size 44 #[.int .i64 dn, .bool db] := BoxA.new _ _ _
      have hb4 : Below wr.heap.size wr (wr.alloc (.cells #[.int .i64 dn, .bool db] 44)) := (Below.refl _ _).alloc (Nat.le_refl _) _
      generalize wr.alloc (.cells #[.int .i64 dn, .bool db] 44) = w4 at *
      have y0 := hbd.cell 0 _
      have y1 := hbd.cell 1 _
      have ylt := hbd.lt
      have HW4 := Lib.hid (show w4.ownsRow w.heap.size 2 1 v3 k (flI ((l.take k).map (·.1))) from World.ownsRow.kept HW.out (grown_new hb4) (by cases hv : v3.ownBlock <;> simp))
      have HB4 := Lib.hid (HB.out.trans (hb4.mono HB.out.size))
      generalize wr.heap.size = bd at *
      clear hbd hb4 c0 c1 hb
      cases t with
      | false =>
        have HF := Lib.hid (show waitsP l = false from waits_bad HD.out (fun h => by have := HT.out.1 h; cases this))
        go_wp2_with (go_at_call 60; ((with_reducible refine (H1.out _).mono ?_); rintro e w3 ⟨rfl, rfl⟩))
        go_ret
        exact ⟨by rw [HF.out]; rfl, HB4.out⟩
      | true =>
        have HK := Lib.hid (show ∀ d ∈ l.take (k + 1), 1 ≤ d.1 ∧ d.1 ≤ 1073741824 from fun d hd => by
          rw [take_snoc HD.out] at hd
          rcases List.mem_append.1 hd with hd | hd
          · exact HO.out d hd
          · simp at hd; subst hd; exact HT.out.2 rfl)
        have HK2 := Lib.hid (show flI ((l.take k).map (·.1)) ++ cI dn = flI ((l.take (k + 1)).map (·.1)) by rw [take_snoc HD.out, List.map_append, flI_app]; rfl)
        have hb5 : Below w4.heap.size w4 (w4.alloc (.cells #[.int .i64 dn] 2)) := (Below.refl _ _).alloc (Nat.le_refl _) _
        have HW5 := Lib.hid (show (w4.alloc (.cells #[.int .i64 dn] 2)).ownsRow w.heap.size 2 1 v3 k (flI ((l.take k).map (·.1))) from World.ownsRow.kept HW4.out (grown_new hb5) (by cases hv : v3.ownBlock <;> simp))
        have HC5 := Lib.hid (show ∀ j u, (cI dn)[j]? = some u → (w4.alloc (.cells #[.int .i64 dn] 2)).cell? ((⟨w4.heap.size, 0, none⟩ : Addr).add j) = some u from fun j u hu => by
          rw [Addr.add_lit, World.cell?_alloc_mark]
          simpa [cI] using hu)
        have HZ5 := Lib.hid (Nat.le_trans HB4.out.size hb5.size)
        have HB5 := Lib.hid (HB4.out.trans (hb5.mono HB4.out.size))
        clear hb5
        go_wp2_with (first
          | (go_at_call 60; ((with_reducible refine (H1.out _).mono ?_); rintro e w3 ⟨rfl, rfl⟩))
          | (at_builtin; refine wpl_app eltI rfl _ _ rfl (base := w.heap.size) (n := k) (cs := flI ((l.take k).map (·.1))) (v := v3) rfl HW5.out ⟨w4.heap.size, 0, none⟩ (cI dn) rfl HC5.out rfl (fun u hu => by simp [cI] at hu; subst hu; rfl) (by omega) (by decide) HZ5.out ?_; intro gb cb w6 h1 h2; have HW6 := Lib.hid h1; have HB6 := Lib.hid (HB5.out.trans h2); clear h1 h2))
        go_roundw
        case rel => exact ⟨k + 1, _, rfl, by go_num, by omega, HK.out, by rw [← HK2.out]; exact HW6.out, HB6.out⟩
        case measure => simp [intOf]; omega
    · obtain rfl : k = n := by omega
      have ht : l.take k = l := List.take_of_length_le (by rw [HN.out]; exact Nat.le_refl _)
      rw [ht] at HO HW
      have hlm : (l.map (·.1)).length = k := by rw [List.length_map, HN.out]
      have HDI := Lib.hid (distinct_i (l.map (·.1)) v3 wr (by rw [hlm]; exact ApC.rdc (.inr HW.out)) (by rw [hlm]; exact cp_own HW.out))
      have HR := Lib.hid (show waitsP l = decide (l.map (·.1)).Nodup by
        unfold waitsP
        rw [Bool.eq_iff_iff]
        simp only [decide_eq_true_eq]
        exact ⟨fun h => h.2, fun h => ⟨HO.out, h⟩⟩)
      obtain ⟨t, ht2⟩ : ∃ t, decide (l.map (·.1)).Nodup = t := ⟨_, rfl⟩
      rw [ht2] at HDI HR
      clear ht hlm ht2
      go_wp2_with (go_at_call 61; ((with_reducible refine HDI.out.mono ?_); rintro e w3 ⟨rfl, rfl⟩))
      go_ret
      exact ⟨by rw [HR.out]; rfl, HB.out⟩
end Go.Proofs.YtpmghgfgbkncoaaGreatDoor.gn
end
section
set_option linter.unusedVariables false
set_option linter.unusedSimpArgs false
namespace Go.Proofs.YtpmghgfgbkncoaaGreatDoor.gn
open Go.RowKit
open Go.Proofs.YtpmghgfgbkncoaaGreatDoor.un
open Go.Proofs.YtpmghgfgbkncoaaGreatDoor.di
open Go.Proofs.YtpmghgfgbkncoaaGreatDoor.sp (Slip shortP soundP waitsP storedP apartP dirsP dropD useD capD innD outD chkS chkS_P)

/-- How directives stands: the row so far. -/
structure DSt (w wb : World) (l : List Dir) (v : Value) (W : World) : Prop where
  own : W.ownsRow (w.heap.size + 1) 51 5 v l.length (flM l)
  low : Below (w.heap.size + 1) wb W
  hz : w.heap.size + 1 ≤ wb.heap.size
theorem DSt.next {w wb W W' : World} {l : List Dir} {v : Value} (h : DSt w wb l v W) (hb : Below W.heap.size W W') : DSt w wb l v W' :=
  ⟨World.ownsRow.kept h.own (grown_new hb) (by cases hv : v.ownBlock <;> simp), h.low.trans (hb.mono (Nat.le_trans h.hz h.low.size)), h.hz⟩
theorem flM_one' (l : Dir) : ∀ u ∈ cM l, u.oneCell' = true := fun u hu => by
  simp only [cM, List.mem_cons, List.not_mem_nil, or_false] at hu
  rcases hu with rfl | rfl | rfl | rfl | rfl <;> rfl
theorem row_cells' (w : World) (cs : List Value) (t : TypeId) : ∀ j u, cs[j]? = some u → (w.alloc (.cells cs.toArray t)).cell? ((⟨w.heap.size, 0, none⟩ : Addr).add j) = some u := fun j u hu => by
  rw [Addr.add_lit, World.cell?_alloc_mark]
  simpa using hu
/-- A directive more. -/
theorem wpl_dir {ops : Array Oper} {rest : List Oper} {o : Oper} {a : Act} {w wb W : World} {Q : Exit → Act → World → Prop} (hgd : o.guard = none) (s x : Operand)
    (ho : o.op = .call { callee := .builtin .append, args := #[s, x], argTypes := #[24, 24] }) {l : List Dir} {v : Value} (h : DSt w wb l v W) (hl : l.length ≤ 1000) (d : Dir)
    (hs : a.eval s = v) (hx : a.eval x = .slice (some ⟨W.heap.size, 0, none⟩) 1 1)
    (hK : ∀ g c w' n, n = l.length + 1 → DSt w wb (l ++ [d]) (.slice (some ⟨g, 0, none⟩) n c) w' → wpList Tryz.prog ops Q rest (a.put o.dst (.slice (some ⟨g, 0, none⟩) n c)) w') :
    wpList Tryz.prog ops Q (o :: rest) a (W.alloc (.cells #[.int .u8 (d.kind : Nat), .string (str d.name), .string (str d.pool), .int .i64 d.size, .bool d.opn] 51)) := by
  have hb : Below W.heap.size W (W.alloc (.cells #[.int .u8 (d.kind : Nat), .string (str d.name), .string (str d.pool), .int .i64 d.size, .bool d.opn] 51)) := (Below.refl _ _).alloc (Nat.le_refl _) _
  have h2 := h.next hb
  refine wpl_app eltM hgd s x ho (base := w.heap.size + 1) (n := l.length) hs h2.own ⟨W.heap.size, 0, none⟩ (cM d) hx (row_cells' W (cM d) 51) rfl (flM_one' d) (by omega) (by decide) (Nat.le_trans h2.hz h2.low.size) fun g c w' r1 r2 => hK g c w' _ rfl ⟨?_, h2.low.trans r2, h.hz⟩
  rw [List.length_append, flM_app]
  have e : flM [d] = cM d := by simp [flM]
  rw [e]
  exact r1

theorem dirs_capD (x : Slip) : capD x = if decide (x.cap ≠ 0 ∨ x.pool ≠ []) = true then [⟨1, [], x.pool, x.cap, false⟩] else [] := by
  unfold capD
  by_cases h : x.cap ≠ 0 ∨ x.pool ≠ [] <;> simp [h]
theorem cap_few (x : Slip) : (capD x).length ≤ 1 := by unfold capD; split <;> simp
theorem inn_few (x : Slip) : (innD x).length ≤ 1 := by unfold innD; split <;> simp
theorem out_few (x : Slip) : (outD x).length ≤ 1 := by unfold outD; split <;> simp
theorem low_next {w wb W : World} (h1 : Below w.heap.size w wb) (h2 : Below (w.heap.size + 1) wb W) : Below w.heap.size w W := h1.trans (h2.mono (Nat.le_succ _))

set_option maxRecDepth 100000 in
set_option maxHeartbeats 8000000 in
theorem directives_any (x : Slip) (g : Gh) (w : World) (h : SR w x g) (hm : x.make.length ≤ 100) (hd : x.drop.length ≤ 100) (hu : x.use.length ≤ 100) :
    Calls Tryz.prog 25 #[sV x g] w fun e w' => ∃ v, e = .returned v ∧ w'.ownsRow w.heap.size 51 5 v (dirsP x).length (flM (dirsP x)) ∧ Below w.heap.size w w' := by
  obtain ⟨va, vm, vd, vu⟩ := g
  obtain ⟨pm, cm, em, lm1, lm2⟩ := h.cm
  obtain ⟨pd, cd, ed, ld1, ld2⟩ := h.cd
  obtain ⟨pu, cu, eu, lu1, lu2⟩ := h.cu
  dsimp only at em ed eu
  subst em ed eu
  have HM := Lib.hid h.m
  have HD := Lib.hid h.d
  have HU := Lib.hid h.u
  dsimp only at HM HD HU
  clear h lm1 lm2 ld1 ld2 lu1 lu2
  unfold sV scs
  dsimp only
  obtain ⟨us, nodes, wall, qos, after, cap, inn, out, pool, mk, dr, use⟩ := x
  dsimp only at HM HD HU hm hd hu ⊢
  obtain ⟨nm, hnm⟩ : ∃ n, mk.length = n := ⟨_, rfl⟩
  obtain ⟨nd, hnd⟩ : ∃ n, dr.length = n := ⟨_, rfl⟩
  obtain ⟨nu, hnu⟩ : ∃ n, use.length = n := ⟨_, rfl⟩
  rw [hnm] at hm HM
  rw [hnd] at hd HD
  rw [hnu] at hu HU
  rw [hnm, hnd, hnu]
  have HNM := Lib.hid hnm
  have HND := Lib.hid hnd
  have HNU := Lib.hid hnu
  generalize str us = sus at *
  obtain ⟨xx, hxx⟩ : ∃ xx : Slip, xx = ⟨us, nodes, wall, qos, after, cap, inn, out, pool, mk, dr, use⟩ := ⟨_, rfl⟩
  rw [← hxx]
  have HXX := Lib.hid hxx
  clear hnm hnd hnu hxx
  obtain ⟨wb, hwb⟩ : ∃ wb, w.alloc (.cells #[.string sus, .int .i64 nodes, .int .i64 wall, .int .i64 qos, va, .int .i64 cap, .int .i64 inn, .int .i64 out, .string (str pool), .slice pm nm cm, .slice pd nd cd, .slice pu nu cu] 27) = wb := ⟨_, rfl⟩
  have hbx : BoxA wb w.heap.size 27 #[.string sus, .int .i64 nodes, .int .i64 wall, .int .i64 qos, va, .int .i64 cap, .int .i64 inn, .int .i64 out, .string (str pool), .slice pm nm cm, .slice pd nd cd, .slice pu nu cu] := by rw [← hwb]; exact BoxA.new _ _ _
  have hB1 : Below w.heap.size w wb := by rw [← hwb]; exact (Below.refl _ _).alloc (Nat.le_refl _) _
  have hzb : wb.heap.size = w.heap.size + 1 := by rw [← hwb]; simp
  have HS0 := Lib.hid (show DSt w wb [] (.slice none 0 0) wb from ⟨World.ownsRow_nil _ _ _ _, Below.refl _ _, by omega⟩)
  have HBX := Lib.hid hbx
  have HB1 := Lib.hid hB1
  have HWB := Lib.hid hwb
  have hlt := hbx.lt
  have cellAt := Lib.hid (fun (W : World) (hb : Below (w.heap.size + 1) wb W) => (show BoxA W w.heap.size 27 #[.string sus, .int .i64 nodes, .int .i64 wall, .int .i64 qos, va, .int .i64 cap, .int .i64 inn, .int .i64 out, .string (str pool), .slice pm nm cm, .slice pd nd cd, .slice pu nu cu] from (hb.block _ (Nat.lt_succ_self _)).trans hbx))
  have c5 := hbx.cell 5 _
  have c8 := hbx.cell 8 _
  clear hbx hB1 hwb hzb
  go_enter Tryz.func25, Tryz.ntmps25
  go_upto_region 2 with fail
  rw [HWB.out]
  go_cut [15] (fun s15 wx => s15 = .bool (decide (cap ≠ 0 ∨ pool ≠ [])) ∧ wb = wx)
  case first =>
    by_cases h1 : cap = 0
    · have q1 : (cap != 0) = false := by rw [h1]; rfl
      by_cases h2 : pool = []
      · obtain ⟨q2, q3⟩ := lit_yes h2
        have HR := Lib.hid (show decide (cap ≠ 0 ∨ pool ≠ []) = false by simp [h1, h2])
        clear h1 h2
        go_wp2
        go_meet
        case rel => exact ⟨by rw [HR.out], rfl⟩
      · obtain ⟨q2, q3⟩ := lit_no h2
        have HR := Lib.hid (show decide (cap ≠ 0 ∨ pool ≠ []) = true by simp [h2])
        clear h1 h2
        go_wp2
        go_meet
        case rel => exact ⟨by rw [HR.out], rfl⟩
    · have q1 : (cap != 0) = true := by simp [h1]
      have HR := Lib.hid (show decide (cap ≠ 0 ∨ pool ≠ []) = true by simp [h1])
      clear h1
      go_wp2
      go_meet
      case rel => exact ⟨by rw [HR.out], rfl⟩
  case rest =>
    obtain ⟨rfl, rfl⟩ := hcut
    go_upto_if 15 with fail
    go_cut [3] (fun s3 wx => ∃ v3, s3 = v3 ∧ Aside (DSt w wb (capD xx) v3 wx))
    case first =>
      by_cases h1 : cap ≠ 0 ∨ pool ≠ []
      · have HR := Lib.hid (show capD xx = [⟨1, [], pool, cap, false⟩] by rw [HXX.out]; unfold capD; dsimp only; rw [if_pos h1])
        rw [decide_eq_true h1]
        clear h1
        go_wp2_with (at_builtin; refine wpl_dir rfl _ _ rfl HS0.out (Nat.zero_le _) ⟨1, [], pool, cap, false⟩ rfl rfl ?_; intro gb cb w6 n6 hn6 h1; have H6 := Lib.hid h1; clear h1 hn6)
        go_meet
        case rel => exact ⟨_, rfl, show DSt w wb _ _ _ by rw [HR.out]; exact H6.out⟩
      · have HR := Lib.hid (show capD xx = [] by rw [HXX.out]; unfold capD; dsimp only; rw [if_neg h1])
        rw [decide_eq_false h1]
        clear h1
        go_wp2
        go_meet
        case rel => exact ⟨_, rfl, show DSt w wb _ _ _ by rw [HR.out]; exact HS0.out⟩
    case rest =>
    obtain ⟨v1, hv1, hcut⟩ := hcut
    replace hv1 := hv1.symm
    subst hv1
    have H1 := Lib.hid (show DSt w wb (capD xx) v1 wc from hcut)
    clear hcut c5 c8
    have c6 := (cellAt.out _ H1.out.low).cell 6 _
    have hl6 := (cellAt.out _ H1.out.low).lt
    go_upto_if 26 with fail
    go_cut [3] (fun s3 wx => ∃ v3, s3 = v3 ∧ Aside (DSt w wb (capD xx ++ innD xx) v3 wx))
    case first =>
      by_cases h1 : inn = 0
      · have q1 : (inn != 0) = false := by rw [h1]; rfl
        have HR := Lib.hid (show innD xx = [] by rw [HXX.out]; unfold innD; dsimp only; rw [if_neg (by simp [h1])])
        clear h1
        go_wp2
        go_meet
        case rel => exact ⟨_, rfl, show DSt w wb _ _ _ by rw [HR.out, List.append_nil]; exact H1.out⟩
      · have q1 : (inn != 0) = true := by simp [h1]
        have HR := Lib.hid (show innD xx = [⟨2, [], [], inn, false⟩] by rw [HXX.out]; unfold innD; dsimp only; rw [if_pos h1])
        clear h1
        go_wp2_with (at_builtin; refine wpl_dir rfl _ _ rfl H1.out (Nat.le_trans (cap_few xx) (by decide)) ⟨2, [], [], inn, false⟩ rfl rfl ?_; intro gb cb w6 n6 hn6 h1; have H6 := Lib.hid h1; clear h1 hn6)
        go_meet
        case rel => exact ⟨_, rfl, show DSt w wb _ _ _ by rw [HR.out]; exact H6.out⟩
    case rest =>
    obtain ⟨v2, hv2, hcut⟩ := hcut
    replace hv2 := hv2.symm
    subst hv2
    have H2 := Lib.hid (show DSt w wb (capD xx ++ innD xx) v2 wc from hcut)
    clear hcut
    have c7 := (cellAt.out _ H2.out.low).cell 7 _
    have hl7 := (cellAt.out _ H2.out.low).lt
    go_upto_if 35 with fail
    go_cut [3] (fun s3 wx => ∃ v3, s3 = v3 ∧ Aside (DSt w wb (capD xx ++ innD xx ++ outD xx) v3 wx))
    case first =>
      by_cases h1 : out = 0
      · have q1 : (out != 0) = false := by rw [h1]; rfl
        have HR := Lib.hid (show outD xx = [] by rw [HXX.out]; unfold outD; dsimp only; rw [if_neg (by simp [h1])])
        clear h1
        go_wp2
        go_meet
        case rel => exact ⟨_, rfl, show DSt w wb _ _ _ by rw [HR.out, List.append_nil]; exact H2.out⟩
      · have q1 : (out != 0) = true := by simp [h1]
        have HR := Lib.hid (show outD xx = [⟨3, [], [], out, false⟩] by rw [HXX.out]; unfold outD; dsimp only; rw [if_pos h1])
        clear h1
        go_wp2_with (at_builtin; refine wpl_dir rfl _ _ rfl H2.out (by rw [List.length_append]; have := cap_few xx; have := inn_few xx; omega) ⟨3, [], [], out, false⟩ rfl rfl ?_; intro gb cb w6 n6 hn6 h1; have H6 := Lib.hid h1; clear h1 hn6)
        go_meet
        case rel => exact ⟨_, rfl, show DSt w wb _ _ _ by rw [HR.out]; exact H6.out⟩
    case rest =>
    obtain ⟨v3, hv3, hcut⟩ := hcut
    replace hv3 := hv3.symm
    subst hv3
    have H3 := Lib.hid (show DSt w wb (capD xx ++ innD xx ++ outD xx) v3 wc from hcut)
    clear hcut
    obtain ⟨L3, hL3⟩ : ∃ L3, capD xx ++ innD xx ++ outD xx = L3 := ⟨_, rfl⟩
    have hF3 : L3.length ≤ 3 := by rw [← hL3]; have := cap_few xx; have := inn_few xx; have := out_few xx; simp only [List.length_append]; omega
    rw [hL3] at H3
    have HL3 := Lib.hid hL3
    obtain ⟨n3, hn3⟩ : ∃ n, L3.length = n := ⟨_, rfl⟩
    have HN3 := Lib.hid hn3
    have HF3 := Lib.hid (show n3 ≤ 3 ∧ L3.length ≤ 3 from ⟨by rw [← hn3]; exact hF3, hF3⟩)
    have HO8 := Lib.hid (show wc.ownsRow (w.heap.size + 1) 51 5 v3 n3 (flM L3) by rw [← hn3]; exact H3.out.own)
    clear hL3 hF3 hn3
    have c9 := (cellAt.out _ H3.out.low).cell 9 _
    have hl9 := (cellAt.out _ H3.out.low).lt
    have HR8 := Lib.hid (show RdC wc (.slice pm nm cm) nm (flM mk) from HM.out.next (low_next HB1.out H3.out.low))
    have HM8 := Lib.hid (show (flM mk).length = nm * 5 by rw [flM_len, HNM.out])
    have HL8 := Lib.hid (show n3 + nm ≤ 1000000 by have := HF3.out; omega)
    have HZ8 := Lib.hid (Nat.le_trans H3.out.hz H3.out.low.size)
    go_upto_region 9 with (at_builtin; go_loud (refine wpl_ow eltM rfl _ _ rfl (base := w.heap.size + 1) (n := n3) (cs := flM (L3)) (v := v3) rfl HO8.out rfl HR8.out HM8.out (flM_one mk) HL8.out (by decide) HZ8.out ?_; intro p6 k6 w6 h1 h2; have H4 := Lib.hid (show DSt w wb (L3 ++ mk) (.slice p6 (n3 + nm) k6) w6 from ⟨by rw [List.length_append, flM_app, HNM.out, HN3.out]; exact h1, H3.out.low.trans h2, H3.out.hz⟩); clear h1 h2))
    clear c9 HR8
    have c10 := (cellAt.out _ H4.out.low).cell 10 _
    have hl10 := (cellAt.out _ H4.out.low).lt
    have hbd10 : (L3 ++ mk).length ≤ 800 := by
      have := HF3.out; have := HNM.out; have := HND.out
      simp only [List.length_append, List.length_map]; omega
    have HT10 := Lib.hid hbd10
    clear hbd10
    go_upto_region 10 with fail
    go_loopw [3, 49] (fun s3 si W => ∃ (k : Nat) (v3 : Value), s3 = v3 ∧ si = .int .i64 k ∧ k ≤ nd ∧ Aside (DSt w wb (L3 ++ mk ++ (dr.take k).map dropD) v3 W)) (fun _ si _ => nd - (intOf si).toNat)
    case atStart => exact ⟨0, _, rfl, rfl, Nat.zero_le _, show DSt w wb _ _ _ by rw [List.take_zero, List.map_nil, List.append_nil]; exact H4.out⟩
    case round =>
      obtain ⟨k, v3, h3, rfl, hk, hst⟩ := hrel
      replace h3 := h3.symm
      subst h3
      have HS := Lib.hid (show DSt w wb (L3 ++ mk ++ (dr.take k).map dropD) v3 wr from hst)
      clear hst
      by_cases hkn : k < nd
      · obtain ⟨b, off, hp, hb, hc⟩ := (HD.out.next (low_next HB1.out HS.out.low)).at_ (size := 1) rfl (by omega)
        subst hp
        obtain ⟨y, hy⟩ : ∃ y, dr[k]? = some y := ⟨_, List.getElem?_eq_getElem (by rw [HND.out]; exact hkn)⟩
        have c0 : wr.cell? ⟨b, off + k, none⟩ = some (.string (str y)) := by
          have := hc.elt (f := cS) (k := 1) (fun _ => rfl) (j := 0) hy (by decide) rfl
          rwa [Nat.mul_one, Nat.add_zero] at this
        have HT := Lib.hid (take_snoc hy)
        have HLN := Lib.hid (show (L3 ++ mk ++ (dr.take k).map dropD).length ≤ 1000 by rw [List.length_append, List.length_map, List.length_take]; have := HT10.out; omega)
        clear hc hy
        go_wp2_with (at_builtin; refine wpl_dir rfl _ _ rfl HS.out HLN.out (dropD y) rfl rfl ?_; intro gb cb w6 n6 hn6 h1; have H6 := Lib.hid h1; clear h1 hn6)
        go_roundw
        case rel => exact ⟨k + 1, _, rfl, by go_num, by omega, show DSt w wb _ _ _ by rw [HT.out, List.map_append, ← List.append_assoc]; exact H6.out⟩
        case measure => simp [intOf]; omega
      · obtain rfl : k = nd := by omega
        have H5 := Lib.hid (show DSt w wb (L3 ++ mk ++ dr.map dropD) v3 wr by have := HS.out; rwa [List.take_of_length_le (by rw [HND.out]; exact Nat.le_refl _)] at this)
        clear HS hk hkn
        have c11 := (cellAt.out _ H5.out.low).cell 11 _
        have hl11 := (cellAt.out _ H5.out.low).lt
        have hbd11 : (L3 ++ mk ++ dr.map dropD).length ≤ 800 := by
          have := HF3.out; have := HNM.out; have := HND.out
          simp only [List.length_append, List.length_map]; omega
        have HT11 := Lib.hid hbd11
        clear hbd11
        go_upto_region 15 with fail
        go_loopw [3, 62] (fun s3 si W => ∃ (k : Nat) (v3 : Value), s3 = v3 ∧ si = .int .i64 k ∧ k ≤ nu ∧ Aside (DSt w wb (L3 ++ mk ++ dr.map dropD ++ (use.take k).map useD) v3 W)) (fun _ si _ => nu - (intOf si).toNat)
        case atStart => exact ⟨0, _, rfl, rfl, Nat.zero_le _, show DSt w wb _ _ _ by rw [List.take_zero, List.map_nil, List.append_nil]; exact H5.out⟩
        case round =>
          obtain ⟨k, v3, h3, rfl, hk, hst⟩ := hrel
          replace h3 := h3.symm
          subst h3
          have HS := Lib.hid (show DSt w wb (L3 ++ mk ++ dr.map dropD ++ (use.take k).map useD) v3 wr from hst)
          clear hst
          by_cases hkn : k < nu
          · obtain ⟨b, off, hp, hb, hc⟩ := (HU.out.next (low_next HB1.out HS.out.low)).at_ (size := 1) rfl (by omega)
            subst hp
            obtain ⟨y, hy⟩ : ∃ y, use[k]? = some y := ⟨_, List.getElem?_eq_getElem (by rw [HNU.out]; exact hkn)⟩
            have c0 : wr.cell? ⟨b, off + k, none⟩ = some (.string (str y)) := by
              have := hc.elt (f := cS) (k := 1) (fun _ => rfl) (j := 0) hy (by decide) rfl
              rwa [Nat.mul_one, Nat.add_zero] at this
            have HT := Lib.hid (take_snoc hy)
            have HLN := Lib.hid (show (L3 ++ mk ++ dr.map dropD ++ (use.take k).map useD).length ≤ 1000 by rw [List.length_append, List.length_map, List.length_take]; have := HT11.out; omega)
            clear hc hy
            go_wp2_with (at_builtin; refine wpl_dir rfl _ _ rfl HS.out HLN.out (useD y) rfl rfl ?_; intro gb cb w6 n6 hn6 h1; have H6 := Lib.hid h1; clear h1 hn6)
            go_roundw
            case rel => exact ⟨k + 1, _, rfl, by go_num, by omega, show DSt w wb _ _ _ by rw [HT.out, List.map_append, ← List.append_assoc]; exact H6.out⟩
            case measure => simp [intOf]; omega
          · obtain rfl : k = nu := by omega
            have H7 := Lib.hid (show DSt w wb (L3 ++ mk ++ dr.map dropD ++ use.map useD) v3 wr by have := HS.out; rwa [List.take_of_length_le (by rw [HNU.out]; exact Nat.le_refl _)] at this)
            clear HS hk hkn
            go_wp2
            go_ret
            have e : L3 ++ mk ++ dr.map dropD ++ use.map useD = dirsP xx := by rw [← HL3.out]; unfold dirsP; rw [HXX.out]
            refine ⟨_, rfl, ?_, low_next HB1.out H7.out.low⟩
            rw [← e]
            have ho := H7.out.own
            refine ⟨ho.1, ?_⟩
            rcases ho.2 with h9 | ⟨q, cap, cur, r1, r2, r3⟩
            · exact .inl h9
            · exact .inr ⟨q, cap, cur, r1, Nat.le_of_succ_le r2, r3⟩
end Go.Proofs.YtpmghgfgbkncoaaGreatDoor.gn
end
section
set_option linter.unusedVariables false
set_option linter.unusedSimpArgs false
namespace Go.Proofs.YtpmghgfgbkncoaaGreatDoor.gn
open Go.RowKit
open Go.Proofs.YtpmghgfgbkncoaaGreatDoor.un
open Go.Proofs.YtpmghgfgbkncoaaGreatDoor.di
open Go.Proofs.YtpmghgfgbkncoaaGreatDoor.sp (Slip shortP soundP waitsP storedP apartP dirsP dropD useD capD innD outD chkS chkS_P)

theorem dirsP_DW {x : Slip} (h : SW x) : ∀ d ∈ dirsP x, DW d := by
  intro d hd
  have e0 : ([] : Tx).length ≤ 9223372036854775807 := by decide
  unfold dirsP capD innD outD at hd
  simp only [List.mem_append, List.mem_map] at hd
  rcases hd with ((((hd | hd) | hd) | hd) | ⟨n, hn, rfl⟩) | ⟨n, hn, rfl⟩
  · split at hd
    · simp at hd; subst hd; exact ⟨by show (1 : Nat) < 256; decide, e0, h.pool, h.cap.1, h.cap.2⟩
    · cases hd
  · split at hd
    · simp at hd; subst hd; exact ⟨by show (2 : Nat) < 256; decide, e0, e0, h.inn.1, h.inn.2⟩
    · cases hd
  · split at hd
    · simp at hd; subst hd; exact ⟨by show (3 : Nat) < 256; decide, e0, e0, h.out.1, h.out.2⟩
    · cases hd
  · exact h.make d hd
  · exact ⟨by show (5 : Nat) < 256; decide, h.drop n hn, e0, by show (-9223372036854775808 : Int) ≤ 0; decide, by show (0 : Int) ≤ 9223372036854775807; decide⟩
  · exact ⟨by show (6 : Nat) < 256; decide, h.use n hn, e0, by show (-9223372036854775808 : Int) ≤ 0; decide, by show (0 : Int) ≤ 9223372036854775807; decide⟩
theorem dirsP_len (x : Slip) (hm : x.make.length ≤ 100) (hd : x.drop.length ≤ 100) (hu : x.use.length ≤ 100) : (dirsP x).length ≤ 303 := by
  have := cap_few x; have := inn_few x; have := out_few x
  unfold dirsP
  simp only [List.length_append, List.length_map]
  omega
theorem cellM {w : World} {b off : Nat} {l : List Dir} (h : CellsC w b off (flM l)) {k : Nat} {d : Dir} (hd : l[k]? = some d) :
    w.cell? ⟨b, off + k * 5, none⟩ = some (.int .u8 (d.kind : Nat)) ∧ w.cell? ⟨b, off + k * 5 + 1, none⟩ = some (.string (str d.name)) ∧ w.cell? ⟨b, off + k * 5 + 2, none⟩ = some (.string (str d.pool)) ∧ w.cell? ⟨b, off + k * 5 + 3, none⟩ = some (.int .i64 d.size) ∧ w.cell? ⟨b, off + k * 5 + 4, none⟩ = some (.bool d.opn) := by
  have key := fun j u => h.elt (f := cM) (k := 5) (fun _ => rfl) (j := j) (u := u) hd
  refine ⟨key 0 _ (by decide) rfl, ?_, ?_, ?_, ?_⟩
  · have := key 1 _ (by decide) rfl; rwa [← Nat.add_assoc] at this
  · have := key 2 _ (by decide) rfl; rwa [← Nat.add_assoc] at this
  · have := key 3 _ (by decide) rfl; rwa [← Nat.add_assoc] at this
  · have := key 4 _ (by decide) rfl; rwa [← Nat.add_assoc] at this

set_option maxRecDepth 100000 in
set_option maxHeartbeats 8000000 in
theorem stored_any (x : Slip) (g : Gh) (w : World) (h : SR w x g) (hW : SW x) (hm : x.make.length ≤ 100) (hd : x.drop.length ≤ 100) (hu : x.use.length ≤ 100) (hL : LaidD w) :
    Calls Tryz.prog 32 #[sV x g] w (Told (.bool (storedP x)) w) := by
  have HDW := Lib.hid (dirsP_DW hW)
  have hlen := dirsP_len x hm hd hu
  have HL := Lib.hid hL.base
  obtain ⟨wb, hwb⟩ : ∃ wb, w.alloc (.cells (scs x g) 27) = wb := ⟨_, rfl⟩
  have hbx : BoxA wb w.heap.size 27 (scs x g) := by rw [← hwb]; exact BoxA.new _ _ _
  have hB1 : Below w.heap.size w wb := by rw [← hwb]; exact (Below.refl _ _).alloc (Nat.le_refl _) _
  have HDI := Lib.hid (directives_any x g wb (h.next hB1) hm hd hu)
  have HWB := Lib.hid hwb
  have HB1 := Lib.hid hB1
  have cellAt := Lib.hid (fun (W : World) (hb : Below wb.heap.size wb W) => hbx.next hb)
  have HST := Lib.hid (show storedP x = (decide (∀ d ∈ dirsP x, chk d = true) && (decide (x.inn ≤ x.cap) && decide (x.out ≤ x.cap))) by
    unfold storedP
    rw [Bool.eq_iff_iff]
    simp)
  have hlt := hbx.lt
  clear h hW hm hd hu hL hB1
  unfold sV at HDI ⊢
  obtain ⟨va, vm, vd, vu⟩ := g
  unfold scs at HDI HWB cellAt hbx ⊢
  dsimp only at HDI HWB cellAt hbx ⊢
  generalize dirsP x = L at *
  obtain ⟨n, hn⟩ : ∃ n, L.length = n := ⟨_, rfl⟩
  rw [hn] at HDI hlen
  have HN := Lib.hid hn
  clear hn
  obtain ⟨us, nodes, wall, qos, after, cap, inn, out, pool, mk, dr, use⟩ := x
  dsimp only at HDI HWB HST cellAt hbx ⊢
  generalize str us = sus at *
  generalize str pool = spl at *
  generalize storedP _ = st at *
  have c0 := hbx.cell 0 _
  have c1 := hbx.cell 1 _
  have c2 := hbx.cell 2 _
  have c3 := hbx.cell 3 _
  have c4 := hbx.cell 4 _
  have c5 := hbx.cell 5 _
  have c6 := hbx.cell 6 _
  have c7 := hbx.cell 7 _
  have c8 := hbx.cell 8 _
  have c9 := hbx.cell 9 _
  have c10 := hbx.cell 10 _
  have c11 := hbx.cell 11 _
  clear hbx hwb
  go_enter Tryz.func32, Tryz.ntmps32
  go_upto_region 1 with fail
  rw [HWB.out]
  go_upto_region 2 with (go_at_call 25; ((with_reducible refine HDI.out.mono ?_); rintro e w2 ⟨v, rfl, ho, hb⟩; obtain ⟨p, c, hv⟩ := (RdC.form (ApC.rdc (.inr ho))); subst hv; have HO := Lib.hid ho; have HB := Lib.hid hb; clear ho hb))
  have HCA := Lib.hid (fun (W : World) (hb : Below wb.heap.size wb W) => (And.intro (BoxA.cell (cellAt.out W hb) 5 _) (And.intro (BoxA.cell (cellAt.out W hb) 6 _) (And.intro (BoxA.cell (cellAt.out W hb) 7 _) (cellAt.out W hb).lt))))
  have HR := Lib.hid (show RdC w2 (.slice p n c) n (flM L) from ApC.rdc (.inr HO.out))
  clear c0 c1 c2 c3 c4 c5 c6 c7 c8 c9 c10 c11 HO
  go_loopw [8] (fun s8 W => ∃ k : Nat, s8 = .int .i64 k ∧ k ≤ n ∧ Aside (∀ d ∈ L.take k, chk d = true) ∧ Aside (Below w2.heap.size w2 W)) (fun s8 _ => n - (intOf s8).toNat)
  case atStart => exact ⟨0, rfl, Nat.zero_le _, by show ∀ d ∈ L.take 0, _; simp, Below.refl _ _⟩
  case round =>
    obtain ⟨k, rfl, hk, hok, hbl⟩ := hrel
    have HOK := Lib.hid (show ∀ d ∈ L.take k, chk d = true from hok)
    have HBL := Lib.hid (show Below w2.heap.size w2 wr from hbl)
    have HLOW := Lib.hid (HB.out.trans ((show Below w2.heap.size w2 wr from hbl).mono HB.out.size))
    clear hok hbl
    by_cases hkn : k < n
    · obtain ⟨b, off, hp, hb, hc⟩ := (HR.out.next HBL.out).at_ (size := 5) rfl (by omega)
      subst hp
      obtain ⟨d, hd⟩ : ∃ d, L[k]? = some d := ⟨_, List.getElem?_eq_getElem (by rw [HN.out]; exact hkn)⟩
      obtain ⟨y0, y1, y2, y3, y4⟩ := cellM hc hd
      have HD := Lib.hid (HDW.out d (List.mem_of_getElem? hd))
      have HX := Lib.hid hd
      clear hc hd
      go_upto_region 4 with fail
      have hD : BoxA (wr.alloc (.cells #[.int .u8 (d.kind : Nat), .string (str d.name), .string (str d.pool), .int .i64 d.size, .bool d.opn] 51)) wr.heap.size 51 #[.int .u8 (d.kind : Nat), .string (str d.name), .string (str d.pool), .int .i64 d.size, .bool d.opn] := BoxA.new _ _ _
      have hb4 : Below wr.heap.size wr (wr.alloc (.cells #[.int .u8 (d.kind : Nat), .string (str d.name), .string (str d.pool), .int .i64 d.size, .bool d.opn] 51)) := (Below.refl _ _).alloc (Nat.le_refl _) _
      generalize wr.alloc (.cells #[.int .u8 (d.kind : Nat), .string (str d.name), .string (str d.pool), .int .i64 d.size, .bool d.opn] 51) = w4 at *
      have z0 := hD.cell 0 _
      have z1 := hD.cell 1 _
      have z2 := hD.cell 2 _
      have z3 := hD.cell 3 _
      have z4 := hD.cell 4 _
      have zl := hD.lt
      have HB4 := Lib.hid (HBL.out.trans (hb4.mono HBL.out.size))
      have HLW := Lib.hid (HLOW.out.trans (hb4.mono HLOW.out.size))
      have HCK := Lib.hid (Check_any d HD.out w4 (HL.out _ (HB1.out.trans (HLW.out.mono HB1.out.size))))
      generalize wr.heap.size = bd at *
      clear hD hb4 y0 y1 y2 y3 y4 hb
      unfold dV dcs at HCK
      by_cases hck : chk d = true
      · have HCE := Lib.hid (show cE d = 0 by unfold cE; rw [if_pos hck])
        have HK := Lib.hid (show ∀ d ∈ L.take (k + 1), chk d = true from fun y hy => by
          rw [take_snoc HX.out] at hy
          rcases List.mem_append.1 hy with hy | hy
          · exact HOK.out y hy
          · simp at hy; subst hy; exact hck)
        rw [HCE.out] at HCK
        clear hck
        go_wp2_with (go_at_call 53; ((with_reducible refine HCK.out.mono ?_); rintro e w5 ⟨rfl, hb5⟩); have HB5 := Lib.hid hb5; clear hb5)
        go_roundw
        case rel => exact ⟨k + 1, by go_num, by omega, HK.out, HB4.out.trans (HB5.out.mono HB4.out.size)⟩
        case measure => simp [intOf]; omega
      · have HCE := Lib.hid (show cE d = 140 by unfold cE; rw [if_neg hck])
        have HSF := Lib.hid (show st = false by rw [HST.out, decide_eq_false (fun h => hck (h d (List.mem_of_getElem? HX.out)))]; rfl)
        rw [HCE.out] at HCK
        clear hck
        go_wp2_with (go_at_call 53; ((with_reducible refine HCK.out.mono ?_); rintro e w5 ⟨rfl, hb5⟩); have HB5 := Lib.hid hb5; clear hb5)
        go_ret
        exact ⟨by rw [HSF.out]; rfl, HB1.out.trans ((HLW.out.trans (HB5.out.mono HLW.out.size)).mono HB1.out.size)⟩
    · obtain rfl : k = n := by omega
      have hall : ∀ d ∈ L, chk d = true := by
        have := HOK.out
        rwa [List.take_of_length_le (by rw [HN.out]; exact Nat.le_refl _)] at this
      have HS2 := Lib.hid (show st = (decide (inn ≤ cap) && decide (out ≤ cap)) by rw [HST.out, decide_eq_true hall]; rfl)
      obtain ⟨c5, c6, c7, hlw⟩ := HCA.out _ HLOW.out
      clear hall hk hkn
      by_cases h1 : inn ≤ cap
      · have q1 : decide (inn ≤ cap) = true := decide_eq_true h1
        have HF := Lib.hid (show st = decide (out ≤ cap) by rw [HS2.out, q1]; rfl)
        clear h1
        go_wp2
        go_ret
        exact ⟨by rw [HF.out]; rfl, HB1.out.trans (HLOW.out.mono HB1.out.size)⟩
      · have q1 : decide (inn ≤ cap) = false := decide_eq_false h1
        have HF := Lib.hid (show st = false by rw [HS2.out, q1]; rfl)
        clear h1
        go_wp2
        go_ret
        exact ⟨by rw [HF.out]; rfl, HB1.out.trans (HLOW.out.mono HB1.out.size)⟩
end Go.Proofs.YtpmghgfgbkncoaaGreatDoor.gn
end
section
set_option linter.unusedVariables false
set_option linter.unusedSimpArgs false
namespace Go.Proofs.YtpmghgfgbkncoaaGreatDoor.gn
open Go.RowKit
open Go.Proofs.YtpmghgfgbkncoaaGreatDoor.un
open Go.Proofs.YtpmghgfgbkncoaaGreatDoor.di
open Go.Proofs.YtpmghgfgbkncoaaGreatDoor.sp (Slip shortP soundP waitsP storedP apartP dirsP dropD useD capD innD outD chkS chkS_P)

theorem apart_eq (x : Slip) : apartP x = (decide (∀ d ∈ x.make, d.kind = 4) && (decide (x.make.map (·.name) ++ x.use).Nodup && decide x.drop.Nodup)) := by
  unfold apartP
  rw [Bool.eq_iff_iff]
  simp only [Bool.and_eq_true, decide_eq_true_eq]
set_option maxRecDepth 100000 in
set_option maxHeartbeats 8000000 in
theorem apart_any (x : Slip) (g : Gh) (w : World) (h : SR w x g) (hm : x.make.length ≤ 100) (hu : x.use.length ≤ 100) : Calls Tryz.prog 33 #[sV x g] w (Told (.bool (apartP x)) w) := by
  have HAP := Lib.hid (apart_eq x)
  have HM := Lib.hid h.m
  have HU := Lib.hid h.u
  have HD := Lib.hid h.d
  have HCD := Lib.hid h.cd
  obtain ⟨va, vm, vd, vu⟩ := g
  obtain ⟨pm, cm, em, lm1, lm2⟩ := h.cm
  dsimp only at em
  subst em
  clear h lm1 lm2
  unfold sV scs
  dsimp only at HM HU HD HCD ⊢
  obtain ⟨us, nodes, wall, qos, after, cap, inn, out, pool, mk, dr, use⟩ := x
  dsimp only at HAP HM HU HD HCD hm hu ⊢
  obtain ⟨n, hn⟩ : ∃ n, mk.length = n := ⟨_, rfl⟩
  obtain ⟨nu, hnu⟩ : ∃ n, use.length = n := ⟨_, rfl⟩
  rw [hn] at hm HM ⊢
  rw [hnu] at hu HU
  have HN := Lib.hid hn
  have HNU := Lib.hid hnu
  generalize str us = sus at *
  generalize str pool = spl at *
  generalize apartP _ = ap at *
  clear hn hnu
  obtain ⟨wb, hwb⟩ : ∃ wb, w.alloc (.cells #[.string sus, .int .i64 nodes, .int .i64 wall, .int .i64 qos, va, .int .i64 cap, .int .i64 inn, .int .i64 out, .string spl, .slice pm n cm, vd, vu] 27) = wb := ⟨_, rfl⟩
  have hbx : BoxA wb w.heap.size 27 #[.string sus, .int .i64 nodes, .int .i64 wall, .int .i64 qos, va, .int .i64 cap, .int .i64 inn, .int .i64 out, .string spl, .slice pm n cm, vd, vu] := by rw [← hwb]; exact BoxA.new _ _ _
  have hB1 : Below w.heap.size w wb := by rw [← hwb]; exact (Below.refl _ _).alloc (Nat.le_refl _) _
  have hzb : wb.heap.size = w.heap.size + 1 := by rw [← hwb]; simp
  have HZ := Lib.hid hzb
  have HB1 := Lib.hid hB1
  have HWB := Lib.hid hwb
  have hlt := hbx.lt
  have cellAt := Lib.hid (fun (W : World) (hb : Below (w.heap.size + 1) wb W) => (show BoxA W w.heap.size 27 #[.string sus, .int .i64 nodes, .int .i64 wall, .int .i64 qos, va, .int .i64 cap, .int .i64 inn, .int .i64 out, .string spl, .slice pm n cm, vd, vu] from (hb.block _ (Nat.lt_succ_self _)).trans hbx))
  have c9 := hbx.cell 9 _
  clear hbx hB1 hzb hwb
  go_enter Tryz.func33, Tryz.ntmps33
  go_upto_region 2 with fail
  rw [HWB.out]
  go_upto_region 3 with fail
  go_loopw [3, 9] (fun s3 s9 W => ∃ (k : Nat) (v3 : Value), s3 = v3 ∧ s9 = .int .i64 k ∧ k ≤ n ∧ Aside (∀ d ∈ mk.take k, d.kind = 4) ∧ Aside (W.ownsRow (w.heap.size + 1) 9 1 v3 k (flS ((mk.take k).map (·.name)))) ∧ Aside (Below (w.heap.size + 1) wb W)) (fun _ s9 _ => n - (intOf s9).toNat)
  case atStart => exact ⟨0, _, rfl, rfl, Nat.zero_le _, by show ∀ d ∈ mk.take 0, _; simp, World.ownsRow_nil _ _ _ _, Below.refl _ _⟩
  case round =>
    obtain ⟨k, v3, h3, rfl, hk, hok, hown, hbl⟩ := hrel
    replace h3 := h3.symm
    subst h3
    have HO := Lib.hid (show ∀ d ∈ mk.take k, d.kind = 4 from hok)
    have HW := Lib.hid (show wr.ownsRow (w.heap.size + 1) 9 1 v3 k (flS ((mk.take k).map (·.name))) from hown)
    have HB := Lib.hid (show Below (w.heap.size + 1) wb wr from hbl)
    have HZR := Lib.hid (show w.heap.size + 1 ≤ wr.heap.size by have := hbl.size; have := HZ.out; omega)
    clear hok hown hbl c9
    by_cases hkn : k < n
    · obtain ⟨b, off, hp, hb, hc⟩ := (HM.out.next (low_next HB1.out HB.out)).at_ (size := 5) rfl (by omega)
      subst hp
      obtain ⟨d, hd⟩ : ∃ d, mk[k]? = some d := ⟨_, List.getElem?_eq_getElem (by rw [HN.out]; exact hkn)⟩
      obtain ⟨y0, y1, y2, y3, y4⟩ := cellM hc hd
      have HX := Lib.hid hd
      clear hc hd
      obtain ⟨dk, dn, dp, dz, dop⟩ := d
      dsimp only at y0 y1 y2 y3 y4
      go_upto_region 5 with fail
      have hD : BoxA (wr.alloc (.cells #[.int .u8 (dk : Nat), .string (str dn), .string (str dp), .int .i64 dz, .bool dop] 51)) wr.heap.size 51 #[.int .u8 (dk : Nat), .string (str dn), .string (str dp), .int .i64 dz, .bool dop] := BoxA.new _ _ _
      have hb4 : Below wr.heap.size wr (wr.alloc (.cells #[.int .u8 (dk : Nat), .string (str dn), .string (str dp), .int .i64 dz, .bool dop] 51)) := (Below.refl _ _).alloc (Nat.le_refl _) _
      generalize wr.alloc (.cells #[.int .u8 (dk : Nat), .string (str dn), .string (str dp), .int .i64 dz, .bool dop] 51) = w4 at *
      have z0 := hD.cell 0 _
      have z1 := hD.cell 1 _
      have zl := hD.lt
      have HW4 := Lib.hid (show w4.ownsRow (w.heap.size + 1) 9 1 v3 k (flS ((mk.take k).map (·.name))) from World.ownsRow.kept HW.out (grown_new hb4) (by cases hv : v3.ownBlock <;> simp))
      have HB4 := Lib.hid (HB.out.trans (hb4.mono HZR.out))
      have HZ4 := Lib.hid (Nat.le_trans HZR.out hb4.size)
      generalize wr.heap.size = bd at *
      clear hD hb4 y0 y1 y2 y3 y4 hb
      by_cases h4 : dk = 4
      · have q4 : ((dk : Int) != 4) = false := by rw [h4]; rfl
        have HK := Lib.hid (show ∀ d ∈ mk.take (k + 1), d.kind = 4 from fun y hy => by
          rw [take_snoc HX.out] at hy
          rcases List.mem_append.1 hy with hy | hy
          · exact HO.out y hy
          · simp at hy; subst hy; exact h4)
        have HK2 := Lib.hid (show flS ((mk.take k).map (·.name)) ++ cS dn = flS ((mk.take (k + 1)).map (·.name)) by rw [take_snoc HX.out, List.map_append, flS_app]; rfl)
        have hb5 : Below w4.heap.size w4 (w4.alloc (.cells #[.string (str dn)] 9)) := (Below.refl _ _).alloc (Nat.le_refl _) _
        have HW5 := Lib.hid (show (w4.alloc (.cells #[.string (str dn)] 9)).ownsRow (w.heap.size + 1) 9 1 v3 k (flS ((mk.take k).map (·.name))) from World.ownsRow.kept HW4.out (grown_new hb5) (by cases hv : v3.ownBlock <;> simp))
        have HC5 := Lib.hid (show ∀ j u, (cS dn)[j]? = some u → (w4.alloc (.cells #[.string (str dn)] 9)).cell? ((⟨w4.heap.size, 0, none⟩ : Addr).add j) = some u from row_cells' w4 (cS dn) 9)
        have HZ5 := Lib.hid (Nat.le_trans HZ4.out hb5.size)
        have HB5 := Lib.hid (HB4.out.trans (hb5.mono HZ4.out))
        clear hb5 h4
        go_wp2_with (at_builtin; refine wpl_app eltS rfl _ _ rfl (base := w.heap.size + 1) (n := k) (cs := flS ((mk.take k).map (·.name))) (v := v3) rfl HW5.out ⟨w4.heap.size, 0, none⟩ (cS dn) rfl HC5.out rfl (fun u hu => by simp [cS] at hu; subst hu; rfl) (by omega) (by decide) HZ5.out ?_; intro gb cb w6 h1 h2; have HW6 := Lib.hid h1; have HB6 := Lib.hid (HB5.out.trans h2); clear h1 h2)
        go_roundw
        case rel => exact ⟨k + 1, _, rfl, by go_num, by omega, HK.out, by rw [← HK2.out]; exact HW6.out, HB6.out⟩
        case measure => simp [intOf]; omega
      · have q4 : ((dk : Int) != 4) = true := by simp; omega
        have HF := Lib.hid (show ap = false by rw [HAP.out, decide_eq_false (fun h => h4 (h _ (List.mem_of_getElem? HX.out)))]; rfl)
        clear h4
        go_wp2
        go_ret
        exact ⟨by rw [HF.out]; rfl, low_next HB1.out HB4.out⟩
    · obtain rfl : k = n := by omega
      have ht : mk.take k = mk := List.take_of_length_le (by rw [HN.out]; exact Nat.le_refl _)
      rw [ht] at HO HW
      have HA2 := Lib.hid (show ap = (decide (mk.map (·.name) ++ use).Nodup && decide dr.Nodup) by rw [HAP.out, decide_eq_true HO.out]; rfl)
      have c11 := (cellAt.out wr HB.out).cell 11 _
      have c10 := (cellAt.out wr HB.out).cell 10 _
      have hl := (cellAt.out wr HB.out).lt
      have HRU := Lib.hid (show RdC wr vu nu (flS use) from HU.out.next (low_next HB1.out HB.out))
      have HFU := Lib.hid (show (flS use).length = nu * 1 by rw [flS_len, HNU.out])
      have HLN := Lib.hid (show (mk.map (·.name) ++ use).length = k + nu by rw [List.length_append, List.length_map, HN.out, HNU.out])
      have HDR := Lib.hid (fun (W : World) (hb : Below (w.heap.size + 1) wb W) => distinct_s dr vd W (HD.out.next (low_next HB1.out hb)) HCD.out)
      have HCL := Lib.hid (fun (W : World) (hb : Below (w.heap.size + 1) wb W) => And.intro ((cellAt.out W hb).cell 10 _) (cellAt.out W hb).lt)
      clear ht hk hkn
      obtain ⟨b1, hb1⟩ : ∃ b, decide (mk.map (·.name) ++ use).Nodup = b := ⟨_, rfl⟩
      obtain ⟨b2, hb2⟩ : ∃ b, decide dr.Nodup = b := ⟨_, rfl⟩
      rw [hb1, hb2] at HA2
      rw [hb2] at HDR
      have H1 := Lib.hid hb1
      clear hb1 hb2
      cases b1 with
      | false =>
        go_wp2_with (first
          | (at_builtin; refine wpl_ow eltS rfl _ _ rfl (base := w.heap.size + 1) (n := k) (m := nu) (cs := flS (mk.map (·.name))) (ds := flS use) (v := v3) (u := vu) rfl HW.out rfl HRU.out HFU.out (flS_one use) (by omega) (by decide) HZR.out ?_; intro p6 k6 w6 h1 h2; rw [← flS_app] at h1; have HC := Lib.hid (by have := distinct_s (mk.map (·.name) ++ use) (.slice p6 (k + nu) k6) w6 (by rw [HLN.out]; exact ApC.rdc (.inr h1)) (by rw [HLN.out]; exact cp_own h1); rw [H1.out] at this; exact this); have HB6 := Lib.hid (HB.out.trans h2); clear h1 h2)
          | (go_at_call 62; ((with_reducible refine HC.out.mono ?_); rintro e w3 ⟨rfl, rfl⟩)))
        go_ret
        exact ⟨by rw [HA2.out]; rfl, low_next HB1.out HB6.out⟩
      | true =>
        go_wp2_with (first
          | (at_builtin; refine wpl_ow eltS rfl _ _ rfl (base := w.heap.size + 1) (n := k) (m := nu) (cs := flS (mk.map (·.name))) (ds := flS use) (v := v3) (u := vu) rfl HW.out rfl HRU.out HFU.out (flS_one use) (by omega) (by decide) HZR.out ?_; intro p6 k6 w6 h1 h2; rw [← flS_app] at h1; have HC := Lib.hid (by have := distinct_s (mk.map (·.name) ++ use) (.slice p6 (k + nu) k6) w6 (by rw [HLN.out]; exact ApC.rdc (.inr h1)) (by rw [HLN.out]; exact cp_own h1); rw [H1.out] at this; exact this); have HB6 := Lib.hid (HB.out.trans h2); obtain ⟨c10b, hlb⟩ := HCL.out _ HB6.out; clear h1 h2)
          | (go_at_call 62; first | ((with_reducible refine HC.out.mono ?_); rintro e w3 ⟨rfl, rfl⟩) | ((with_reducible refine (HDR.out _ HB6.out).mono ?_); rintro e w3 ⟨rfl, rfl⟩)))
        go_ret
        exact ⟨by rw [HA2.out]; rfl, low_next HB1.out HB6.out⟩
end Go.Proofs.YtpmghgfgbkncoaaGreatDoor.gn
end
section
set_option linter.unusedVariables false
set_option linter.unusedSimpArgs false
namespace Go.Proofs.YtpmghgfgbkncoaaGreatDoor.gn
open Go.RowKit
open Go.Proofs.YtpmghgfgbkncoaaGreatDoor.un
open Go.Proofs.YtpmghgfgbkncoaaGreatDoor.di
open Go.Proofs.YtpmghgfgbkncoaaGreatDoor.sp (Slip shortP soundP waitsP storedP apartP dirsP dropD useD capD innD outD chkS chkS_P)

def sE (x : Slip) : Int := if chkS x = true then 0 else 150
/-- Twelve cells of a box. -/
structure Cel (W : World) (B : Nat) (x : Slip) (g : Gh) : Prop where
  c0 : W.cell? ⟨B, 0, none⟩ = some (.string (str x.user))
  c1 : W.cell? ⟨B, 1, none⟩ = some (.int .i64 x.nodes)
  c2 : W.cell? ⟨B, 2, none⟩ = some (.int .i64 x.wall)
  c3 : W.cell? ⟨B, 3, none⟩ = some (.int .i64 x.qos)
  c4 : W.cell? ⟨B, 4, none⟩ = some g.a
  c5 : W.cell? ⟨B, 5, none⟩ = some (.int .i64 x.cap)
  c6 : W.cell? ⟨B, 6, none⟩ = some (.int .i64 x.inn)
  c7 : W.cell? ⟨B, 7, none⟩ = some (.int .i64 x.out)
  c8 : W.cell? ⟨B, 8, none⟩ = some (.string (str x.pool))
  c9 : W.cell? ⟨B, 9, none⟩ = some g.m
  c10 : W.cell? ⟨B, 10, none⟩ = some g.d
  c11 : W.cell? ⟨B, 11, none⟩ = some g.u
  lt : B < W.heap.size
theorem cel_box {W : World} {B : Nat} {x : Slip} {g : Gh} {t : TypeId} (h : BoxA W B t (scs x g)) : Cel W B x g :=
  ⟨h.cell 0 _, h.cell 1 _, h.cell 2 _, h.cell 3 _, h.cell 4 _, h.cell 5 _, h.cell 6 _, h.cell 7 _, h.cell 8 _, h.cell 9 _, h.cell 10 _, h.cell 11 _, h.lt⟩

set_option maxRecDepth 100000 in
set_option maxHeartbeats 8000000 in
theorem Check_slip (x : Slip) (g : Gh) (w : World) (h : SR w x g) (hW : SW x) (hL : LaidD w) : Calls Tryz.prog 14 #[sV x g] w (Told (.int .i64 (sE x)) w) := by
  have HP := Lib.hid (chkS_P x)
  obtain ⟨wb, hwb⟩ : ∃ wb, w.alloc (.cells (scs x g) 27) = wb := ⟨_, rfl⟩
  have hbx : BoxA wb w.heap.size 27 (scs x g) := by rw [← hwb]; exact BoxA.new _ _ _
  have hB1 : Below w.heap.size w wb := by rw [← hwb]; exact (Below.refl _ _).alloc (Nat.le_refl _) _
  have HB1 := Lib.hid hB1
  have HWB := Lib.hid hwb
  have HCE := Lib.hid (fun (W : World) (hb : Below wb.heap.size wb W) => cel_box (hbx.next hb))
  have hsr := fun (W : World) (hb : Below wb.heap.size wb W) => (h.next hB1).next hb
  have HF1 := Lib.hid (fun (W : World) (hb : Below wb.heap.size wb W) => short_any x g W (hsr W hb))
  have HF2 := Lib.hid (fun (W : World) (hb : Below wb.heap.size wb W) => sound_any x g W hW)
  have few : shortP x = true → x.after.length ≤ 8 ∧ x.make.length ≤ 4 ∧ x.drop.length ≤ 4 ∧ x.use.length ≤ 4 := fun hs => by unfold shortP at hs; exact of_decide_eq_true hs
  have HF3 := Lib.hid (fun (hs : shortP x = true) (W : World) (hb : Below wb.heap.size wb W) => waits_any x.after g.a W (hsr W hb).a (by have := few hs; omega))
  have HF4 := Lib.hid (fun (hs : shortP x = true) (W : World) (hb : Below wb.heap.size wb W) => stored_any x g W (hsr W hb) hW (by have := few hs; omega) (by have := few hs; omega) (by have := few hs; omega) (hL.next (hB1.trans (hb.mono hB1.size))))
  have HF5 := Lib.hid (fun (hs : shortP x = true) (W : World) (hb : Below wb.heap.size wb W) => apart_any x g W (hsr W hb) (by have := few hs; omega) (by have := few hs; omega))
  have HE := Lib.hid (show sE x = if chkS x = true then 0 else 150 from rfl)
  clear h hW hL hbx hB1 hwb hsr few
  obtain ⟨va, vm, vd, vu⟩ := g
  obtain ⟨us, nodes, wall, qos, after, cap, inn, out, pool, mk, dr, use⟩ := x
  unfold sV scs at *
  dsimp only at *
  generalize sE _ = se at *
  generalize hs1 : shortP _ = b1 at *
  generalize soundP _ = b2 at *
  generalize waitsP _ = b3 at *
  generalize storedP _ = b4 at *
  generalize apartP _ = b5 at *
  clear hs1
  obtain ⟨c0, c1, c2, c3, c4, c5, c6, c7, c8, c9, c10, c11, hlt⟩ := HCE.out wb (Below.refl _ _)
  dsimp only at c0 c1 c2 c3 c4 c5 c6 c7 c8 c9 c10 c11
  go_enter Tryz.func14, Tryz.ntmps14
  go_upto_region 1 with fail
  rw [HWB.out]
  cases b1 with
  | false =>
    have HR := Lib.hid (show se = 150 by rw [HE.out, HP.out]; rfl)
    go_wp2_with ((go_at_call 29; ((with_reducible refine (HF1.out _ (Below.refl _ _)).mono ?_); rintro e w1 ⟨rfl, hb⟩); have A1 := Lib.hid (show Below wb.heap.size wb w1 from hb); obtain ⟨d0, d1, d2, d3, d4, d5, d6, d7, d8, d9, d10, d11, dlt⟩ := HCE.out _ A1.out; dsimp only at d0 d1 d2 d3 d4 d5 d6 d7 d8 d9 d10 d11; clear hb))
    go_ret
    exact ⟨by rw [HR.out]; rfl, HB1.out.trans (A1.out.mono HB1.out.size)⟩
  | true =>
    cases b2 with
    | false =>
      have HR := Lib.hid (show se = 150 by rw [HE.out, HP.out]; rfl)
      go_wp2_with (first
        | (go_at_call 29; ((with_reducible refine (HF1.out _ (Below.refl _ _)).mono ?_); rintro e w1 ⟨rfl, hb⟩); have A1 := Lib.hid (show Below wb.heap.size wb w1 from hb); obtain ⟨d0, d1, d2, d3, d4, d5, d6, d7, d8, d9, d10, d11, dlt⟩ := HCE.out _ A1.out; dsimp only at d0 d1 d2 d3 d4 d5 d6 d7 d8 d9 d10 d11; clear hb)
        | (go_at_call 30; ((with_reducible refine (HF2.out _ A1.out).mono ?_); rintro e w2 ⟨rfl, hb⟩); have A2 := Lib.hid (show Below wb.heap.size wb w2 from (A1.out.trans (hb.mono A1.out.size))); obtain ⟨d0, d1, d2, d3, d4, d5, d6, d7, d8, d9, d10, d11, dlt⟩ := HCE.out _ A2.out; dsimp only at d0 d1 d2 d3 d4 d5 d6 d7 d8 d9 d10 d11; clear hb))
      go_ret
      exact ⟨by rw [HR.out]; rfl, HB1.out.trans (A2.out.mono HB1.out.size)⟩
    | true =>
      cases b3 with
      | false =>
        have HR := Lib.hid (show se = 150 by rw [HE.out, HP.out]; rfl)
        go_wp2_with (first
          | (go_at_call 29; ((with_reducible refine (HF1.out _ (Below.refl _ _)).mono ?_); rintro e w1 ⟨rfl, hb⟩); have A1 := Lib.hid (show Below wb.heap.size wb w1 from hb); obtain ⟨d0, d1, d2, d3, d4, d5, d6, d7, d8, d9, d10, d11, dlt⟩ := HCE.out _ A1.out; dsimp only at d0 d1 d2 d3 d4 d5 d6 d7 d8 d9 d10 d11; clear hb)
          | (go_at_call 30; ((with_reducible refine (HF2.out _ A1.out).mono ?_); rintro e w2 ⟨rfl, hb⟩); have A2 := Lib.hid (show Below wb.heap.size wb w2 from (A1.out.trans (hb.mono A1.out.size))); obtain ⟨d0, d1, d2, d3, d4, d5, d6, d7, d8, d9, d10, d11, dlt⟩ := HCE.out _ A2.out; dsimp only at d0 d1 d2 d3 d4 d5 d6 d7 d8 d9 d10 d11; clear hb)
          | (go_at_call 31; ((with_reducible refine (HF3.out (by trivial) _ A2.out).mono ?_); rintro e w3 ⟨rfl, hb⟩); have A3 := Lib.hid (show Below wb.heap.size wb w3 from (A2.out.trans (hb.mono A2.out.size))); obtain ⟨d0, d1, d2, d3, d4, d5, d6, d7, d8, d9, d10, d11, dlt⟩ := HCE.out _ A3.out; dsimp only at d0 d1 d2 d3 d4 d5 d6 d7 d8 d9 d10 d11; clear hb))
        go_ret
        exact ⟨by rw [HR.out]; rfl, HB1.out.trans (A3.out.mono HB1.out.size)⟩
      | true =>
        cases b4 with
        | false =>
          have HR := Lib.hid (show se = 150 by rw [HE.out, HP.out]; rfl)
          go_wp2_with (first
            | (go_at_call 29; ((with_reducible refine (HF1.out _ (Below.refl _ _)).mono ?_); rintro e w1 ⟨rfl, hb⟩); have A1 := Lib.hid (show Below wb.heap.size wb w1 from hb); obtain ⟨d0, d1, d2, d3, d4, d5, d6, d7, d8, d9, d10, d11, dlt⟩ := HCE.out _ A1.out; dsimp only at d0 d1 d2 d3 d4 d5 d6 d7 d8 d9 d10 d11; clear hb)
            | (go_at_call 30; ((with_reducible refine (HF2.out _ A1.out).mono ?_); rintro e w2 ⟨rfl, hb⟩); have A2 := Lib.hid (show Below wb.heap.size wb w2 from (A1.out.trans (hb.mono A1.out.size))); obtain ⟨d0, d1, d2, d3, d4, d5, d6, d7, d8, d9, d10, d11, dlt⟩ := HCE.out _ A2.out; dsimp only at d0 d1 d2 d3 d4 d5 d6 d7 d8 d9 d10 d11; clear hb)
            | (go_at_call 31; ((with_reducible refine (HF3.out (by trivial) _ A2.out).mono ?_); rintro e w3 ⟨rfl, hb⟩); have A3 := Lib.hid (show Below wb.heap.size wb w3 from (A2.out.trans (hb.mono A2.out.size))); obtain ⟨d0, d1, d2, d3, d4, d5, d6, d7, d8, d9, d10, d11, dlt⟩ := HCE.out _ A3.out; dsimp only at d0 d1 d2 d3 d4 d5 d6 d7 d8 d9 d10 d11; clear hb)
            | (go_at_call 32; ((with_reducible refine (HF4.out (by trivial) _ A3.out).mono ?_); rintro e w4 ⟨rfl, hb⟩); have A4 := Lib.hid (show Below wb.heap.size wb w4 from (A3.out.trans (hb.mono A3.out.size))); obtain ⟨d0, d1, d2, d3, d4, d5, d6, d7, d8, d9, d10, d11, dlt⟩ := HCE.out _ A4.out; dsimp only at d0 d1 d2 d3 d4 d5 d6 d7 d8 d9 d10 d11; clear hb))
          go_ret
          exact ⟨by rw [HR.out]; rfl, HB1.out.trans (A4.out.mono HB1.out.size)⟩
        | true =>
          cases b5 with
          | false =>
            have HR := Lib.hid (show se = 150 by rw [HE.out, HP.out]; rfl)
            go_wp2_with (first
              | (go_at_call 29; ((with_reducible refine (HF1.out _ (Below.refl _ _)).mono ?_); rintro e w1 ⟨rfl, hb⟩); have A1 := Lib.hid (show Below wb.heap.size wb w1 from hb); obtain ⟨d0, d1, d2, d3, d4, d5, d6, d7, d8, d9, d10, d11, dlt⟩ := HCE.out _ A1.out; dsimp only at d0 d1 d2 d3 d4 d5 d6 d7 d8 d9 d10 d11; clear hb)
              | (go_at_call 30; ((with_reducible refine (HF2.out _ A1.out).mono ?_); rintro e w2 ⟨rfl, hb⟩); have A2 := Lib.hid (show Below wb.heap.size wb w2 from (A1.out.trans (hb.mono A1.out.size))); obtain ⟨d0, d1, d2, d3, d4, d5, d6, d7, d8, d9, d10, d11, dlt⟩ := HCE.out _ A2.out; dsimp only at d0 d1 d2 d3 d4 d5 d6 d7 d8 d9 d10 d11; clear hb)
              | (go_at_call 31; ((with_reducible refine (HF3.out (by trivial) _ A2.out).mono ?_); rintro e w3 ⟨rfl, hb⟩); have A3 := Lib.hid (show Below wb.heap.size wb w3 from (A2.out.trans (hb.mono A2.out.size))); obtain ⟨d0, d1, d2, d3, d4, d5, d6, d7, d8, d9, d10, d11, dlt⟩ := HCE.out _ A3.out; dsimp only at d0 d1 d2 d3 d4 d5 d6 d7 d8 d9 d10 d11; clear hb)
              | (go_at_call 32; ((with_reducible refine (HF4.out (by trivial) _ A3.out).mono ?_); rintro e w4 ⟨rfl, hb⟩); have A4 := Lib.hid (show Below wb.heap.size wb w4 from (A3.out.trans (hb.mono A3.out.size))); obtain ⟨d0, d1, d2, d3, d4, d5, d6, d7, d8, d9, d10, d11, dlt⟩ := HCE.out _ A4.out; dsimp only at d0 d1 d2 d3 d4 d5 d6 d7 d8 d9 d10 d11; clear hb)
              | (go_at_call 33; ((with_reducible refine (HF5.out (by trivial) _ A4.out).mono ?_); rintro e w5 ⟨rfl, hb⟩); have A5 := Lib.hid (show Below wb.heap.size wb w5 from (A4.out.trans (hb.mono A4.out.size))); obtain ⟨d0, d1, d2, d3, d4, d5, d6, d7, d8, d9, d10, d11, dlt⟩ := HCE.out _ A5.out; dsimp only at d0 d1 d2 d3 d4 d5 d6 d7 d8 d9 d10 d11; clear hb))
            go_ret
            exact ⟨by rw [HR.out]; rfl, HB1.out.trans (A5.out.mono HB1.out.size)⟩
          | true =>
            have HR := Lib.hid (show se = 0 by rw [HE.out, HP.out]; rfl)
            go_wp2_with (first
              | (go_at_call 29; ((with_reducible refine (HF1.out _ (Below.refl _ _)).mono ?_); rintro e w1 ⟨rfl, hb⟩); have A1 := Lib.hid (show Below wb.heap.size wb w1 from hb); obtain ⟨d0, d1, d2, d3, d4, d5, d6, d7, d8, d9, d10, d11, dlt⟩ := HCE.out _ A1.out; dsimp only at d0 d1 d2 d3 d4 d5 d6 d7 d8 d9 d10 d11; clear hb)
              | (go_at_call 30; ((with_reducible refine (HF2.out _ A1.out).mono ?_); rintro e w2 ⟨rfl, hb⟩); have A2 := Lib.hid (show Below wb.heap.size wb w2 from (A1.out.trans (hb.mono A1.out.size))); obtain ⟨d0, d1, d2, d3, d4, d5, d6, d7, d8, d9, d10, d11, dlt⟩ := HCE.out _ A2.out; dsimp only at d0 d1 d2 d3 d4 d5 d6 d7 d8 d9 d10 d11; clear hb)
              | (go_at_call 31; ((with_reducible refine (HF3.out (by trivial) _ A2.out).mono ?_); rintro e w3 ⟨rfl, hb⟩); have A3 := Lib.hid (show Below wb.heap.size wb w3 from (A2.out.trans (hb.mono A2.out.size))); obtain ⟨d0, d1, d2, d3, d4, d5, d6, d7, d8, d9, d10, d11, dlt⟩ := HCE.out _ A3.out; dsimp only at d0 d1 d2 d3 d4 d5 d6 d7 d8 d9 d10 d11; clear hb)
              | (go_at_call 32; ((with_reducible refine (HF4.out (by trivial) _ A3.out).mono ?_); rintro e w4 ⟨rfl, hb⟩); have A4 := Lib.hid (show Below wb.heap.size wb w4 from (A3.out.trans (hb.mono A3.out.size))); obtain ⟨d0, d1, d2, d3, d4, d5, d6, d7, d8, d9, d10, d11, dlt⟩ := HCE.out _ A4.out; dsimp only at d0 d1 d2 d3 d4 d5 d6 d7 d8 d9 d10 d11; clear hb)
              | (go_at_call 33; ((with_reducible refine (HF5.out (by trivial) _ A4.out).mono ?_); rintro e w5 ⟨rfl, hb⟩); have A5 := Lib.hid (show Below wb.heap.size wb w5 from (A4.out.trans (hb.mono A4.out.size))); obtain ⟨d0, d1, d2, d3, d4, d5, d6, d7, d8, d9, d10, d11, dlt⟩ := HCE.out _ A5.out; dsimp only at d0 d1 d2 d3 d4 d5 d6 d7 d8 d9 d10 d11; clear hb))
            go_ret
            exact ⟨by rw [HR.out]; rfl, HB1.out.trans (A5.out.mono HB1.out.size)⟩
end Go.Proofs.YtpmghgfgbkncoaaGreatDoor.gn
end
