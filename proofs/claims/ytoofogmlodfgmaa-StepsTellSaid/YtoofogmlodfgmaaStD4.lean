/- The document's times: its contract. -/
import Derived.Test.YtoofogmlodfgmaaStD2
import Derived.Test.YtoofogmlodfgmaaStD3
import Derived.Deep.RegionHeld3
import Derived.Deep.DeepCutAuto
import Derived.Handy
import Derived.Deep.DrawnRows
namespace Go.Proofs.Ytoofogmlodfgmaa.gn
open Go.RowKit Go.Shelf
open Go.Proofs.Ytoofogmlodfgmaa.sp

theorem wpl_append_full {ops : Array Oper} {rest : List Oper} {o : Oper} {a : Act} {w : World} {Q : Exit → Act → World → Prop} (hgd : o.guard = none) (s x : Operand)
    (ho : o.op = .call { callee := .builtin .append, args := #[s, x], argTypes := #[22, 22] })
    (b off n : Nat) (l : List Int) (hs : a.eval s = .slice (some ⟨b, off, none⟩) n n) (hn : l.length = n) (hl : ∀ j (h : j < l.length), w.cell? ⟨b, off + j, none⟩ = some (.int .i64 l[j]))
    (q r m c : Nat) (hx : a.eval x = .slice (some ⟨q, r, none⟩) m c) (l2 : List Int) (hm : l2.length = m) (hc : ∀ j (h : j < l2.length), w.cell? ⟨q, r + j, none⟩ = some (.int .i64 l2[j])) (hpos : 0 < m) (hlim : n + m ≤ 100000) (lz : List Int) (hz9 : lz = l ++ l2)
    (hK : ∀ d k e w', OwnI w' w.heap.size (.slice d k e) lz → Below w.heap.size w w' → wpList Try.prog ops Q rest (a.put o.dst (.slice d k e)) w') : wpList Try.prog ops Q (o :: rest) a w := by
  obtain ⟨i0, hi0, hz0, hz1, hz2⟩ := info_parts Try.info2
  obtain ⟨v', w', hrun, r1, r2⟩ := run_append_arg_grows (P := Try.prog) (w := w) 22 o.type 2 i0 (.int .i64 0) 1 8 Try.underlying22 hi0 hz0 hz1 hz2 rfl (by decide) ⟨b, off, none⟩ n n (l.map (Value.int .i64)) (by simp [hn])
    (fun j u hj => by
      rw [add_lit]
      simp only [List.getElem?_map, Option.map_eq_some_iff] at hj
      obtain ⟨z, hz, rfl⟩ := hj
      obtain ⟨hlt, rfl⟩ := List.getElem?_eq_some_iff.1 hz
      exact hl j hlt) ⟨q, r, none⟩ m c (l2.map (Value.int .i64)) (by simp [hm]) (fun j u hj => by
      rw [add_lit]
      simp only [List.getElem?_map, Option.map_eq_some_iff] at hj
      obtain ⟨z, hz, rfl⟩ := hj
      obtain ⟨hlt, rfl⟩ := List.getElem?_eq_some_iff.1 hz
      exact hc j hlt) (by omega) (by unfold maxLen; omega) (by omega)
  have r1' : OwnI w' w.heap.size v' lz := by
    unfold OwnI
    rw [hz9, List.length_append, List.map_append, hn, hm]
    exact r1
  obtain ⟨d, e, rfl⟩ := r1'.slice
  clear hz9
  generalize lz.length = q9 at *
  refine wpList_plain hgd fun K hK' => ?_
  unfold Oper.wp
  simp [execOp, ho, resolve, invoke, builtin, hs, hx, hrun, Result.andThen]
  exact hK' _ _ (hK _ _ _ w' r1' ⟨r2.os, r2.tape, r2.output, r2.size, fun k hk => r2.block k hk (by simp)⟩)
theorem wpl_append_one {ops : Array Oper} {rest : List Oper} {o : Oper} {a : Act} {w : World} {Q : Exit → Act → World → Prop} (hgd : o.guard = none) (s x : Operand)
    (ho : o.op = .call { callee := .builtin .append, args := #[s, x], argTypes := #[22, 22] })
    (B : Nat) (v : Value) (l : List Int) (hs : a.eval s = v) (hown : OwnI w B v l)
    (ad : Addr) (c : Nat) (hx : a.eval x = .slice (some ad) 1 c) (t : Int) (hc : w.cell? ad = some (.int .i64 t)) (hlim : l.length ≤ 100000) (hB : B ≤ w.heap.size)
    (hK : ∀ g n cap w', OwnI w' B (.slice (some ⟨g, 0, none⟩) n cap) (l ++ [t]) → w.grownBy w' v.ownBlock → (v.ownBlock = some g ∨ g = w.heap.size) → wpList Try.prog ops Q rest (a.put o.dst (.slice (some ⟨g, 0, none⟩) n cap)) w') : wpList Try.prog ops Q (o :: rest) a w := by
  refine wpList_plain hgd fun K hK' => ?_
  have h := step_append_one (ops := ops) (Q := Q) (K := K) (E := True) hgd s x ho B v l hs hown ad c hx t hc hlim hB fun g n cap w' h1 h2 h3 => hK' _ _ (hK g n cap w' h1 h2 h3)
  rwa [if_pos (by simp [Region.wanted, hgd])] at h
theorem q_true {n : Int} (h : Hid (Q n)) (w : World) : Calls Try.prog 25 #[.int .i64 n] w fun e w' => e = .returned (.bool true) ∧ w' = w := (q_same n w).mono fun _ _ ⟨h1, h2⟩ => ⟨by rw [h1, qb_yes h.out], h2⟩
theorem q_false {n : Int} (h : Hid (¬ Q n)) (w : World) : Calls Try.prog 25 #[.int .i64 n] w fun e w' => e = .returned (.bool false) ∧ w' = w := (q_same n w).mono fun _ _ ⟨h1, h2⟩ => ⟨by rw [h1, qb_no h.out], h2⟩
def sliceLen : Value → Nat
  | .slice _ n _ => n
  | _ => 0
theorem own_end {W : World} {B : Nat} {d : Option Addr} {n c : Nat} {ts : List Int} {z : Int} (h : OwnI W B (.slice d n c) ts) (hl : ts.length ≤ maxLen) (hz : ts[ts.length - 1]? = some z) : ∃ b o, d = some ⟨b, o, none⟩ ∧ W.cell? ⟨b, o + (ts.length - 1), none⟩ = some (.int .i64 z) := by
  obtain ⟨hlt, rfl⟩ := List.getElem?_eq_some_iff.1 hz
  obtain ⟨_, ad, cp, e, _, k⟩ := h.ints hl
  rcases k with k | ⟨b, o, rfl, k⟩
  · omega
  · simp at e
    exact ⟨b, o, e.1, k _ hlt⟩
theorem own_cells {W : World} {B g n c : Nat} {l : List Int} (h : OwnI W B (.slice (some ⟨g, 0, none⟩) n c) l) : ∀ k (hk : k < l.length), W.cell? ⟨g, k, none⟩ = some (.int .i64 l[k]) := fun k hk => by
  have := World.ownsRow.cells h (g := g) rfl k (.int .i64 l[k]) (by simp [List.getElem?_eq_getElem hk])
  rwa [add_lit, Nat.zero_add] at this
/-- What times answers. -/
def TimesOf (L : List (Int × Int)) (a b : Int) (w : World) (e : Ending) (w' : World) : Prop :=
  ∃ (d : Option Addr) (n c : Nat) (ts : List Int), e = .returned (.slice d n c) ∧ OwnI w' w.heap.size (.slice d n c) ts ∧ Marks L a b ts ∧ ts.length ≤ L.length + 2 ∧ Below w.heap.size w w'
/-- How its loops stand. -/
structure TS (B : Nat) (W1 : World) (l : List Int) (d : Option Addr) (n c : Nat) (ts : List Int) (W : World) : Prop where
  own : OwnI W B (.slice d n c) ts
  len : n = ts.length
  ts : TsI l ts
  hB : Below B W1 W
theorem TS.next {B : Nat} {W1 : World} {l : List Int} {d : Option Addr} {n c : Nat} {ts : List Int} {W W' : World} (h : TS B W1 l d n c ts W) (hb : Below W.heap.size W W') (hs : B ≤ W1.heap.size) : TS B W1 l d n c ts W' :=
  ⟨h.own.below hb, h.len, h.ts, h.hB.trans (hb.mono (Nat.le_trans hs h.hB.size))⟩

set_option maxHeartbeats 4000000 in
theorem times_main (p1 o1 n c1 : Nat) (v2 : Value) (L : List (Int × Int)) (x y : Int) (w : World) (e1 : L.length = n) (hL : Ok L) (k1 : ∀ j (h : j < (L.map Prod.fst).length), w.cell? ⟨p1, o1 + j, none⟩ = some (.int .i64 (L.map Prod.fst)[j])) (hx : Q x) (hy : Q y) (hn0 : 0 < n) (hn : n ≤ 2000) :
    Calls Try.prog 36 #[.agg #[.slice (some ⟨p1, o1, none⟩) n c1, v2], .int .i64 x, .int .i64 y] w (TimesOf L x y w) := by
  have HK1 := Lib.hid k1
  have E1 := Lib.hid e1
  have HQ := Lib.hid (And.intro hL (And.intro hx hy))
  have HB0 : Hid (∀ u v, Below w.heap.size w ((w.alloc u).alloc v)) := fun u v => ((Below.refl _ _).alloc (Nat.le_refl _) _).alloc (by simp) _
  clear k1 e1 hL hx hy
  go_enter Try.func36, Try.ntmps36
  go_wp2_with (at_builtin; refine wpl_append_full rfl _ _ rfl (w.heap.size + 1) 0 2 [x, y] rfl rfl ?c1 p1 o1 n c1 rfl (L.map Prod.fst) ?c2 ?c3 hn0 (by omega) (x :: y :: L.map Prod.fst) rfl ?_)
  case c1 =>
    have h := row2 (w.alloc (.cells #[.slice (some ⟨p1, o1, none⟩) n c1, v2] 24)) x y
    rw [World.size_alloc] at h
    obtain ⟨_, ad, cp, e, _, h⟩ := h
    rcases h with h | ⟨b, o, rfl, h⟩
    · simp at h
    · simp at e
      obtain ⟨⟨rfl, rfl⟩, _⟩ := e
      exact h
  case c2 => rw [List.length_map]; exact E1.out
  case c3 => exact fun j hj => ((HB0.out _ _).cell (p := ⟨p1, o1 + j, none⟩) (cell_lt (HK1.out j hj))).trans (HK1.out j hj)
  intro d nl cl W1 hown hb
  have hil := hown.ints (by rw [List.length_cons, List.length_cons, List.length_map, E1.out]; unfold maxLen; omega)
  have hlen : nl = n + 2 := by have := hown.len; rw [List.length_cons, List.length_cons, List.length_map, E1.out] at this; omega
  obtain ⟨g, og, eg, hcs⟩ : ∃ g og, d = some ⟨g, og, none⟩ ∧ ∀ k (h : k < (x :: y :: L.map Prod.fst).length), W1.cell? ⟨g, og + k, none⟩ = some (.int .i64 (x :: y :: L.map Prod.fst)[k]) := by
    obtain ⟨_, ad, cp, e, _, h⟩ := hil
    rcases h with h | ⟨b, o, rfl, h⟩
    · simp at h
    · simp at e
      exact ⟨b, o, e.1, h⟩
  subst eg
  have hb9 := (HB0.out _ _).trans (hb.mono (by omega))
  have HBW := Lib.hid hb9
  have HC := Lib.hid hcs
  have HLen : Hid ((x :: y :: L.map Prod.fst).length = nl) := by show _ = _; rw [hlen, List.length_cons, List.length_cons, List.length_map, E1.out]
  have hnl : nl ≤ 2002 := by omega
  have hM := Lib.hid fun (ts : List Int) (h : TsI (x :: y :: L.map Prod.fst) ts) (hno : ∀ z ∈ x :: y :: L.map Prod.fst, ¬ Cand ts z) => h.marks hno HQ.out.1 HQ.out.2.1 HQ.out.2.2
  generalize (x :: y :: L.map Prod.fst) = l at *
  clear hown hb hil hcs hb9 hlen HB0 HK1
  go_wp2
  go_loopw [8, 9, 10] (fun o b i wr => ∃ d n c ts, o = .slice d n c ∧ TS W1.heap.size W1 l d n c ts wr) (fun o _ _ _ => l.length + 1 - sliceLen o)
  case atStart => exact ⟨none, 0, 0, [], rfl, own_nil _ _, rfl, TsI.start l, Below.refl _ _⟩
  case round =>
    obtain ⟨d, m, c, ts, rfl, hT⟩ := hrel
    have HT := Lib.hid hT
    clear hT
    go_wp2
    go_loopw [9, 10] (fun b i wi => ∃ (k : Nat) (z : Int), k ≤ nl ∧ i = .int .i64 (k : Int) ∧ b = .int .i64 z ∧ Best l ts k z ∧ TS W1.heap.size W1 l d m c ts wi) (fun _ i _ => nl - (intOf i).toNat)
    case atStart => exact ⟨0, -1, by omega, rfl, rfl, Best.start _ _, HT.out⟩
    case round =>
      obtain ⟨k, z, hk, rfl, rfl, hBest, hT⟩ := hrel
      obtain ⟨zb0, zb1⟩ := hBest.bd
      have HBe := Lib.hid hBest
      have HT := Lib.hid hT
      clear hBest hT
      by_cases hlt : k < nl
      · have j1 : k < l.length := by rw [HLen.out]; exact hlt
        have g0 := HC.out k j1
        have g1 := (HT.out.hB.cell (p := ⟨g, og + k, none⟩) (cell_lt g0)).trans g0
        have hk0 : (0 : Int) ≤ (k : Int) := by omega
        have hlt1 : (k : Int) < (nl : Int) := by omega
        have hskip := fun h => HBe.out.skip j1 h
        have htake := fun h1 h2 => HBe.out.take j1 h1 h2
        generalize l[k] = v at *
        have HSk := Lib.hid hskip
        have HTk := Lib.hid htake
        clear hskip htake g0 j1
        by_cases qv : Q v
        · by_cases hz0 : z < 0
          · have dz := decide_eq_true hz0
            by_cases hts : ts = []
            · subst hts
              have hm0 : m = 0 := HT.out.len
              subst hm0
              have q1 := Lib.hid qv
              have HN := Lib.hid (HTk.out ⟨qv, fun _ h => by cases h⟩ (.inl hz0))
              clear qv hz0
              go_wp2
              go_quiet ((go_at_call 25; first | exact Calls.quiet_of_same (q_true q1 _) | exact Calls.quiet_of_same (q_false q1 _)))
              go_wp2
              go_roundw
              case rel => exact ⟨k + 1, v, by omega, by go_num, rfl, HN.out, HT.out.next (Below.drewN (Below.refl _ _)) (Nat.le_refl _)⟩
              case measure => simp [intOf]; omega
            · have hm0 : 0 < m := by rw [HT.out.len]; exact List.length_pos_iff.2 hts
              have hmb : m ≤ 2002 := by have := HT.out.len; have := HT.out.ts.len; have := HLen.out; omega
              obtain ⟨y0, hy0⟩ : ∃ y0, ts[ts.length - 1]? = some y0 := ⟨_, List.getElem?_eq_getElem (by have := HT.out.len; omega)⟩
              have hlast := rise_last (x := v) HT.out.ts.rise hy0
              obtain ⟨g5, o5, rfl, hcy⟩ := own_end HT.out.own (by have := HT.out.len; unfold maxLen; omega) hy0
              rw [← HT.out.len] at hcy
              have hm1 : ((m : Int) == 0) = false := by simp; omega
              have hw1 : IntKind.i64.wrap ((m : Int) - 1) = (m : Int) - 1 := IntWalk.i64_in _ (by omega)
              have hw2 : (0 : Int) ≤ (m : Int) - 1 := by omega
              have hw5 : (1 : Int) ≤ (m : Int) := by omega
              have hw4 : ((m : Int) - 1).toNat = m - 1 := by omega
              have hw6 : (m : Int) - 1 < (m : Int) := by omega
              have HLa := Lib.hid hlast
              clear hlast hy0 hts
              by_cases hyv : y0 < v
              · have q1 := Lib.hid qv
                have dy := decide_eq_true hyv
                have HN := Lib.hid (HTk.out ⟨qv, HLa.out.2 hyv⟩ (.inl hz0))
                clear qv hyv hz0
                go_wp2
                go_quiet ((go_at_call 25; first | exact Calls.quiet_of_same (q_true q1 _) | exact Calls.quiet_of_same (q_false q1 _)))
                go_wp2
                go_roundw
                case rel => exact ⟨k + 1, v, by omega, by go_num, rfl, HN.out, HT.out.next (Below.drewN (Below.refl _ _)) (Nat.le_refl _)⟩
                case measure => simp [intOf]; omega
              · have q1 := Lib.hid qv
                have dy := decide_eq_false hyv
                have HN := Lib.hid (HSk.out (fun h => absurd (HLa.out.1 h.2) hyv))
                clear qv hyv hz0
                go_wp2
                go_quiet ((go_at_call 25; first | exact Calls.quiet_of_same (q_true q1 _) | exact Calls.quiet_of_same (q_false q1 _)))
                go_wp2
                go_roundw
                case rel => exact ⟨k + 1, z, by omega, by go_num, rfl, HN.out, HT.out.next (Below.drewN (Below.refl _ _)) (Nat.le_refl _)⟩
                case measure => simp [intOf]; omega
          · have dz := decide_eq_false hz0
            by_cases hvz : v < z
            · have dv := decide_eq_true hvz
              by_cases hts : ts = []
              · subst hts
                have hm0 : m = 0 := HT.out.len
                subst hm0
                have q1 := Lib.hid qv
                have HN := Lib.hid (HTk.out ⟨qv, fun _ h => by cases h⟩ (.inr hvz))
                clear qv hz0 hvz
                go_wp2
                go_quiet ((go_at_call 25; first | exact Calls.quiet_of_same (q_true q1 _) | exact Calls.quiet_of_same (q_false q1 _)))
                go_wp2
                go_roundw
                case rel => exact ⟨k + 1, v, by omega, by go_num, rfl, HN.out, HT.out.next (Below.drewN (Below.refl _ _)) (Nat.le_refl _)⟩
                case measure => simp [intOf]; omega
              · have hm0 : 0 < m := by rw [HT.out.len]; exact List.length_pos_iff.2 hts
                have hmb : m ≤ 2002 := by have := HT.out.len; have := HT.out.ts.len; have := HLen.out; omega
                obtain ⟨y0, hy0⟩ : ∃ y0, ts[ts.length - 1]? = some y0 := ⟨_, List.getElem?_eq_getElem (by have := HT.out.len; omega)⟩
                have hlast := rise_last (x := v) HT.out.ts.rise hy0
                obtain ⟨g5, o5, rfl, hcy⟩ := own_end HT.out.own (by have := HT.out.len; unfold maxLen; omega) hy0
                rw [← HT.out.len] at hcy
                have hm1 : ((m : Int) == 0) = false := by simp; omega
                have hw1 : IntKind.i64.wrap ((m : Int) - 1) = (m : Int) - 1 := IntWalk.i64_in _ (by omega)
                have hw2 : (0 : Int) ≤ (m : Int) - 1 := by omega
                have hw5 : (1 : Int) ≤ (m : Int) := by omega
                have hw4 : ((m : Int) - 1).toNat = m - 1 := by omega
                have hw6 : (m : Int) - 1 < (m : Int) := by omega
                have HLa := Lib.hid hlast
                clear hlast hy0 hts
                by_cases hyv : y0 < v
                · have q1 := Lib.hid qv
                  have dy := decide_eq_true hyv
                  have HN := Lib.hid (HTk.out ⟨qv, HLa.out.2 hyv⟩ (.inr hvz))
                  clear qv hyv hz0 hvz
                  go_wp2
                  go_quiet ((go_at_call 25; first | exact Calls.quiet_of_same (q_true q1 _) | exact Calls.quiet_of_same (q_false q1 _)))
                  go_wp2
                  go_roundw
                  case rel => exact ⟨k + 1, v, by omega, by go_num, rfl, HN.out, HT.out.next (Below.drewN (Below.refl _ _)) (Nat.le_refl _)⟩
                  case measure => simp [intOf]; omega
                · have q1 := Lib.hid qv
                  have dy := decide_eq_false hyv
                  have HN := Lib.hid (HSk.out (fun h => absurd (HLa.out.1 h.2) hyv))
                  clear qv hyv hz0 hvz
                  go_wp2
                  go_quiet ((go_at_call 25; first | exact Calls.quiet_of_same (q_true q1 _) | exact Calls.quiet_of_same (q_false q1 _)))
                  go_wp2
                  go_roundw
                  case rel => exact ⟨k + 1, z, by omega, by go_num, rfl, HN.out, HT.out.next (Below.drewN (Below.refl _ _)) (Nat.le_refl _)⟩
                  case measure => simp [intOf]; omega
            · have q1 := Lib.hid qv
              have dv := decide_eq_false hvz
              have HN := Lib.hid (HSk.out (fun _ => ⟨by omega, by omega⟩))
              clear qv hz0 hvz
              go_wp2
              go_quiet ((go_at_call 25; first | exact Calls.quiet_of_same (q_true q1 _) | exact Calls.quiet_of_same (q_false q1 _)))
              go_wp2
              go_roundw
              case rel => exact ⟨k + 1, z, by omega, by go_num, rfl, HN.out, HT.out.next (Below.drewN (Below.refl _ _)) (Nat.le_refl _)⟩
              case measure => simp [intOf]; omega
        · have q1 := Lib.hid qv
          have HN := Lib.hid (HSk.out (fun h => absurd h.1 qv))
          clear qv
          go_wp2
          go_quiet ((go_at_call 25; first | exact Calls.quiet_of_same (q_true q1 _) | exact Calls.quiet_of_same (q_false q1 _)))
          go_wp2
          go_roundw
          case rel => exact ⟨k + 1, z, by omega, by go_num, rfl, HN.out, HT.out.next (Below.drewN (Below.refl _ _)) (Nat.le_refl _)⟩
          case measure => simp [intOf]; omega
      · have hke : k = l.length := by have := HLen.out; omega
        have HBf : Hid (Best l ts l.length z) := by rw [← hke]; exact HBe.out
        clear hke HBe
        by_cases hz0 : z < 0
        · have dz := decide_eq_true hz0
          have HF := Lib.hid (hM.out ts HT.out.ts (HBf.out.none hz0))
          clear hz0
          go_wp2
          go_ret
          exact ⟨d, m, c, ts, rfl, HT.out.own.mono HBW.out.size, HF.out.1, HF.out.2, HBW.out.trans (HT.out.hB.mono HBW.out.size)⟩
        · have dz := decide_eq_false hz0
          have HF := Lib.hid (HBf.out.one hz0)
          clear hz0
          have hmb : ts.length ≤ 100000 := by have := HT.out.ts.len; have := HLen.out; omega
          have hsz := HT.out.hB.size
          have HTa := Lib.hid (HT.out.next ((Below.refl _ _).alloc (Nat.le_refl _) (.cells #[.int .i64 z] 2)) (Nat.le_refl _))
          go_wp2_with (at_builtin; refine wpl_append_one rfl _ _ rfl W1.heap.size (.slice d m c) ts rfl HTa.out.own _ _ rfl z (cell_new1 _ _ _) hmb (by simp; omega) ?_)
          intro g2 n2 cap2 w2 ho hg hat
          have hnx := HTa.out.ts.next HF.out.1 HF.out.2.1 HF.out.2.2
          have hln := ho.len
          have hll := hnx.len
          rw [List.length_append, List.length_singleton] at hln hll
          have hlm := HTa.out.len
          have HN : Hid (TS W1.heap.size W1 l (some ⟨g2, 0, none⟩) n2 cap2 (ts ++ [z]) w2) := ⟨ho, ho.len, hnx, own_below HTa.out.hB HTa.out.own hg (Nat.le_refl _) (by simp; omega)⟩
          clear ho hg hat hnx hsz
          go_wp2
          go_roundw
          case rel => exact ⟨_, _, _, _, rfl, HN.out⟩
          case measure => simp [sliceLen]; omega
theorem times_any {w : World} {v : Value} {L : List (Int × Int)} {x y : Int} (h : Prof w v (L.map Prod.fst) (L.map Prod.snd)) (hL : Ok L) (hx : Q x) (hy : Q y) : Calls Try.prog 36 #[v, .int .i64 x, .int .i64 y] w (TimesOf L x y w) := by
  obtain ⟨v1, v2, rfl, ⟨b1, a1, c1, rfl, _, h1⟩, _⟩ := h
  obtain ⟨u, hu⟩ := hL.zero
  have hpos := List.length_pos_of_mem hu
  have l1 : (L.map Prod.fst).length = L.length := List.length_map _
  rcases h1 with h1 | ⟨p1, o1, rfl, k1⟩
  · omega
  · exact times_main p1 o1 _ c1 v2 L x y w l1.symm hL k1 hx hy (by omega) (by have := hL.le; omega)
end Go.Proofs.Ytoofogmlodfgmaa.gn
