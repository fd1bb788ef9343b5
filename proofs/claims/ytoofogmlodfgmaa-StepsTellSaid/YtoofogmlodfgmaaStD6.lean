/- The document's Turn: its contract. -/
import Derived.Test.YtoofogmlodfgmaaStD5
import Derived.Test.YtoofogmlodfgmaaStL5
namespace Go.Proofs.Ytoofogmlodfgmaa.gn
open Go.RowKit Go.Shelf
open Go.Proofs.Ytoofogmlodfgmaa.sp

/-- How Turn's loop stands. -/
structure TI (w W1 : World) (B lb : Nat) (v1 v2 x1 x2 u1 u2 : Value) (m1 m2 : List Int) (W : World) : Prop where
  bS : Box2 W w.heap.size 24 v1 v2
  bR : Box2 W (w.heap.size + 1) 24 (.slice none 0 0) (.slice none 0 0)
  bO : Box2 W (w.heap.size + 1 + 1) 24 x1 x2
  o1 : OwnI W B u1 m1
  o2 : OwnI W B u2 m2
  ap : Apart u1 u2
  hl : W.heap[lb]? = W1.heap[lb]?
  hlb : w.heap.size + 3 ≤ lb ∧ lb < B
  hB : Below w.heap.size w W
  hs : B ≤ W.heap.size
section
variable {w W1 W W' : World} {B lb : Nat} {v1 v2 x1 x2 u1 u2 : Value} {m1 m2 : List Int}
theorem TI.next (h : TI w W1 B lb v1 v2 x1 x2 u1 u2 m1 m2 W) (hb : Below W.heap.size W W') : TI w W1 B lb v1 v2 x1 x2 u1 u2 m1 m2 W' :=
  ⟨box2_next hb h.bS, box2_next hb h.bR, box2_next hb h.bO, h.o1.below hb, h.o2.below hb, h.ap, (hb.block lb (by have := h.hlb; have := h.hs; omega)).trans h.hl, h.hlb, h.hB.trans (hb.mono h.hB.size), Nat.le_trans h.hs hb.size⟩
theorem TI.lcell (h : TI w W1 B lb v1 v2 x1 x2 u1 u2 m1 m2 W) {j : Nat} {x : Value} (hc : W1.cell? ⟨lb, j, none⟩ = some x) : W.cell? ⟨lb, j, none⟩ = some x := (World.cell?_of_block (a := ⟨lb, j, none⟩) h.hl).trans hc
theorem TI.sz (h : TI w W1 B lb v1 v2 x1 x2 u1 u2 m1 m2 W) : w.heap.size + 3 < B := by have := h.hlb; omega
theorem TI.far1 (h : TI w W1 B lb v1 v2 x1 x2 u1 u2 m1 m2 W) {k : Nat} (hk : k < B) : some k ≠ u1.ownBlock := fun e => by have := (h.o1.block k e.symm).1; omega
theorem TI.far2 (h : TI w W1 B lb v1 v2 x1 x2 u1 u2 m1 m2 W) {k : Nat} (hk : k < B) : some k ≠ u2.ownBlock := fun e => by have := (h.o2.block k e.symm).1; omega
theorem TI.grow1 (h : TI w W1 B lb v1 v2 x1 x2 u1 u2 m1 m2 W) {g n cap : Nat} {m1' : List Int} (hg : W.grownBy W' u1.ownBlock) (ho : OwnI W' B (.slice (some ⟨g, 0, none⟩) n cap) m1') (hat : u1.ownBlock = some g ∨ g = W.heap.size) :
    TI w W1 B lb v1 v2 x1 x2 (.slice (some ⟨g, 0, none⟩) n cap) u2 m1' m2 W' := by
  have hz := h.sz
  have hs := h.hs
  have hlb := h.hlb
  refine ⟨h.bS.kept hg (h.far1 (by omega)), h.bR.kept hg (h.far1 (by omega)), h.bO.kept hg (h.far1 (by omega)), ho, h.o2.kept fun k hk => hg.block k (h.o2.block k hk).2 (fun e => h.ap k e.symm hk), fun k hk hk2 => ?_,
    (hg.block lb (by omega) (h.far1 (by omega))).trans h.hl, hlb, own_below h.hB h.o1 hg (by omega) h.hB.size, Nat.le_trans hs hg.size⟩
  obtain rfl : g = k := by simpa [Value.ownBlock] using hk
  rcases hat with e | e
  · exact h.ap _ e hk2
  · have := (h.o2.block _ hk2).2; omega
theorem TI.grow2 (h : TI w W1 B lb v1 v2 x1 x2 u1 u2 m1 m2 W) {g n cap : Nat} {m2' : List Int} (hg : W.grownBy W' u2.ownBlock) (ho : OwnI W' B (.slice (some ⟨g, 0, none⟩) n cap) m2') (hat : u2.ownBlock = some g ∨ g = W.heap.size) :
    TI w W1 B lb v1 v2 x1 x2 u1 (.slice (some ⟨g, 0, none⟩) n cap) m1 m2' W' := by
  have hz := h.sz
  have hs := h.hs
  have hlb := h.hlb
  refine ⟨h.bS.kept hg (h.far2 (by omega)), h.bR.kept hg (h.far2 (by omega)), h.bO.kept hg (h.far2 (by omega)), h.o1.kept fun k hk => hg.block k (h.o1.block k hk).2 (fun e => h.ap k hk e.symm), ho, fun k hk hk2 => ?_,
    (hg.block lb (by omega) (h.far2 (by omega))).trans h.hl, hlb, own_below h.hB h.o2 hg (by omega) h.hB.size, Nat.le_trans hs hg.size⟩
  obtain rfl : g = k := by simpa [Value.ownBlock] using hk2
  rcases hat with e | e
  · exact h.ap _ hk e
  · have := (h.o1.block _ hk).2; omega
theorem TI.set1 (h : TI w W1 B lb v1 v2 x1 x2 u1 u2 m1 m2 W) (a : Value) : TI w W1 B lb v1 v2 a x2 u1 u2 m1 m2 (W.setCell ⟨w.heap.size + 1 + 1, 0, none⟩ a) := by
  have hz := h.sz
  have hlb := h.hlb
  exact ⟨(Below.heap_setCell _ _ _ _ (by first | (simp; done) | (simp; omega))).trans h.bS, (Below.heap_setCell _ _ _ _ (by simp)).trans h.bR, h.bO.setA a, own_set h.o1 (by omega) 0 _, own_set h.o2 (by omega) 0 _, h.ap, (Below.heap_setCell _ _ _ _ (by first | (simp; done) | (simp; omega))).trans h.hl, hlb,
    h.hB.setCell (p := ⟨w.heap.size + 1 + 1, 0, none⟩) (by first | (simp; done) | (simp; omega)) _, by have := h.hs; simpa [World.setCell] using this⟩
theorem TI.set2 (h : TI w W1 B lb v1 v2 x1 x2 u1 u2 m1 m2 W) (a : Value) : TI w W1 B lb v1 v2 x1 a u1 u2 m1 m2 (W.setCell ⟨w.heap.size + 1 + 1, 1, none⟩ a) := by
  have hz := h.sz
  have hlb := h.hlb
  exact ⟨(Below.heap_setCell _ _ _ _ (by first | (simp; done) | (simp; omega))).trans h.bS, (Below.heap_setCell _ _ _ _ (by simp)).trans h.bR, h.bO.setB a, own_set h.o1 (by omega) 1 _, own_set h.o2 (by omega) 1 _, h.ap, (Below.heap_setCell _ _ _ _ (by first | (simp; done) | (simp; omega))).trans h.hl, hlb,
    h.hB.setCell (p := ⟨w.heap.size + 1 + 1, 1, none⟩) (by first | (simp; done) | (simp; omega)) _, by have := h.hs; simpa [World.setCell] using this⟩
end
theorem pic_succ {ts : List Int} {f : Int → Int} {k : Nat} (hk : k < ts.length) : joins (pic (ts.take (k + 1)) f) = join (joins (pic (ts.take k) f)) (ts[k], f ts[k]) := by
  rw [List.take_succ_eq_append_getElem hk, ← joins_snoc]
  unfold pic
  rw [List.map_append]; rfl
theorem lastv_end : ∀ (M : List (Int × Int)) (d : Int), M ≠ [] → (M.map Prod.snd)[(M.map Prod.snd).length - 1]? = some (lastv d M)
  | [], _, h => absurd rfl h
  | [p], _, _ => rfl
  | p :: q :: M, d, _ => lastv_end (q :: M) p.2 (by simp)
theorem joins_le (ts : List Int) (f : Int → Int) (k : Nat) (hk : k ≤ ts.length) : (joins (pic (ts.take k) f)).length ≤ k := by
  have := (joins_sub (L := pic (ts.take k) f)).2
  unfold pic at this ⊢
  rw [List.length_map, List.length_take] at this
  omega
/-- How its rows stand. -/
def TRel (w W1 : World) (B lb : Nat) (v1 v2 : Value) (f : Int → Int) (ts : List Int) (k : Nat) (W : World) : Prop :=
  ∃ a1 n1 c1 a2 n2 c2, n1 = (joins (pic (ts.take k) f)).length ∧ n2 = n1 ∧ TI w W1 B lb v1 v2 (.slice a1 n1 c1) (.slice a2 n2 c2) (.slice a1 n1 c1) (.slice a2 n2 c2) ((joins (pic (ts.take k) f)).map Prod.fst) ((joins (pic (ts.take k) f)).map Prod.snd) W

set_option maxRecDepth 20000 in
set_option maxHeartbeats 8000000 in
theorem dturn_any {w : World} {v : Value} {L : List (Int × Int)} {x y δ : Int} (h : Prof w v (L.map Prod.fst) (L.map Prod.snd)) (hL : Ok L) (hx : Q x) (hy : Q y) (hd0 : -1099511627776 ≤ δ) (hd1 : δ ≤ 1099511627776) (hl : L.length ≤ 1998) : Calls Try.prog 21 #[v, .int .i64 x, .int .i64 y, .int .i64 δ] w (Turns L x y δ w) := by
  have HT := Lib.hid fun (W : World) (hW : Below w.heap.size w W) => times_any (h.below hW (Nat.le_refl _)) hL hx hy
  have HP := Lib.hid fun (W : World) (hW : Below w.heap.size w W) => h.below hW (Nat.le_refl _)
  obtain ⟨v1, v2, rfl, _, _⟩ := h
  have HQ := Lib.hid (And.intro hL (And.intro hx (And.intro hy hl)))
  obtain ⟨W0, hW0⟩ : ∃ W0, ((w.alloc (.cells #[v1, v2] 24)).alloc (.cells #[.slice none 0 0, .slice none 0 0] 24)).alloc (.cells #[.slice none 0 0, .slice none 0 0] 24) = W0 := ⟨_, rfl⟩
  have hb0 : Below w.heap.size w W0 := by rw [← hW0]; exact (((Below.refl _ _).alloc (Nat.le_refl _) _).alloc (by simp) _).alloc (by simp; omega) _
  have bS : Box2 W0 w.heap.size 24 v1 v2 := by rw [← hW0]; exact ((Box2.new w _ _ _).alloc _).alloc _
  have bR : Box2 W0 (w.heap.size + 1) 24 (.slice none 0 0) (.slice none 0 0) := by rw [← hW0]; have := (Box2.new (w.alloc (.cells #[v1, v2] 24)) 24 (.slice none 0 0) (.slice none 0 0)).alloc (.cells #[.slice none 0 0, .slice none 0 0] 24); rwa [World.size_alloc] at this
  have bO : Box2 W0 (w.heap.size + 1 + 1) 24 (.slice none 0 0) (.slice none 0 0) := by rw [← hW0]; have := Box2.new ((w.alloc (.cells #[v1, v2] 24)).alloc (.cells #[.slice none 0 0, .slice none 0 0] 24)) 24 (.slice none 0 0) (.slice none 0 0); rwa [World.size_alloc, World.size_alloc] at this
  have hsz : W0.heap.size = w.heap.size + 3 := by rw [← hW0]; simp
  have HW0 := Lib.hid hW0
  have HB0 := Lib.hid hb0
  have HBx := Lib.hid (And.intro bS (And.intro bR (And.intro bO hsz)))
  clear hL hx hy hl hb0 bS bR bO hsz hW0
  go_enter Try.func21, Try.ntmps21
  go_wp2_with fail
  rw [HW0.out]
  refine (HT.out _ HB0.out).mono ?_
  rintro e w1 ⟨d, n, c, ts, rfl, hown, hM, hlen, hb1⟩
  have hmax : ts.length ≤ maxLen := by have := HQ.out.2.2.2; unfold maxLen; omega
  have hpos : 0 < ts.length := List.length_pos_of_mem hM.from_
  have hnl := hown.len
  have hn : n ≤ 2000 := by have := HQ.out.2.2.2; omega
  obtain ⟨p, o, rfl, hcs⟩ := own_cells_any hown hmax hpos
  have hblk := hown.block p rfl
  have hT0 : TRel w w1 w1.heap.size p v1 v2 (more L x y δ) ts 0 w1 := by
    refine ⟨none, 0, 0, none, 0, 0, rfl, rfl, box2_next hb1 HBx.out.1, box2_next hb1 HBx.out.2.1, box2_next hb1 HBx.out.2.2.1, own_nil _ _, own_nil _ _, (fun k hk => by cases hk), rfl, ⟨by have := HBx.out.2.2.2; omega, hblk.2⟩, HB0.out.trans (hb1.mono HB0.out.size), Nat.le_refl _⟩
  have HT0 := Lib.hid hT0
  have HC := Lib.hid hcs
  have HM := Lib.hid hM
  have HN := Lib.hid hnl
  have HLn := Lib.hid hlen
  clear hown hM hlen hb1 hmax hpos hnl hcs hblk hT0 HBx HB0 HT HW0
  go_wp2
  go_loopw [12] (fun i wr => ∃ k : Nat, k ≤ n ∧ i = .int .i64 (k : Int) ∧ (∀ t ∈ ts.take k, Q (more L x y δ t)) ∧ TRel w w1 w1.heap.size p v1 v2 (more L x y δ) ts k wr) (fun i _ => n - (intOf i).toNat)
  case atStart => exact ⟨0, by omega, rfl, fun t ht => by simp at ht, HT0.out⟩
  case round =>
    obtain ⟨k, hk, rfl, hqs, a1, n1, c1, a2, n2, c2, hn1, rfl, hTI⟩ := hrel
    have HQs := Lib.hid hqs
    have HN1 := Lib.hid hn1
    have HI := Lib.hid hTI
    clear hqs
    by_cases hlt : k < n
    · have j1 : k < ts.length := by rw [← HN.out]; exact hlt
      have g0 := HC.out k j1
      have g1 := hTI.lcell g0
      have s0 := hTI.bS.cell0
      have s1 := hTI.bS.cell1
      have hk0 : (0 : Int) ≤ (k : Int) := by omega
      have hlt1 : (k : Int) < (n : Int) := by omega
      have hqt : Q ts[k] := HM.out.quant _ (List.getElem_mem j1)
      have hmem : ts[k] ∈ ts := List.getElem_mem j1
      have hps := pic_succ (f := more L x y δ) j1
      have hml := joins_le ts (more L x y δ) k (by omega)
      have hqn : Q (more L x y δ ts[k]) → ∀ t ∈ ts.take (k + 1), Q (more L x y δ t) := fun hq t ht => by
        rcases mem_take_succ j1 ht with ht | rfl
        · exact HQs.out t ht
        · exact hq
      have HG0 := Lib.hid g0
      clear g0 hn1 hTI
      generalize ts[k] = t at *
      have HPs := Lib.hid hps
      have HQt := Lib.hid hqt
      have HMem := Lib.hid hmem
      have HQn := Lib.hid hqn
      have hmo : more L x y δ t = sp.val L t + if x ≤ t ∧ t < y then δ else 0 := rfl
      have hq0 := (HQ.out.1.val hqt.1).1
      have hq1 := (HQ.out.1.val hqt.1).2
      have HA := Lib.hid fun (W : World) (hW : Below w.heap.size w W) => dat_any (t := t) (HP.out W hW) HQ.out.1 HQt.out.1
      generalize hqv : sp.val L t = q at *
      clear hps hqt hmem hqn hqv
      have HMo := Lib.hid hmo
      clear hmo
      have HId := Lib.hid (HI.out.next (Below.refl _ _).drew)
      go_wp2
      go_region_held3 (fun W => W.cell? ⟨w.heap.size, 0, none⟩ = some v1 ∧ W.cell? ⟨w.heap.size, 1, none⟩ = some v2 ∧ W.cell? ⟨p, o + k, none⟩ = some (.int .i64 t)) (go_keep)
        ((go_at_call 23; ((with_reducible refine (HA.out _ HId.out.hB).mono ?_); rintro e w2 ⟨rfl, hb2⟩; have HI2 := Lib.hid (HId.out.next hb2); have s0 := HI2.out.bS.cell0; have s1 := HI2.out.bS.cell1; have g1 := HI2.out.lcell HG0.out; clear hb2)))
      clear HId HI HA
      obtain ⟨inb, hinb⟩ : ∃ inb : Bool, inb = (decide (x ≤ t) && decide (t < y)) := ⟨_, rfl⟩
      have HIn := Lib.hid hinb
      clear hinb
      go_upto_region 7 with fail
      go_cut [43] (fun s43 wx => s43 = .bool inb ∧ TI w w1 w1.heap.size p v1 v2 (.slice a1 n2 c1) (.slice a2 n2 c2) (.slice a1 n2 c1) (.slice a2 n2 c2) ((joins (pic (ts.take k) (more L x y δ))).map Prod.fst) ((joins (pic (ts.take k) (more L x y δ))).map Prod.snd) wx)
      case first =>
        by_cases h1 : x ≤ t
        · have d1 := decide_eq_true h1
          by_cases h2 : t < y
          · have d2 := decide_eq_true h2
            have HE : Hid (inb = true) := Lib.hid (by rw [HIn.out, d1, d2]; rfl)
            clear h1 h2
            go_wp2_with fail
            go_meet
            exact ⟨by rw [HE.out], HI2.out⟩
          · have d2 := decide_eq_false h2
            have HE : Hid (inb = false) := Lib.hid (by rw [HIn.out, d1, d2]; rfl)
            clear h1 h2
            go_wp2_with fail
            go_meet
            exact ⟨by rw [HE.out], HI2.out⟩
        · have d1 := decide_eq_false h1
          have HE : Hid (inb = false) := Lib.hid (by rw [HIn.out, d1]; rfl)
          clear h1
          go_wp2_with fail
          go_meet
          exact ⟨by rw [HE.out], HI2.out⟩
      case rest =>
      obtain ⟨rfl, hI3⟩ := hcut
      have HI3 := Lib.hid hI3
      clear hI3 HI2 s0 s1 g1
      obtain ⟨ev, hev⟩ : ∃ ev, ev = more L x y δ t := ⟨_, rfl⟩
      have HEv := Lib.hid hev
      clear hev
      go_upto_if 43 with fail
      go_cut [13] (fun s13 wx => s13 = .int .i64 ev ∧ TI w w1 w1.heap.size p v1 v2 (.slice a1 n2 c1) (.slice a2 n2 c2) (.slice a1 n2 c1) (.slice a2 n2 c2) ((joins (pic (ts.take k) (more L x y δ))).map Prod.fst) ((joins (pic (ts.take k) (more L x y δ))).map Prod.snd) wx)
      case first =>
        cases inb with
        | true =>
          have e0 := HEv.out
          have e1 := HIn.out
          rw [eq_comm, Bool.and_eq_true, decide_eq_true_iff, decide_eq_true_iff] at e1
          rw [HMo.out, if_pos e1] at e0
          have HE := Lib.hid e0
          clear e0 e1
          go_wp2_with fail
          go_meet
          exact ⟨by rw [HE.out], HI3.out⟩
        | false =>
          have e0 := HEv.out
          have e1 := HIn.out
          rw [HMo.out, if_neg (fun h => by rw [decide_eq_true h.1, decide_eq_true h.2] at e1; cases e1), Int.add_zero] at e0
          have HE := Lib.hid e0
          clear e0 e1
          go_wp2_with fail
          go_meet
          exact ⟨by rw [HE.out], HI3.out⟩
      case rest =>
      obtain ⟨rfl, hI4⟩ := hcut
      have o0 := hI4.bO.cell0
      have o1 := hI4.bO.cell1
      have r0 := hI4.bR.cell0
      have r1 := hI4.bR.cell1
      have f0 := hI4.bR.free 0
      have f1 := hI4.bR.free 1
      have HI4 := Lib.hid hI4
      clear hI4 HI3 HMo HIn
      by_cases hqe : Q ev
      · have hqp := HQn.out (by rw [← HEv.out]; exact hqe)
        have HQ2 := Lib.hid hqp
        have HQe := Lib.hid hqe
        clear hqp hqe r0 r1 f0 f1
        go_wp2_with fail
        refine (q_true HQe _).mono ?_
        rintro e w5 ⟨rfl, rfl⟩
        have hmd : n2 = (joins (pic (ts.take k) (more L x y δ))).length := HN1.out
        by_cases hm0 : n2 = 0
        · have hMe : (joins (pic (ts.take k) (more L x y δ))) = [] := List.eq_nil_of_length_eq_zero (by omega)
          have HJ : Hid (joins (pic (ts.take (k + 1)) (more L x y δ)) = (joins (pic (ts.take k) (more L x y δ))) ++ [(t, ev)]) := by
            show _ = _
            rw [HPs.out, ← HEv.out, hMe]
            exact if_neg (fun h => by have := HQe.out.1; have h2 : (-1 : Int) = ev := h; omega)
          have hm1 : ((n2 : Int) == 0) = true := by simp; omega
          clear hMe hm0 hmd
          go_wp2
          refine wp_region_held_drew (S := (fun W => W.cell? ⟨p, o + k, none⟩ = some (.int .i64 t))) (by kernel_rfl) (by exact TI.lcell (HI4.out.next (Below.refl _ _).drew) HG0.out) (fun hHeld => ?_)
          have R := Lib.hid (HI4.out.next (Below.refl _ _).drew)
          generalize HV : World.drew _ = V0 at *
          clear HV
          refine wpAnyH_take (i := 0) (v := ?_) (ata at0) (by kernel_rfl) (by kernel_rfl) (by kernel_rfl) (fun _ _ _ h => h) (Or.inl ⟨by rfl, ?_⟩) (by assumption) ?_
          rotate_left
          · (intro w hSw; (try dsimp only at hSw); go_simp; (first | done | with_reducible rfl))
          try simp only [Act.put, List.setIfInBounds_toArray, List.set_cons_zero, List.set_cons_succ]
          refine wpAnyH_take (i := 2) (v := ?_) (ata (atS (atS at0))) (by kernel_rfl) (by kernel_rfl) (by kernel_rfl) (fun _ _ _ h => h) (Or.inl ⟨by rfl, ?_⟩) (by assumption) ?_
          rotate_left
          · (intro w hSw; (try dsimp only at hSw); go_simp; (first | done | with_reducible rfl))
          try simp only [Act.put, List.setIfInBounds_toArray, List.set_cons_zero, List.set_cons_succ]
          refine wpAnyH_take (i := 3) (v := ?_) (ata (atS (atS (atS at0)))) (by kernel_rfl) (by kernel_rfl) (by kernel_rfl) (fun _ _ _ h => h) (Or.inl ⟨by rfl, ?_⟩) (by assumption) ?_
          rotate_left
          · (intro w hSw; (try dsimp only at hSw); go_simp; (first | done | with_reducible rfl))
          try simp only [Act.put, List.setIfInBounds_toArray, List.set_cons_zero, List.set_cons_succ]
          refine wpAnyH_take (i := 4) (v := ?_) (ata (atS (atS (atS (atS at0))))) (by kernel_rfl) (by kernel_rfl) (by kernel_rfl) (fun _ _ _ h => h) (Or.inl ⟨by rfl, ?_⟩) (by assumption) ?_
          rotate_left
          · (intro w hSw; (try dsimp only at hSw); go_simp; (first | done | with_reducible rfl))
          try simp only [Act.put, List.setIfInBounds_toArray, List.set_cons_zero, List.set_cons_succ]
          refine wpAnyH_take (i := 5) (v := ?_) (ata (atS (atS (atS (atS (atS at0)))))) (by kernel_rfl) (by kernel_rfl) (by kernel_rfl) (fun _ _ _ h => h) (Or.inl ⟨by rfl, ?_⟩) (by assumption) ?_
          rotate_left
          · (intro w hSw; (try dsimp only at hSw); go_simp; (first | done | with_reducible rfl))
          try simp only [Act.put, List.setIfInBounds_toArray, List.set_cons_zero, List.set_cons_succ]
          refine wpAnyH_ready (rs := [1, 6]) (by kernel_rfl) (by simp) ?_
          refine AllReadyH.cons (ata (atS at0)) (fun K hK => ?_) ?_
          · have x9 := R.out.bO.cell0
            go_simp
            clear x9
            refine hK.out _ _ (by exact TI.lcell R.out HG0.out) (fun hHeld => ?_)
            clear hK K
            try simp only [Act.put, List.setIfInBounds_toArray, List.set_cons_zero, List.set_cons_succ]
            refine wpAnyH_ready (rs := [6]) (by kernel_rfl) (by simp) ?_
            refine AllReadyH.cons (ata (atS (atS (atS (atS (atS (atS at0))))))) (fun K hK => ?_) ?_
            · go_simp
              refine hK.out _ _ (by exact TI.lcell (R.out.next ((Below.refl _ _).alloc (Nat.le_refl _) _)) HG0.out) (fun hHeld => ?_)
              clear hK K
              try simp only [Act.put, List.setIfInBounds_toArray, List.set_cons_zero, List.set_cons_succ]
              have R := Lib.hid (R.out.next ((Below.refl _ _).alloc (Nat.le_refl _) (.cells #[.int .i64 t] 2)))
              have hc9 := cell_new1 V0 (.int .i64 t) 2
              generalize V0.alloc (.cells #[.int .i64 t] 2) = V1 at *
              generalize V0.heap.size = gc at *
              refine wpAnyH_ready (rs := [7]) (by kernel_rfl) (by simp) ?_
              refine AllReadyH.cons (ata (atS (atS (atS (atS (atS (atS (atS at0)))))))) (fun K hK => ?_) ?_
              · refine step_append_one rfl _ _ rfl w1.heap.size (.slice a1 n2 c1) ((joins (pic (ts.take k) (more L x y δ))).map Prod.fst) rfl R.out.o1 _ _ rfl t hc9 (by rw [List.length_map]; omega) R.out.hs ?_
                intro g9 n9 e9 V2 ho hg hat
                have R := Lib.hid (R.out.grow1 hg ho hat)
                have HN9 := Lib.hid ho.len
                clear ho hg hat hc9
                refine hK.out _ _ (by exact TI.lcell R.out HG0.out) (fun hHeld => ?_)
                clear hK K
                try simp only [Act.put, List.setIfInBounds_toArray, List.set_cons_zero, List.set_cons_succ]
                refine wpAnyH_take (i := 8) (v := ?_) (ata (atS (atS (atS (atS (atS (atS (atS (atS at0))))))))) (by kernel_rfl) (by kernel_rfl) (by kernel_rfl) (fun _ _ _ h => h) (Or.inl ⟨by rfl, ?_⟩) (by assumption) ?_
                rotate_left
                · (intro w hSw; (try dsimp only at hSw); go_simp; (first | done | with_reducible rfl))
                try simp only [Act.put, List.setIfInBounds_toArray, List.set_cons_zero, List.set_cons_succ]
                refine wpAnyH_ready (rs := [9]) (by kernel_rfl) (by simp) ?_
                refine AllReadyH.cons (ata (atS (atS (atS (atS (atS (atS (atS (atS (atS at0)))))))))) (fun K hK => ?_) ?_
                · have x9 := R.out.bO.cell0
                  have f9 := R.out.bO.free 0
                  go_simp
                  have R := Lib.hid (R.out.set1 (.slice (some ⟨g9, 0, none⟩) n9 e9))
                  clear x9 f9
                  refine hK.out _ _ (by exact TI.lcell R.out HG0.out) (fun hHeld => ?_)
                  clear hK K
                  try simp only [Act.put, List.setIfInBounds_toArray, List.set_cons_zero, List.set_cons_succ]
                  generalize V2.setCell ⟨w.heap.size + 1 + 1, 0, none⟩ (.slice (some ⟨g9, 0, none⟩) n9 e9) = V3 at *
                  refine wpAnyH_done (by kernel_rfl) ?_ _
                  have z0 := R.out.bO.cell0
                  have z1 := R.out.bO.cell1
                  have lo9 := R.out.bO.lt
                  have R2 := Lib.hid (R.out.next ((Below.refl _ _).alloc (Nat.le_refl _) (.cells #[.int .i64 ev] 2)))
                  have hsz9 := R2.out.hs
                  go_wp2_with (at_builtin; refine wpl_append_one rfl _ _ rfl w1.heap.size (.slice a2 n2 c2) ((joins (pic (ts.take k) (more L x y δ))).map Prod.snd) rfl R2.out.o2 _ _ rfl ev (cell_new1 _ _ _) (by rw [List.length_map]; omega) hsz9 ?_)
                  intro g8 n8 e8 W8 ho hg hat
                  have R3 := Lib.hid (R2.out.grow2 hg ho (by rw [World.size_alloc]; exact hat))
                  have HN8 := Lib.hid ho.len
                  clear ho hg hat z0 z1 lo9 hsz9
                  have z0 := R3.out.bO.cell0
                  have z1 := R3.out.bO.cell1
                  have z2 := R3.out.bO.free 1
                  go_wp2
                  go_roundw
                  case rel =>
                    refine ⟨k + 1, by omega, by go_num, HQ2.out, some ⟨g9, 0, none⟩, n9, e9, some ⟨g8, 0, none⟩, n8, e8, ?_, ?_, ?_⟩
                    · rw [HJ.out, HN9.out]; simp
                    · rw [HN9.out, HN8.out]; simp
                    · rw [HJ.out, List.map_append, List.map_append]; exact R3.out.set2 _
                  case measure => simp [intOf]; omega
                exact AllReadyH.nil
              exact AllReadyH.nil
            exact AllReadyH.nil
          refine AllReadyH.cons (ata (atS (atS (atS (atS (atS (atS at0))))))) (fun K hK => ?_) ?_
          · go_simp
            refine hK.out _ _ (by exact TI.lcell (R.out.next ((Below.refl _ _).alloc (Nat.le_refl _) _)) HG0.out) (fun hHeld => ?_)
            clear hK K
            try simp only [Act.put, List.setIfInBounds_toArray, List.set_cons_zero, List.set_cons_succ]
            have R := Lib.hid (R.out.next ((Below.refl _ _).alloc (Nat.le_refl _) (.cells #[.int .i64 t] 2)))
            have hc9 := cell_new1 V0 (.int .i64 t) 2
            generalize V0.alloc (.cells #[.int .i64 t] 2) = V1 at *
            generalize V0.heap.size = gc at *
            refine wpAnyH_ready (rs := [1]) (by kernel_rfl) (by simp) ?_
            refine AllReadyH.cons (ata (atS at0)) (fun K hK => ?_) ?_
            · have x9 := R.out.bO.cell0
              go_simp
              clear x9
              refine hK.out _ _ (by exact TI.lcell R.out HG0.out) (fun hHeld => ?_)
              clear hK K
              try simp only [Act.put, List.setIfInBounds_toArray, List.set_cons_zero, List.set_cons_succ]
              refine wpAnyH_ready (rs := [7]) (by kernel_rfl) (by simp) ?_
              refine AllReadyH.cons (ata (atS (atS (atS (atS (atS (atS (atS at0)))))))) (fun K hK => ?_) ?_
              · refine step_append_one rfl _ _ rfl w1.heap.size (.slice a1 n2 c1) ((joins (pic (ts.take k) (more L x y δ))).map Prod.fst) rfl R.out.o1 _ _ rfl t hc9 (by rw [List.length_map]; omega) R.out.hs ?_
                intro g9 n9 e9 V2 ho hg hat
                have R := Lib.hid (R.out.grow1 hg ho hat)
                have HN9 := Lib.hid ho.len
                clear ho hg hat hc9
                refine hK.out _ _ (by exact TI.lcell R.out HG0.out) (fun hHeld => ?_)
                clear hK K
                try simp only [Act.put, List.setIfInBounds_toArray, List.set_cons_zero, List.set_cons_succ]
                refine wpAnyH_take (i := 8) (v := ?_) (ata (atS (atS (atS (atS (atS (atS (atS (atS at0))))))))) (by kernel_rfl) (by kernel_rfl) (by kernel_rfl) (fun _ _ _ h => h) (Or.inl ⟨by rfl, ?_⟩) (by assumption) ?_
                rotate_left
                · (intro w hSw; (try dsimp only at hSw); go_simp; (first | done | with_reducible rfl))
                try simp only [Act.put, List.setIfInBounds_toArray, List.set_cons_zero, List.set_cons_succ]
                refine wpAnyH_ready (rs := [9]) (by kernel_rfl) (by simp) ?_
                refine AllReadyH.cons (ata (atS (atS (atS (atS (atS (atS (atS (atS (atS at0)))))))))) (fun K hK => ?_) ?_
                · have x9 := R.out.bO.cell0
                  have f9 := R.out.bO.free 0
                  go_simp
                  have R := Lib.hid (R.out.set1 (.slice (some ⟨g9, 0, none⟩) n9 e9))
                  clear x9 f9
                  refine hK.out _ _ (by exact TI.lcell R.out HG0.out) (fun hHeld => ?_)
                  clear hK K
                  try simp only [Act.put, List.setIfInBounds_toArray, List.set_cons_zero, List.set_cons_succ]
                  generalize V2.setCell ⟨w.heap.size + 1 + 1, 0, none⟩ (.slice (some ⟨g9, 0, none⟩) n9 e9) = V3 at *
                  refine wpAnyH_done (by kernel_rfl) ?_ _
                  have z0 := R.out.bO.cell0
                  have z1 := R.out.bO.cell1
                  have lo9 := R.out.bO.lt
                  have R2 := Lib.hid (R.out.next ((Below.refl _ _).alloc (Nat.le_refl _) (.cells #[.int .i64 ev] 2)))
                  have hsz9 := R2.out.hs
                  go_wp2_with (at_builtin; refine wpl_append_one rfl _ _ rfl w1.heap.size (.slice a2 n2 c2) ((joins (pic (ts.take k) (more L x y δ))).map Prod.snd) rfl R2.out.o2 _ _ rfl ev (cell_new1 _ _ _) (by rw [List.length_map]; omega) hsz9 ?_)
                  intro g8 n8 e8 W8 ho hg hat
                  have R3 := Lib.hid (R2.out.grow2 hg ho (by rw [World.size_alloc]; exact hat))
                  have HN8 := Lib.hid ho.len
                  clear ho hg hat z0 z1 lo9 hsz9
                  have z0 := R3.out.bO.cell0
                  have z1 := R3.out.bO.cell1
                  have z2 := R3.out.bO.free 1
                  go_wp2
                  go_roundw
                  case rel =>
                    refine ⟨k + 1, by omega, by go_num, HQ2.out, some ⟨g9, 0, none⟩, n9, e9, some ⟨g8, 0, none⟩, n8, e8, ?_, ?_, ?_⟩
                    · rw [HJ.out, HN9.out]; simp
                    · rw [HN9.out, HN8.out]; simp
                    · rw [HJ.out, List.map_append, List.map_append]; exact R3.out.set2 _
                  case measure => simp [intOf]; omega
                exact AllReadyH.nil
              exact AllReadyH.nil
            exact AllReadyH.nil
          exact AllReadyH.nil
        · have hMe : (joins (pic (ts.take k) (more L x y δ))) ≠ [] := fun h => hm0 (by rw [hmd, h]; rfl)
          have hle := lastv_end _ (-1) hMe
          obtain ⟨g5, o5, rfl, hcy⟩ := own_end HI4.out.o2 (by rw [List.length_map]; unfold maxLen; omega) hle
          rw [List.length_map, ← hmd] at hcy
          have HLv := Lib.hid (rfl : lastv (-1) (joins (pic (ts.take k) (more L x y δ))) = lastv (-1) (joins (pic (ts.take k) (more L x y δ))))
          generalize hlv : lastv (-1) (joins (pic (ts.take k) (more L x y δ))) = y0 at *
          have hm1 : ((n2 : Int) == 0) = false := by simp; omega
          have hw1 : IntKind.i64.wrap ((n2 : Int) - 1) = (n2 : Int) - 1 := IntWalk.i64_in _ (by omega)
          have hw2 : (0 : Int) ≤ (n2 : Int) - 1 := by omega
          have hw5 : (1 : Int) ≤ (n2 : Int) := by omega
          have hw4 : ((n2 : Int) - 1).toNat = n2 - 1 := by omega
          have hw6 : (n2 : Int) - 1 < (n2 : Int) := by omega
          have HLvv := Lib.hid hlv
          clear hlv HLv hle hMe
          by_cases hye : y0 = ev
          · have dy : (y0 != ev) = false := by simp [hye]
            have HJ : Hid (joins (pic (ts.take (k + 1)) (more L x y δ)) = (joins (pic (ts.take k) (more L x y δ)))) := by
              show _ = _
              rw [HPs.out, ← HEv.out]
              exact if_pos (HLvv.out.trans hye)
            clear hye hmd
            go_wp2
            go_roundw
            case rel => exact ⟨k + 1, by omega, by go_num, HQ2.out, a1, n2, c1, _, n2, c2, by rw [HJ.out]; exact HN1.out, rfl, by rw [HJ.out]; exact HI4.out⟩
            case measure => simp [intOf]; omega
          · have dy : (y0 != ev) = true := by simpa using hye
            have HJ : Hid (joins (pic (ts.take (k + 1)) (more L x y δ)) = (joins (pic (ts.take k) (more L x y δ))) ++ [(t, ev)]) := by
              show _ = _
              rw [HPs.out, ← HEv.out]
              exact if_neg (fun h => hye (HLvv.out.symm.trans h))
            clear hye hmd
            go_wp2
            clear hw1 hw2 hw5 hw4 hw6 hcy
            refine wp_region_held_drew (S := (fun W => W.cell? ⟨p, o + k, none⟩ = some (.int .i64 t))) (by kernel_rfl) (by exact TI.lcell (HI4.out.next (Below.refl _ _).drew) HG0.out) (fun hHeld => ?_)
            have R := Lib.hid (HI4.out.next (Below.refl _ _).drew)
            generalize HV : World.drew _ = V0 at *
            clear HV
            refine wpAnyH_take (i := 0) (v := ?_) (ata at0) (by kernel_rfl) (by kernel_rfl) (by kernel_rfl) (fun _ _ _ h => h) (Or.inl ⟨by rfl, ?_⟩) (by assumption) ?_
            rotate_left
            · (intro w hSw; (try dsimp only at hSw); go_simp; (first | done | with_reducible rfl))
            try simp only [Act.put, List.setIfInBounds_toArray, List.set_cons_zero, List.set_cons_succ]
            refine wpAnyH_take (i := 2) (v := ?_) (ata (atS (atS at0))) (by kernel_rfl) (by kernel_rfl) (by kernel_rfl) (fun _ _ _ h => h) (Or.inl ⟨by rfl, ?_⟩) (by assumption) ?_
            rotate_left
            · (intro w hSw; (try dsimp only at hSw); go_simp; (first | done | with_reducible rfl))
            try simp only [Act.put, List.setIfInBounds_toArray, List.set_cons_zero, List.set_cons_succ]
            refine wpAnyH_take (i := 3) (v := ?_) (ata (atS (atS (atS at0)))) (by kernel_rfl) (by kernel_rfl) (by kernel_rfl) (fun _ _ _ h => h) (Or.inl ⟨by rfl, ?_⟩) (by assumption) ?_
            rotate_left
            · (intro w hSw; (try dsimp only at hSw); go_simp; (first | done | with_reducible rfl))
            try simp only [Act.put, List.setIfInBounds_toArray, List.set_cons_zero, List.set_cons_succ]
            refine wpAnyH_take (i := 4) (v := ?_) (ata (atS (atS (atS (atS at0))))) (by kernel_rfl) (by kernel_rfl) (by kernel_rfl) (fun _ _ _ h => h) (Or.inl ⟨by rfl, ?_⟩) (by assumption) ?_
            rotate_left
            · (intro w hSw; (try dsimp only at hSw); go_simp; (first | done | with_reducible rfl))
            try simp only [Act.put, List.setIfInBounds_toArray, List.set_cons_zero, List.set_cons_succ]
            refine wpAnyH_take (i := 5) (v := ?_) (ata (atS (atS (atS (atS (atS at0)))))) (by kernel_rfl) (by kernel_rfl) (by kernel_rfl) (fun _ _ _ h => h) (Or.inl ⟨by rfl, ?_⟩) (by assumption) ?_
            rotate_left
            · (intro w hSw; (try dsimp only at hSw); go_simp; (first | done | with_reducible rfl))
            try simp only [Act.put, List.setIfInBounds_toArray, List.set_cons_zero, List.set_cons_succ]
            refine wpAnyH_ready (rs := [1, 6]) (by kernel_rfl) (by simp) ?_
            refine AllReadyH.cons (ata (atS at0)) (fun K hK => ?_) ?_
            · have x9 := R.out.bO.cell0
              go_simp
              clear x9
              refine hK.out _ _ (by exact TI.lcell R.out HG0.out) (fun hHeld => ?_)
              clear hK K
              try simp only [Act.put, List.setIfInBounds_toArray, List.set_cons_zero, List.set_cons_succ]
              refine wpAnyH_ready (rs := [6]) (by kernel_rfl) (by simp) ?_
              refine AllReadyH.cons (ata (atS (atS (atS (atS (atS (atS at0))))))) (fun K hK => ?_) ?_
              · go_simp
                refine hK.out _ _ (by exact TI.lcell (R.out.next ((Below.refl _ _).alloc (Nat.le_refl _) _)) HG0.out) (fun hHeld => ?_)
                clear hK K
                try simp only [Act.put, List.setIfInBounds_toArray, List.set_cons_zero, List.set_cons_succ]
                have R := Lib.hid (R.out.next ((Below.refl _ _).alloc (Nat.le_refl _) (.cells #[.int .i64 t] 2)))
                have hc9 := cell_new1 V0 (.int .i64 t) 2
                generalize V0.alloc (.cells #[.int .i64 t] 2) = V1 at *
                generalize V0.heap.size = gc at *
                refine wpAnyH_ready (rs := [7]) (by kernel_rfl) (by simp) ?_
                refine AllReadyH.cons (ata (atS (atS (atS (atS (atS (atS (atS at0)))))))) (fun K hK => ?_) ?_
                · refine step_append_one rfl _ _ rfl w1.heap.size (.slice a1 n2 c1) ((joins (pic (ts.take k) (more L x y δ))).map Prod.fst) rfl R.out.o1 _ _ rfl t hc9 (by rw [List.length_map]; omega) R.out.hs ?_
                  intro g9 n9 e9 V2 ho hg hat
                  have R := Lib.hid (R.out.grow1 hg ho hat)
                  have HN9 := Lib.hid ho.len
                  clear ho hg hat hc9
                  refine hK.out _ _ (by exact TI.lcell R.out HG0.out) (fun hHeld => ?_)
                  clear hK K
                  try simp only [Act.put, List.setIfInBounds_toArray, List.set_cons_zero, List.set_cons_succ]
                  refine wpAnyH_take (i := 8) (v := ?_) (ata (atS (atS (atS (atS (atS (atS (atS (atS at0))))))))) (by kernel_rfl) (by kernel_rfl) (by kernel_rfl) (fun _ _ _ h => h) (Or.inl ⟨by rfl, ?_⟩) (by assumption) ?_
                  rotate_left
                  · (intro w hSw; (try dsimp only at hSw); go_simp; (first | done | with_reducible rfl))
                  try simp only [Act.put, List.setIfInBounds_toArray, List.set_cons_zero, List.set_cons_succ]
                  refine wpAnyH_ready (rs := [9]) (by kernel_rfl) (by simp) ?_
                  refine AllReadyH.cons (ata (atS (atS (atS (atS (atS (atS (atS (atS (atS at0)))))))))) (fun K hK => ?_) ?_
                  · have x9 := R.out.bO.cell0
                    have f9 := R.out.bO.free 0
                    go_simp
                    have R := Lib.hid (R.out.set1 (.slice (some ⟨g9, 0, none⟩) n9 e9))
                    clear x9 f9
                    refine hK.out _ _ (by exact TI.lcell R.out HG0.out) (fun hHeld => ?_)
                    clear hK K
                    try simp only [Act.put, List.setIfInBounds_toArray, List.set_cons_zero, List.set_cons_succ]
                    generalize V2.setCell ⟨w.heap.size + 1 + 1, 0, none⟩ (.slice (some ⟨g9, 0, none⟩) n9 e9) = V3 at *
                    refine wpAnyH_done (by kernel_rfl) ?_ _
                    have z0 := R.out.bO.cell0
                    have z1 := R.out.bO.cell1
                    have lo9 := R.out.bO.lt
                    have R2 := Lib.hid (R.out.next ((Below.refl _ _).alloc (Nat.le_refl _) (.cells #[.int .i64 ev] 2)))
                    have hsz9 := R2.out.hs
                    go_wp2_with (at_builtin; refine wpl_append_one rfl _ _ rfl w1.heap.size (.slice (some ⟨g5, o5, none⟩) n2 c2) ((joins (pic (ts.take k) (more L x y δ))).map Prod.snd) rfl R2.out.o2 _ _ rfl ev (cell_new1 _ _ _) (by rw [List.length_map]; omega) hsz9 ?_)
                    intro g8 n8 e8 W8 ho hg hat
                    have R3 := Lib.hid (R2.out.grow2 hg ho (by rw [World.size_alloc]; exact hat))
                    have HN8 := Lib.hid ho.len
                    clear ho hg hat z0 z1 lo9 hsz9
                    have z0 := R3.out.bO.cell0
                    have z1 := R3.out.bO.cell1
                    have z2 := R3.out.bO.free 1
                    go_wp2
                    go_roundw
                    case rel =>
                      refine ⟨k + 1, by omega, by go_num, HQ2.out, some ⟨g9, 0, none⟩, n9, e9, some ⟨g8, 0, none⟩, n8, e8, ?_, ?_, ?_⟩
                      · rw [HJ.out, HN9.out]; simp
                      · rw [HN9.out, HN8.out]; simp
                      · rw [HJ.out, List.map_append, List.map_append]; exact R3.out.set2 _
                    case measure => simp [intOf]; omega
                  exact AllReadyH.nil
                exact AllReadyH.nil
              exact AllReadyH.nil
            refine AllReadyH.cons (ata (atS (atS (atS (atS (atS (atS at0))))))) (fun K hK => ?_) ?_
            · go_simp
              refine hK.out _ _ (by exact TI.lcell (R.out.next ((Below.refl _ _).alloc (Nat.le_refl _) _)) HG0.out) (fun hHeld => ?_)
              clear hK K
              try simp only [Act.put, List.setIfInBounds_toArray, List.set_cons_zero, List.set_cons_succ]
              have R := Lib.hid (R.out.next ((Below.refl _ _).alloc (Nat.le_refl _) (.cells #[.int .i64 t] 2)))
              have hc9 := cell_new1 V0 (.int .i64 t) 2
              generalize V0.alloc (.cells #[.int .i64 t] 2) = V1 at *
              generalize V0.heap.size = gc at *
              refine wpAnyH_ready (rs := [1]) (by kernel_rfl) (by simp) ?_
              refine AllReadyH.cons (ata (atS at0)) (fun K hK => ?_) ?_
              · have x9 := R.out.bO.cell0
                go_simp
                clear x9
                refine hK.out _ _ (by exact TI.lcell R.out HG0.out) (fun hHeld => ?_)
                clear hK K
                try simp only [Act.put, List.setIfInBounds_toArray, List.set_cons_zero, List.set_cons_succ]
                refine wpAnyH_ready (rs := [7]) (by kernel_rfl) (by simp) ?_
                refine AllReadyH.cons (ata (atS (atS (atS (atS (atS (atS (atS at0)))))))) (fun K hK => ?_) ?_
                · refine step_append_one rfl _ _ rfl w1.heap.size (.slice a1 n2 c1) ((joins (pic (ts.take k) (more L x y δ))).map Prod.fst) rfl R.out.o1 _ _ rfl t hc9 (by rw [List.length_map]; omega) R.out.hs ?_
                  intro g9 n9 e9 V2 ho hg hat
                  have R := Lib.hid (R.out.grow1 hg ho hat)
                  have HN9 := Lib.hid ho.len
                  clear ho hg hat hc9
                  refine hK.out _ _ (by exact TI.lcell R.out HG0.out) (fun hHeld => ?_)
                  clear hK K
                  try simp only [Act.put, List.setIfInBounds_toArray, List.set_cons_zero, List.set_cons_succ]
                  refine wpAnyH_take (i := 8) (v := ?_) (ata (atS (atS (atS (atS (atS (atS (atS (atS at0))))))))) (by kernel_rfl) (by kernel_rfl) (by kernel_rfl) (fun _ _ _ h => h) (Or.inl ⟨by rfl, ?_⟩) (by assumption) ?_
                  rotate_left
                  · (intro w hSw; (try dsimp only at hSw); go_simp; (first | done | with_reducible rfl))
                  try simp only [Act.put, List.setIfInBounds_toArray, List.set_cons_zero, List.set_cons_succ]
                  refine wpAnyH_ready (rs := [9]) (by kernel_rfl) (by simp) ?_
                  refine AllReadyH.cons (ata (atS (atS (atS (atS (atS (atS (atS (atS (atS at0)))))))))) (fun K hK => ?_) ?_
                  · have x9 := R.out.bO.cell0
                    have f9 := R.out.bO.free 0
                    go_simp
                    have R := Lib.hid (R.out.set1 (.slice (some ⟨g9, 0, none⟩) n9 e9))
                    clear x9 f9
                    refine hK.out _ _ (by exact TI.lcell R.out HG0.out) (fun hHeld => ?_)
                    clear hK K
                    try simp only [Act.put, List.setIfInBounds_toArray, List.set_cons_zero, List.set_cons_succ]
                    generalize V2.setCell ⟨w.heap.size + 1 + 1, 0, none⟩ (.slice (some ⟨g9, 0, none⟩) n9 e9) = V3 at *
                    refine wpAnyH_done (by kernel_rfl) ?_ _
                    have z0 := R.out.bO.cell0
                    have z1 := R.out.bO.cell1
                    have lo9 := R.out.bO.lt
                    have R2 := Lib.hid (R.out.next ((Below.refl _ _).alloc (Nat.le_refl _) (.cells #[.int .i64 ev] 2)))
                    have hsz9 := R2.out.hs
                    go_wp2_with (at_builtin; refine wpl_append_one rfl _ _ rfl w1.heap.size (.slice (some ⟨g5, o5, none⟩) n2 c2) ((joins (pic (ts.take k) (more L x y δ))).map Prod.snd) rfl R2.out.o2 _ _ rfl ev (cell_new1 _ _ _) (by rw [List.length_map]; omega) hsz9 ?_)
                    intro g8 n8 e8 W8 ho hg hat
                    have R3 := Lib.hid (R2.out.grow2 hg ho (by rw [World.size_alloc]; exact hat))
                    have HN8 := Lib.hid ho.len
                    clear ho hg hat z0 z1 lo9 hsz9
                    have z0 := R3.out.bO.cell0
                    have z1 := R3.out.bO.cell1
                    have z2 := R3.out.bO.free 1
                    go_wp2
                    go_roundw
                    case rel =>
                      refine ⟨k + 1, by omega, by go_num, HQ2.out, some ⟨g9, 0, none⟩, n9, e9, some ⟨g8, 0, none⟩, n8, e8, ?_, ?_, ?_⟩
                      · rw [HJ.out, HN9.out]; simp
                      · rw [HN9.out, HN8.out]; simp
                      · rw [HJ.out, List.map_append, List.map_append]; exact R3.out.set2 _
                    case measure => simp [intOf]; omega
                  exact AllReadyH.nil
                exact AllReadyH.nil
              exact AllReadyH.nil
            exact AllReadyH.nil
      · have HQe := Lib.hid hqe
        have HBad := Lib.hid (Marks.bad HM.out (n := δ) HMem.out (by rw [← HEv.out]; exact hqe))
        clear hqe
        go_wp2_with fail
        refine (q_false HQe _).mono ?_
        rintro e w5 ⟨rfl, rfl⟩
        go_wp2
        have bQ := HI4.out.bR.set2 (.slice none 0 0) (.slice none 0 0)
        have q0 := bQ.cell0
        have q1 := bQ.cell1
        refine bodyPost_ret (v := .tuple #[.agg #[.slice none 0 0, .slice none 0 0], .int .i64 6]) (by simp [results, Try.results21, go_sem, q0, q1]) rfl ⟨6, [], none, 0, 0, none, 0, 0, rfl, .inr ⟨rfl, rfl, .inl HBad.out⟩, own_nil _ _, own_nil _ _, ?_⟩
        exact (HI4.out.hB.setCell (p := ⟨w.heap.size + 1, 0, none⟩) (by simp) _).setCell (p := ⟨w.heap.size + 1, 1, none⟩) (by simp) _
    · have hke : k = ts.length := by have := HN.out; omega
      have hqa : ∀ t ∈ ts, Q (more L x y δ t) := fun t ht => HQs.out t (by rw [hke, List.take_length]; exact ht)
      have hTu := HM.out.turned HQ.out.1 δ HLn.out hqa
      have hte : ts.take k = ts := by rw [hke, List.take_length]
      rw [hte] at hTI hn1
      have hd : decide ((2000 : Int) < (n2 : Int)) = false := decide_eq_false (by have := hTu.len; have := HQ.out.2.2.2; omega)
      have hl9 := hTu.len
      have HTu := Lib.hid hTu
      have o0 := hTI.bO.cell0
      have o1 := hTI.bO.cell1
      have r0 := hTI.bR.cell0
      have r1 := hTI.bR.cell1
      have f0 := hTI.bR.free 0
      have f1 := hTI.bR.free 1
      have HI9 := Lib.hid hTI
      have HL9 := Lib.hid hl9
      clear hqa hTu hte hke hTI hn1 HI HQs HN1 hl9
      go_wp2
      have bQ := HI9.out.bR.set2 (.slice a1 n2 c1) (.slice a2 n2 c2)
      have q0 := bQ.cell0
      have q1 := bQ.cell1
      have hz := HI9.out.sz
      refine bodyPost_ret (v := .tuple #[.agg #[.slice a1 n2 c1, .slice a2 n2 c2], .int .i64 0]) (by simp [results, Try.results21, go_sem, q0, q1]) rfl ⟨0, _, a1, n2, c1, a2, n2, c2, rfl, .inl ⟨rfl, HTu.out, by have := HL9.out; have := HQ.out.2.2.2; omega⟩, ?_, ?_, ?_⟩
      · exact (own_set (own_set HI9.out.o1 (by omega) 0 _) (by omega) 1 _).mono (by omega)
      · exact (own_set (own_set HI9.out.o2 (by omega) 0 _) (by omega) 1 _).mono (by omega)
      · exact (HI9.out.hB.setCell (p := ⟨w.heap.size + 1, 0, none⟩) (by simp) _).setCell (p := ⟨w.heap.size + 1, 1, none⟩) (by simp) _
end Go.Proofs.Ytoofogmlodfgmaa.gn
