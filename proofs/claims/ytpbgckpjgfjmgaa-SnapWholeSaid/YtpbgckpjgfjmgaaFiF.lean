/- The contracts of the closures that write a file, and of the call that finds the file for them. -/
import Derived.Test.YtpbgckpjgfjmgaaFiE
set_option linter.unusedVariables false
namespace Go.Proofs.Ytpbgckpjgfjmgaa.gn
open Go.RowKit
open Go.Proofs.Ytpbgckpjgfjmgaa.fi

theorem BlkF.cells {w : World} {p : Nat} {A : Option Addr} {n c : Nat} {d : Bool} (h : BlkF w p A n c d) :
    w.cell? ⟨p, 0, none⟩ = some (.slice A n c) ∧ w.cell? ⟨p, 1, none⟩ = some (.bool d) ∧ w.frozen? ⟨p, 0, none⟩ = false ∧ w.frozen? ⟨p, 1, none⟩ = false :=
  ⟨by rw [cell_of_row w p 0 _ _ _ h]; rfl, by rw [cell_of_row w p 1 _ _ _ h]; rfl, frozen_of_row w p 0 _ _ h, frozen_of_row w p 1 _ _ h⟩
theorem BlkF.set0 {w : World} {p : Nat} {A : Option Addr} {n c : Nat} {d : Bool} (h : BlkF w p A n c d) (A' : Option Addr) (n' c' : Nat) : BlkF (w.setCell ⟨p, 0, none⟩ (.slice A' n' c')) p A' n' c' d := heap_setCell h _
theorem BlkF.set1 {w : World} {p : Nat} {A : Option Addr} {n c : Nat} {d : Bool} (h : BlkF w p A n c d) (d' : Bool) : BlkF (w.setCell ⟨p, 1, none⟩ (.bool d')) p A n c d' := heap_setCell h _

/-- What is known of the file that stands at k. -/
structure At (w : World) (X : Nat → Prop) (G : Lay) (TT : Nat → Option Tb) (b : Nat) (T : Tb) (k : Nm) (f : Fl) (p : Nat) (A : Option Addr) (n c : Nat) : Prop where
  sys : SysG w X G TT
  tab : TT b = some T
  is : fi.get k T = some f
  at_ : fi.get k (G.tab b) = some p
  x : X p
  blk : BlkF w p A n c f.2
  byt : Byt w A n c f.1
  row : ∀ g, A = some ⟨g, 0, none⟩ → X g ∧ n ≤ G.len g ∧ (c = n ∨ (n = G.len g ∧ G.tail g = p))
theorem SysG.at_ {w : World} {X : Nat → Prop} {G : Lay} {TT : Nat → Option Tb} {b : Nat} {T : Tb} (h : SysG w X G TT) (hT : TT b = some T) {k : Nm} {f : Fl} (hf : fi.get k T = some f) : ∃ p A n c, At w X G TT b T k f p A n c := by
  obtain ⟨p, A, n, c, h1, h2, h3, h4, _, h5⟩ := h.file hT hf
  exact ⟨p, A, n, c, h, hT, hf, h1, h2, h3, h4, h5⟩
theorem At.only {w w' : World} {X : Nat → Prop} {G : Lay} {TT : Nat → Option Tb} {b : Nat} {T : Tb} {k : Nm} {f : Fl} {p : Nat} {A : Option Addr} {n c : Nat} (h : At w X G TT b T k f p A n c)
    (ho : Only (fun i => i = p ∨ some i = A.map (·.block)) w w') : OnlyT X w w' := by
  refine Only.mono ho fun i hi hh => ?_
  rcases hh with rfl | hh
  · exact ⟨h.x, .inr (.inl ⟨_, h.blk⟩)⟩
  · rcases h.byt.form with ⟨rfl, _⟩ | ⟨g, rfl⟩
    · cases hh
    · obtain rfl : i = g := by simpa using hh
      obtain ⟨cur, hc, _⟩ := h.byt.lt rfl
      exact ⟨(h.row i rfl).1, .inr (.inr ⟨cur, hc⟩)⟩
/-- The file with bytes appended. -/
theorem At.appended {w w1 w2 : World} {X : Nat → Prop} {G : Lay} {TT : Nat → Option Tb} {b : Nat} {T : Tb} {k : Nm} {f : Fl} {p : Nat} {A : Option Addr} {n c : Nat} (h : At w X G TT b T k f p A n c)
    {A' : Option Addr} {n' c' : Nat} {l' : List UInt8} {d' : Bool} (hy : Byt w1 A' n' c' l') (ha : App w A n c A' n' c' w1) (hb : BlkF w2 p A' n' c' d') (ho : Only (fun i => i = p) w1 w2) :
    SysT w2 (ext X w w2) (upd TT b (fi.mod k (fun _ => (l', d')) T)) ∧ OnlyT X w w2 := by
  have hpn := lt_of_block h.blk
  have hy2 : w1.heap.size ≤ w2.heap.size → Byt w2 A' n' c' l' := fun _ => hy.kept fun g hg hlt => ho.block g hlt fun e => by
    subst e
    obtain ⟨cur, hc, _⟩ := hy.lt hg
    rcases ha with ⟨rfl, _, _, _, hgr, hs, _⟩ | ⟨g', rfl, hg', _⟩
    · obtain ⟨cur0, hc0, _⟩ := h.byt.lt hg
      exact absurd rfl (bytes_ne hc0 h.blk)
    · cases hg
      omega
  have hy3 := hy2 ho.size
  rcases ha with ⟨rfl, rfl, hn, hnc, hgr, hs, hrow⟩ | ⟨g', rfl, hg', hbel⟩
  · refine ⟨h.sys.write_same h.tab h.at_ h.blk h.row (f' := (l', d')) hb hy3 (fun i hi hp hg => ?_) (fun g cur hg hcur => ?_) (.inr ⟨rfl, hn, hnc⟩), h.only ?_⟩
    · refine (ho.block i (by omega) hp).trans (hgr.block i hi fun e => ?_)
      rcases h.byt.form with ⟨rfl, _⟩ | ⟨g, rfl⟩
      · cases e
      · exact hg g rfl (by simpa using e)
    · obtain ⟨cur', h1, h2, h3⟩ := hrow g cur hg hcur
      refine ⟨cur', (ho.block g (by have := lt_of_block hcur; omega) fun e => ?_).trans h1, h2, fun m hm => h3 m ?_⟩
      · subst e
        exact absurd rfl (bytes_ne hcur h.blk)
      · rcases hnc with hnc | hnc
        · rcases (h.row g hg).2.2 with h4 | ⟨h4, _⟩
          · omega
          · exact .inl (by omega)
        · exact .inr hnc
    · exact Only.trans (Only.of_grown hgr fun i hi => .inr hi.symm) ho fun i _ hi => .inl hi
  · refine ⟨h.sys.write_new h.tab h.at_ h.blk (f' := (l', d')) hb hy3 hg' (fun i hi hp => (ho.block i (Nat.lt_of_lt_of_le hi hbel.size) hp).trans (hbel.block i hi)), h.only ?_⟩
    exact Only.trans (Only.of_below hbel) ho fun i _ hi => .inl hi

theorem App.undrew {w w1 : World} {A A' : Option Addr} {n c n' c' : Nat} (h : App w.drew A n c A' n' c' w1) : App w A n c A' n' c' w1 := by
  rcases h with ⟨h1, h2, h3, h4, h5, h6⟩ | ⟨g', h1, h2, h3⟩
  · exact .inl ⟨h1, h2, h3, h4, ⟨h5.os, h5.tape, h5.output, h5.size, h5.block⟩, h6⟩
  · exact .inr ⟨g', h1, h2, ⟨h3.os, h3.tape, h3.output, h3.size, h3.block⟩⟩
theorem App.kept {w w1 : World} {A A' : Option Addr} {n c n' c' : Nat} {l : List UInt8} (ha : App w A n c A' n' c' w1) (hy : Byt w A n c l) {i : Nat} {cs : Array Value} {t : TypeId} (hi : w.heap[i]? = some (.cells cs t (0, 0))) (ht : t ≠ 5) : w1.heap[i]? = some (.cells cs t (0, 0)) := by
  rcases ha with ⟨rfl, _, _, _, hgr, _⟩ | ⟨g', _, _, hbel⟩
  · refine (hgr.block i (lt_of_block hi) fun e => ?_).trans hi
    rcases hy.form with ⟨rfl, _⟩ | ⟨g, rfl⟩
    · cases e
    · obtain rfl : i = g := by simpa using e
      obtain ⟨cur, hc, _⟩ := hy.lt rfl
      rw [hi] at hc
      simp at hc
      exact ht hc.2
  · exact (hbel.block i (lt_of_block hi)).trans hi
theorem App.file {w w1 : World} {A A' : Option Addr} {n c n' c' : Nat} {l : List UInt8} (ha : App w A n c A' n' c' w1) (hy : Byt w A n c l) {p bs : Nat} {d : Bool} {s : List UInt8} (hp : BlkF w p A n c d) (hb : BoxS w bs s) :
    BlkF w1 p A n c d ∧ BoxS w1 bs s := ⟨ha.kept hy hp (by decide), ha.kept hy hb (by decide)⟩

theorem file_box_ne {w : World} {p b : Nat} {A : Option Addr} {n c : Nat} {d : Bool} {s : List UInt8} (hp : BlkF w p A n c d) (hb : BoxS w b s) : p ≠ b := by
  rintro rfl
  unfold BlkF at hp
  unfold BoxS at hb
  rw [hb] at hp
  simp at hp
theorem file_int_ne {w : World} {p b : Nat} {A : Option Addr} {n c : Nat} {d : Bool} {s : Int} (hp : BlkF w p A n c d) (hb : BoxI w b s) : p ≠ b := by
  rintro rfl
  unfold BlkF at hp
  unfold BoxI at hb
  rw [hb] at hp
  simp at hp

set_option maxHeartbeats 4000000 in
theorem app11_any (w : World) (X : Nat → Prop) (G : Lay) (TT : Nat → Option Tb) (b : Nat) (T : Tb) (k : Nm) (f : Fl) (p : Nat) (A : Option Addr) (n c : Nat) (h : At w X G TT b T k f p A n c) (bs : Nat) (s : List UInt8) (hb : BoxS w bs s) (hlim : n + s.length ≤ 1099511627776) :
    Calls Try.prog 35 #[.pointer (some ⟨p, 0, none⟩), .pointer (some ⟨bs, 0, none⟩)] w (Goes X TT b (fi.mod k (fun _ => (f.1 ++ s, f.2)) T) w) := by
  obtain ⟨c0, c1, f0, f1⟩ := h.blk.cells
  have hc := cell_of_one hb
  have hpn := lt_of_block h.blk
  have HA := Lib.hid h
  have HY := Lib.hid h.byt
  have HB := Lib.hid h.blk
  have HS := Lib.hid hb
  clear h hb
  go_enter Try.func35, Try.ntmps35
  go_wp2
  go_region_law
    (first | (refine step_append_byt rfl _ _ rfl A n c f.1 s rfl HY.out _ rfl rfl hlim ?_; intro A' c' w1 hy1 ha1; replace ha1 := ha1.undrew; obtain ⟨hb1, hs1⟩ := App.file ha1 HY.out HB.out HS.out; obtain ⟨d0, d1, d2, d3⟩ := hb1.cells; have d4 := cell_of_one hs1; have HY1 := Lib.hid hy1; have HA1 := Lib.hid ha1; have HB1 := Lib.hid hb1; clear hy1 ha1 hb1 hs1))
  all_goals
    go_end0
    refine ⟨rfl, ?_⟩
    exact HA.out.appended HY1.out HA1.out (HB1.out.set0 _ _ _) ⟨rfl, rfl, rfl, by simp [World.setCell], fun i _ hi => Below.heap_setCell _ _ _ _ hi⟩

set_option maxHeartbeats 4000000 in
theorem app21_any (w : World) (X : Nat → Prop) (G : Lay) (TT : Nat → Option Tb) (b : Nat) (T : Tb) (k : Nm) (f : Fl) (p : Nat) (A : Option Addr) (n c : Nat) (h : At w X G TT b T k f p A n c) (bs : Nat) (s : List UInt8) (hb : BoxS w bs s) (bc : Nat) (m : Int) (hc : BoxI w bc m) (hlim : n + s.length ≤ 1099511627776) :
    Calls Try.prog 37 #[.pointer (some ⟨p, 0, none⟩), .pointer (some ⟨bs, 0, none⟩), .pointer (some ⟨bc, 0, none⟩)] w (Goes X TT b (fi.mod k (fun _ => (f.1 ++ s.take m.toNat, true)) T) w) := by
  obtain ⟨t, ht⟩ : ∃ t, t = s.take m.toNat := ⟨_, rfl⟩
  have htl : t.length ≤ s.length := by rw [ht, List.length_take]; omega
  rw [← ht]
  have HT := Lib.hid ht
  clear ht
  obtain ⟨c0, c1, f0, f1⟩ := h.blk.cells
  have hcs := cell_of_one hb
  have hci := cell_of_one hc
  have hpn := lt_of_block h.blk
  have HA := Lib.hid h
  have HY := Lib.hid h.byt
  have HB := Lib.hid h.blk
  have HS := Lib.hid hb
  have hsz : (0 : Int) ≤ ((str s).size : Int) := by omega
  have hsz0 : ¬ ((str s).size : Int) < 0 := by omega
  have HZ := Lib.hid (str_size s)
  have HI := Lib.hid hc
  clear h hb hc
  by_cases h1 : m < 0
  · have HE : Hid (ByteArray.empty = str t) := by
      show _ = _
      rw [HT.out, show m.toNat = 0 by omega]
      rfl
    have he2 : (if ((str s).size : Int) < 0 then ((str s).size : Int) else 0) = 0 := if_neg hsz0
    go_enter Try.func37, Try.ntmps37
    go_wp2
    refine wp_region_held_drew (S := (fun W => W.cell? ⟨bs, 0, none⟩ = some (.string (str s)) ∧ W.cell? ⟨bc, 0, none⟩ = some (.int .i64 m))) (by kernel_rfl) (by first | (go_keep; done) | (dsimp only; go_keep)) (fun hHeld => ?_)
    refine wpAnyH_take (i := 0) (v := ?_) (fata fat0) (by kernel_rfl) (by kernel_rfl) (by kernel_rfl) (fun _ _ _ h => h) (Or.inl ⟨by rfl, ?_⟩) (by assumption) ?_
    rotate_left
    · (intro w hSw; (try dsimp only at hSw); go_simp; (first | done | with_reducible rfl))
    try simp only [Act.put, List.setIfInBounds_toArray, List.set_cons_zero, List.set_cons_succ]
    refine wpAnyH_take (i := 1) (v := ?_) (fata (fatS fat0)) (by kernel_rfl) (by kernel_rfl) (by kernel_rfl) (fun _ _ _ h => h) (Or.inl ⟨by rfl, ?_⟩) (by assumption) ?_
    rotate_left
    · (intro w hSw; (try dsimp only at hSw); go_simp; (first | done | with_reducible rfl))
    try simp only [Act.put, List.setIfInBounds_toArray, List.set_cons_zero, List.set_cons_succ]
    refine wpAnyH_take (i := 2) (v := ?_) (fata (fatS (fatS fat0))) (by kernel_rfl) (by kernel_rfl) (by kernel_rfl) (fun _ _ _ h => h) (Or.inl ⟨by rfl, ?_⟩) (by assumption) ?_
    rotate_left
    · (intro w hSw; (try dsimp only at hSw); go_simp; (first | done | with_reducible rfl))
    try simp only [Act.put, List.setIfInBounds_toArray, List.set_cons_zero, List.set_cons_succ]
    refine wpAnyH_take (i := 3) (v := ?_) (fata (fatS (fatS (fatS fat0)))) (by kernel_rfl) (by kernel_rfl) (by kernel_rfl) (fun _ _ _ h => h) (Or.inl ⟨by rfl, ?_⟩) (by assumption) ?_
    rotate_left
    · (intro w hSw; (try dsimp only at hSw); go_simp; (first | done | with_reducible rfl))
    try simp only [Act.put, List.setIfInBounds_toArray, List.set_cons_zero, List.set_cons_succ]
    refine wpAnyH_take (i := 5) (v := ?_) (fata (fatS (fatS (fatS (fatS (fatS fat0)))))) (by kernel_rfl) (by kernel_rfl) (by kernel_rfl) (fun _ _ _ h => h) (Or.inl ⟨by rfl, ?_⟩) (by assumption) ?_
    rotate_left
    · (intro w hSw; (try dsimp only at hSw); go_simp; (first | done | with_reducible rfl))
    try simp only [Act.put, List.setIfInBounds_toArray, List.set_cons_zero, List.set_cons_succ]
    refine wpAnyH_take (i := 6) (v := ?_) (fata (fatS (fatS (fatS (fatS (fatS (fatS fat0))))))) (by kernel_rfl) (by kernel_rfl) (by kernel_rfl) (fun _ _ _ h => h) (Or.inl ⟨by rfl, ?_⟩) (by assumption) ?_
    rotate_left
    · (intro w hSw; (try dsimp only at hSw); go_simp; (first | done | with_reducible rfl))
    try simp only [Act.put, List.setIfInBounds_toArray, List.set_cons_zero, List.set_cons_succ]
    refine wpAnyH_take (i := 7) (v := ?_) (fata (fatS (fatS (fatS (fatS (fatS (fatS (fatS fat0)))))))) (by kernel_rfl) (by kernel_rfl) (by kernel_rfl) (fun _ _ _ h => h) (Or.inl ⟨by rfl, ?_⟩) (by assumption) ?_
    rotate_left
    · (intro w hSw; (try dsimp only at hSw); go_simp; (first | done | with_reducible rfl))
    try simp only [Act.put, List.setIfInBounds_toArray, List.set_cons_zero, List.set_cons_succ]
    refine wpAnyH_take (i := 8) (v := ?_) (fata (fatS (fatS (fatS (fatS (fatS (fatS (fatS (fatS fat0))))))))) (by kernel_rfl) (by kernel_rfl) (by kernel_rfl) (fun _ _ _ h => h) (Or.inl ⟨by rfl, ?_⟩) (by assumption) ?_
    rotate_left
    · (intro w hSw; (try dsimp only at hSw); go_simp; (first | done | with_reducible rfl))
    try simp only [Act.put, List.setIfInBounds_toArray, List.set_cons_zero, List.set_cons_succ]
    refine wpAnyH_take (i := 9) (v := ?_) (fata (fatS (fatS (fatS (fatS (fatS (fatS (fatS (fatS (fatS fat0)))))))))) (by kernel_rfl) (by kernel_rfl) (by kernel_rfl) (fun _ _ _ h => h) (Or.inl ⟨by rfl, ?_⟩) (by assumption) ?_
    rotate_left
    · (intro w hSw; (try dsimp only at hSw); go_simp; (first | done | with_reducible rfl))
    try simp only [Act.put, List.setIfInBounds_toArray, List.set_cons_zero, List.set_cons_succ]
    refine wpAnyH_take (i := 10) (v := ?_) (fata (fatS (fatS (fatS (fatS (fatS (fatS (fatS (fatS (fatS (fatS fat0))))))))))) (by kernel_rfl) (by kernel_rfl) (by kernel_rfl) (fun _ _ _ h => h) (Or.inl ⟨by rfl, ?_⟩) (by assumption) ?_
    rotate_left
    · (intro w hSw; (try dsimp only at hSw); go_simp; (first | done | with_reducible rfl))
    try simp only [Act.put, List.setIfInBounds_toArray, List.set_cons_zero, List.set_cons_succ]
    refine wpAnyH_take (i := 11) (v := ?_) (fata (fatS (fatS (fatS (fatS (fatS (fatS (fatS (fatS (fatS (fatS (fatS fat0)))))))))))) (by kernel_rfl) (by kernel_rfl) (by kernel_rfl) (fun _ _ _ h => h) (Or.inl ⟨by rfl, ?_⟩) (by assumption) ?_
    rotate_left
    · (intro w hSw; (try dsimp only at hSw); go_simp; (first | done | with_reducible rfl))
    try simp only [Act.put, List.setIfInBounds_toArray, List.set_cons_zero, List.set_cons_succ]
    refine wpAnyH_ready (rs := [4]) (by kernel_rfl) (by simp) ?_
    refine AllReadyH.cons (fata (fatS (fatS (fatS (fatS fat0))))) (fun K hK => ?_) AllReadyH.nil
    go_simp
    refine hK.out _ _ (by first | (go_keep; done) | (dsimp only; go_keep; done) | exact ⟨by go_simp, by go_simp⟩) (fun hHeld => ?_)
    clear hK K
    try simp only [Act.put, List.setIfInBounds_toArray, List.set_cons_zero, List.set_cons_succ]
    refine wpAnyH_ready (rs := [12]) (by kernel_rfl) (by simp) ?_
    refine AllReadyH.cons (fata (fatS (fatS (fatS (fatS (fatS (fatS (fatS (fatS (fatS (fatS (fatS (fatS fat0))))))))))))) (fun K hK => ?_) AllReadyH.nil
    ((refine step_append_byt rfl _ _ rfl A n c f.1 t rfl HY.out _ rfl HE.out (by omega) ?_; intro A' c' w1 hy1 ha1; replace ha1 := ha1.undrew; obtain ⟨hb1, hs1⟩ := App.file ha1 HY.out HB.out HS.out; have hi1 : BoxI w1 bc m := ha1.kept HY.out HI.out (by decide); obtain ⟨d0, d1, d2, d3⟩ := hb1.cells; have d4 := cell_of_one hs1; have d5 := cell_of_one hi1; have HY1 := Lib.hid hy1; have HA1 := Lib.hid ha1; have HB1 := Lib.hid hb1; have hn1 : bs ≠ p := (file_box_ne hb1 hs1).symm; have hn2 : bc ≠ p := (file_int_ne hb1 hi1).symm; clear hy1 ha1 hb1 hs1 hi1))
    refine hK.out _ _ (by first | (go_keep; done) | (dsimp only; go_keep; done) | exact ⟨by go_simp, by go_simp⟩) (fun hHeld => ?_)
    clear hK K
    try simp only [Act.put, List.setIfInBounds_toArray, List.set_cons_zero, List.set_cons_succ]
    refine wpAnyH_take (i := 13) (v := ?_) (fata (fatS (fatS (fatS (fatS (fatS (fatS (fatS (fatS (fatS (fatS (fatS (fatS (fatS fat0)))))))))))))) (by kernel_rfl) (by kernel_rfl) (by kernel_rfl) (fun _ _ _ h => h) (Or.inl ⟨by rfl, ?_⟩) (by assumption) ?_
    rotate_left
    · (intro w hSw; (try dsimp only at hSw); go_simp; (first | done | with_reducible rfl))
    try simp only [Act.put, List.setIfInBounds_toArray, List.set_cons_zero, List.set_cons_succ]
    refine wpAnyH_take (i := 14) (v := ?_) (fata (fatS (fatS (fatS (fatS (fatS (fatS (fatS (fatS (fatS (fatS (fatS (fatS (fatS (fatS fat0))))))))))))))) (by kernel_rfl) (by kernel_rfl) (by kernel_rfl) (fun _ _ _ h => h) (Or.inl ⟨by rfl, ?_⟩) (by assumption) ?_
    rotate_left
    · (intro w hSw; (try dsimp only at hSw); go_simp; (first | done | with_reducible rfl))
    try simp only [Act.put, List.setIfInBounds_toArray, List.set_cons_zero, List.set_cons_succ]
    refine wpAnyH_ready (rs := [15]) (by kernel_rfl) (by simp) ?_
    refine AllReadyH.cons (fata (fatS (fatS (fatS (fatS (fatS (fatS (fatS (fatS (fatS (fatS (fatS (fatS (fatS (fatS (fatS fat0)))))))))))))))) (fun K hK => ?_) AllReadyH.nil
    go_simp
    refine hK.out _ _ (by first | (go_keep; done) | (dsimp only; go_keep; done) | exact ⟨by go_simp, by go_simp⟩) (fun hHeld => ?_)
    clear hK K
    try simp only [Act.put, List.setIfInBounds_toArray, List.set_cons_zero, List.set_cons_succ]
    refine wpAnyH_done (by kernel_rfl) ?_ _
    go_wp2
    go_end0
    refine ⟨rfl, ?_⟩
    exact HA.out.appended HY1.out HA1.out ((HB1.out.set0 _ _ _).set1 _) ⟨rfl, rfl, rfl, by simp [World.setCell], fun i _ hi => (Below.heap_setCell _ _ _ _ hi).trans (Below.heap_setCell _ _ _ _ hi)⟩
  · have h0 : 0 ≤ m := by omega
    by_cases h2 : ((str s).size : Int) < m
    · have HE : Hid (str s = str t) := by
        show _ = _
        have := HZ.out
        rw [HT.out, List.take_of_length_le (by omega)]
      have he1 : (if m < 0 then 0 else m) = m := if_neg h1
      have he2 : (if ((str s).size : Int) < m then ((str s).size : Int) else m) = ((str s).size : Int) := if_pos h2
      go_enter Try.func37, Try.ntmps37
      go_wp2
      refine wp_region_held_drew (S := (fun W => W.cell? ⟨bs, 0, none⟩ = some (.string (str s)) ∧ W.cell? ⟨bc, 0, none⟩ = some (.int .i64 m))) (by kernel_rfl) (by first | (go_keep; done) | (dsimp only; go_keep)) (fun hHeld => ?_)
      refine wpAnyH_take (i := 0) (v := ?_) (fata fat0) (by kernel_rfl) (by kernel_rfl) (by kernel_rfl) (fun _ _ _ h => h) (Or.inl ⟨by rfl, ?_⟩) (by assumption) ?_
      rotate_left
      · (intro w hSw; (try dsimp only at hSw); go_simp; (first | done | with_reducible rfl))
      try simp only [Act.put, List.setIfInBounds_toArray, List.set_cons_zero, List.set_cons_succ]
      refine wpAnyH_take (i := 1) (v := ?_) (fata (fatS fat0)) (by kernel_rfl) (by kernel_rfl) (by kernel_rfl) (fun _ _ _ h => h) (Or.inl ⟨by rfl, ?_⟩) (by assumption) ?_
      rotate_left
      · (intro w hSw; (try dsimp only at hSw); go_simp; (first | done | with_reducible rfl))
      try simp only [Act.put, List.setIfInBounds_toArray, List.set_cons_zero, List.set_cons_succ]
      refine wpAnyH_take (i := 2) (v := ?_) (fata (fatS (fatS fat0))) (by kernel_rfl) (by kernel_rfl) (by kernel_rfl) (fun _ _ _ h => h) (Or.inl ⟨by rfl, ?_⟩) (by assumption) ?_
      rotate_left
      · (intro w hSw; (try dsimp only at hSw); go_simp; (first | done | with_reducible rfl))
      try simp only [Act.put, List.setIfInBounds_toArray, List.set_cons_zero, List.set_cons_succ]
      refine wpAnyH_take (i := 3) (v := ?_) (fata (fatS (fatS (fatS fat0)))) (by kernel_rfl) (by kernel_rfl) (by kernel_rfl) (fun _ _ _ h => h) (Or.inl ⟨by rfl, ?_⟩) (by assumption) ?_
      rotate_left
      · (intro w hSw; (try dsimp only at hSw); go_simp; (first | done | with_reducible rfl))
      try simp only [Act.put, List.setIfInBounds_toArray, List.set_cons_zero, List.set_cons_succ]
      refine wpAnyH_take (i := 5) (v := ?_) (fata (fatS (fatS (fatS (fatS (fatS fat0)))))) (by kernel_rfl) (by kernel_rfl) (by kernel_rfl) (fun _ _ _ h => h) (Or.inl ⟨by rfl, ?_⟩) (by assumption) ?_
      rotate_left
      · (intro w hSw; (try dsimp only at hSw); go_simp; (first | done | with_reducible rfl))
      try simp only [Act.put, List.setIfInBounds_toArray, List.set_cons_zero, List.set_cons_succ]
      refine wpAnyH_take (i := 6) (v := ?_) (fata (fatS (fatS (fatS (fatS (fatS (fatS fat0))))))) (by kernel_rfl) (by kernel_rfl) (by kernel_rfl) (fun _ _ _ h => h) (Or.inl ⟨by rfl, ?_⟩) (by assumption) ?_
      rotate_left
      · (intro w hSw; (try dsimp only at hSw); go_simp; (first | done | with_reducible rfl))
      try simp only [Act.put, List.setIfInBounds_toArray, List.set_cons_zero, List.set_cons_succ]
      refine wpAnyH_take (i := 7) (v := ?_) (fata (fatS (fatS (fatS (fatS (fatS (fatS (fatS fat0)))))))) (by kernel_rfl) (by kernel_rfl) (by kernel_rfl) (fun _ _ _ h => h) (Or.inl ⟨by rfl, ?_⟩) (by assumption) ?_
      rotate_left
      · (intro w hSw; (try dsimp only at hSw); go_simp; (first | done | with_reducible rfl))
      try simp only [Act.put, List.setIfInBounds_toArray, List.set_cons_zero, List.set_cons_succ]
      refine wpAnyH_take (i := 8) (v := ?_) (fata (fatS (fatS (fatS (fatS (fatS (fatS (fatS (fatS fat0))))))))) (by kernel_rfl) (by kernel_rfl) (by kernel_rfl) (fun _ _ _ h => h) (Or.inl ⟨by rfl, ?_⟩) (by assumption) ?_
      rotate_left
      · (intro w hSw; (try dsimp only at hSw); go_simp; (first | done | with_reducible rfl))
      try simp only [Act.put, List.setIfInBounds_toArray, List.set_cons_zero, List.set_cons_succ]
      refine wpAnyH_take (i := 9) (v := ?_) (fata (fatS (fatS (fatS (fatS (fatS (fatS (fatS (fatS (fatS fat0)))))))))) (by kernel_rfl) (by kernel_rfl) (by kernel_rfl) (fun _ _ _ h => h) (Or.inl ⟨by rfl, ?_⟩) (by assumption) ?_
      rotate_left
      · (intro w hSw; (try dsimp only at hSw); go_simp; (first | done | with_reducible rfl))
      try simp only [Act.put, List.setIfInBounds_toArray, List.set_cons_zero, List.set_cons_succ]
      refine wpAnyH_take (i := 10) (v := ?_) (fata (fatS (fatS (fatS (fatS (fatS (fatS (fatS (fatS (fatS (fatS fat0))))))))))) (by kernel_rfl) (by kernel_rfl) (by kernel_rfl) (fun _ _ _ h => h) (Or.inl ⟨by rfl, ?_⟩) (by assumption) ?_
      rotate_left
      · (intro w hSw; (try dsimp only at hSw); go_simp; (first | done | with_reducible rfl))
      try simp only [Act.put, List.setIfInBounds_toArray, List.set_cons_zero, List.set_cons_succ]
      refine wpAnyH_take (i := 11) (v := ?_) (fata (fatS (fatS (fatS (fatS (fatS (fatS (fatS (fatS (fatS (fatS (fatS fat0)))))))))))) (by kernel_rfl) (by kernel_rfl) (by kernel_rfl) (fun _ _ _ h => h) (Or.inl ⟨by rfl, ?_⟩) (by assumption) ?_
      rotate_left
      · (intro w hSw; (try dsimp only at hSw); go_simp; (first | done | with_reducible rfl))
      try simp only [Act.put, List.setIfInBounds_toArray, List.set_cons_zero, List.set_cons_succ]
      refine wpAnyH_ready (rs := [4]) (by kernel_rfl) (by simp) ?_
      refine AllReadyH.cons (fata (fatS (fatS (fatS (fatS fat0))))) (fun K hK => ?_) AllReadyH.nil
      go_simp
      refine hK.out _ _ (by first | (go_keep; done) | (dsimp only; go_keep; done) | exact ⟨by go_simp, by go_simp⟩) (fun hHeld => ?_)
      clear hK K
      try simp only [Act.put, List.setIfInBounds_toArray, List.set_cons_zero, List.set_cons_succ]
      refine wpAnyH_ready (rs := [12]) (by kernel_rfl) (by simp) ?_
      refine AllReadyH.cons (fata (fatS (fatS (fatS (fatS (fatS (fatS (fatS (fatS (fatS (fatS (fatS (fatS fat0))))))))))))) (fun K hK => ?_) AllReadyH.nil
      ((refine step_append_byt rfl _ _ rfl A n c f.1 t rfl HY.out _ rfl HE.out (by omega) ?_; intro A' c' w1 hy1 ha1; replace ha1 := ha1.undrew; obtain ⟨hb1, hs1⟩ := App.file ha1 HY.out HB.out HS.out; have hi1 : BoxI w1 bc m := ha1.kept HY.out HI.out (by decide); obtain ⟨d0, d1, d2, d3⟩ := hb1.cells; have d4 := cell_of_one hs1; have d5 := cell_of_one hi1; have HY1 := Lib.hid hy1; have HA1 := Lib.hid ha1; have HB1 := Lib.hid hb1; have hn1 : bs ≠ p := (file_box_ne hb1 hs1).symm; have hn2 : bc ≠ p := (file_int_ne hb1 hi1).symm; clear hy1 ha1 hb1 hs1 hi1))
      refine hK.out _ _ (by first | (go_keep; done) | (dsimp only; go_keep; done) | exact ⟨by go_simp, by go_simp⟩) (fun hHeld => ?_)
      clear hK K
      try simp only [Act.put, List.setIfInBounds_toArray, List.set_cons_zero, List.set_cons_succ]
      refine wpAnyH_take (i := 13) (v := ?_) (fata (fatS (fatS (fatS (fatS (fatS (fatS (fatS (fatS (fatS (fatS (fatS (fatS (fatS fat0)))))))))))))) (by kernel_rfl) (by kernel_rfl) (by kernel_rfl) (fun _ _ _ h => h) (Or.inl ⟨by rfl, ?_⟩) (by assumption) ?_
      rotate_left
      · (intro w hSw; (try dsimp only at hSw); go_simp; (first | done | with_reducible rfl))
      try simp only [Act.put, List.setIfInBounds_toArray, List.set_cons_zero, List.set_cons_succ]
      refine wpAnyH_take (i := 14) (v := ?_) (fata (fatS (fatS (fatS (fatS (fatS (fatS (fatS (fatS (fatS (fatS (fatS (fatS (fatS (fatS fat0))))))))))))))) (by kernel_rfl) (by kernel_rfl) (by kernel_rfl) (fun _ _ _ h => h) (Or.inl ⟨by rfl, ?_⟩) (by assumption) ?_
      rotate_left
      · (intro w hSw; (try dsimp only at hSw); go_simp; (first | done | with_reducible rfl))
      try simp only [Act.put, List.setIfInBounds_toArray, List.set_cons_zero, List.set_cons_succ]
      refine wpAnyH_ready (rs := [15]) (by kernel_rfl) (by simp) ?_
      refine AllReadyH.cons (fata (fatS (fatS (fatS (fatS (fatS (fatS (fatS (fatS (fatS (fatS (fatS (fatS (fatS (fatS (fatS fat0)))))))))))))))) (fun K hK => ?_) AllReadyH.nil
      go_simp
      refine hK.out _ _ (by first | (go_keep; done) | (dsimp only; go_keep; done) | exact ⟨by go_simp, by go_simp⟩) (fun hHeld => ?_)
      clear hK K
      try simp only [Act.put, List.setIfInBounds_toArray, List.set_cons_zero, List.set_cons_succ]
      refine wpAnyH_done (by kernel_rfl) ?_ _
      go_wp2
      go_end0
      refine ⟨rfl, ?_⟩
      exact HA.out.appended HY1.out HA1.out ((HB1.out.set0 _ _ _).set1 _) ⟨rfl, rfl, rfl, by simp [World.setCell], fun i _ hi => (Below.heap_setCell _ _ _ _ hi).trans (Below.heap_setCell _ _ _ _ hi)⟩
    · have HE : Hid ((str s).extract 0 m.toNat = str t) := by
        show _ = _
        rw [HT.out, str_take]
      have h3 : m ≤ ((str s).size : Int) := by omega
      have he1 : (if m < 0 then 0 else m) = m := if_neg h1
      have he2 : (if ((str s).size : Int) < m then ((str s).size : Int) else m) = m := if_neg h2
      go_enter Try.func37, Try.ntmps37
      go_wp2
      refine wp_region_held_drew (S := (fun W => W.cell? ⟨bs, 0, none⟩ = some (.string (str s)) ∧ W.cell? ⟨bc, 0, none⟩ = some (.int .i64 m))) (by kernel_rfl) (by first | (go_keep; done) | (dsimp only; go_keep)) (fun hHeld => ?_)
      refine wpAnyH_take (i := 0) (v := ?_) (fata fat0) (by kernel_rfl) (by kernel_rfl) (by kernel_rfl) (fun _ _ _ h => h) (Or.inl ⟨by rfl, ?_⟩) (by assumption) ?_
      rotate_left
      · (intro w hSw; (try dsimp only at hSw); go_simp; (first | done | with_reducible rfl))
      try simp only [Act.put, List.setIfInBounds_toArray, List.set_cons_zero, List.set_cons_succ]
      refine wpAnyH_take (i := 1) (v := ?_) (fata (fatS fat0)) (by kernel_rfl) (by kernel_rfl) (by kernel_rfl) (fun _ _ _ h => h) (Or.inl ⟨by rfl, ?_⟩) (by assumption) ?_
      rotate_left
      · (intro w hSw; (try dsimp only at hSw); go_simp; (first | done | with_reducible rfl))
      try simp only [Act.put, List.setIfInBounds_toArray, List.set_cons_zero, List.set_cons_succ]
      refine wpAnyH_take (i := 2) (v := ?_) (fata (fatS (fatS fat0))) (by kernel_rfl) (by kernel_rfl) (by kernel_rfl) (fun _ _ _ h => h) (Or.inl ⟨by rfl, ?_⟩) (by assumption) ?_
      rotate_left
      · (intro w hSw; (try dsimp only at hSw); go_simp; (first | done | with_reducible rfl))
      try simp only [Act.put, List.setIfInBounds_toArray, List.set_cons_zero, List.set_cons_succ]
      refine wpAnyH_take (i := 3) (v := ?_) (fata (fatS (fatS (fatS fat0)))) (by kernel_rfl) (by kernel_rfl) (by kernel_rfl) (fun _ _ _ h => h) (Or.inl ⟨by rfl, ?_⟩) (by assumption) ?_
      rotate_left
      · (intro w hSw; (try dsimp only at hSw); go_simp; (first | done | with_reducible rfl))
      try simp only [Act.put, List.setIfInBounds_toArray, List.set_cons_zero, List.set_cons_succ]
      refine wpAnyH_take (i := 5) (v := ?_) (fata (fatS (fatS (fatS (fatS (fatS fat0)))))) (by kernel_rfl) (by kernel_rfl) (by kernel_rfl) (fun _ _ _ h => h) (Or.inl ⟨by rfl, ?_⟩) (by assumption) ?_
      rotate_left
      · (intro w hSw; (try dsimp only at hSw); go_simp; (first | done | with_reducible rfl))
      try simp only [Act.put, List.setIfInBounds_toArray, List.set_cons_zero, List.set_cons_succ]
      refine wpAnyH_take (i := 6) (v := ?_) (fata (fatS (fatS (fatS (fatS (fatS (fatS fat0))))))) (by kernel_rfl) (by kernel_rfl) (by kernel_rfl) (fun _ _ _ h => h) (Or.inl ⟨by rfl, ?_⟩) (by assumption) ?_
      rotate_left
      · (intro w hSw; (try dsimp only at hSw); go_simp; (first | done | with_reducible rfl))
      try simp only [Act.put, List.setIfInBounds_toArray, List.set_cons_zero, List.set_cons_succ]
      refine wpAnyH_take (i := 7) (v := ?_) (fata (fatS (fatS (fatS (fatS (fatS (fatS (fatS fat0)))))))) (by kernel_rfl) (by kernel_rfl) (by kernel_rfl) (fun _ _ _ h => h) (Or.inl ⟨by rfl, ?_⟩) (by assumption) ?_
      rotate_left
      · (intro w hSw; (try dsimp only at hSw); go_simp; (first | done | with_reducible rfl))
      try simp only [Act.put, List.setIfInBounds_toArray, List.set_cons_zero, List.set_cons_succ]
      refine wpAnyH_take (i := 8) (v := ?_) (fata (fatS (fatS (fatS (fatS (fatS (fatS (fatS (fatS fat0))))))))) (by kernel_rfl) (by kernel_rfl) (by kernel_rfl) (fun _ _ _ h => h) (Or.inl ⟨by rfl, ?_⟩) (by assumption) ?_
      rotate_left
      · (intro w hSw; (try dsimp only at hSw); go_simp; (first | done | with_reducible rfl))
      try simp only [Act.put, List.setIfInBounds_toArray, List.set_cons_zero, List.set_cons_succ]
      refine wpAnyH_take (i := 9) (v := ?_) (fata (fatS (fatS (fatS (fatS (fatS (fatS (fatS (fatS (fatS fat0)))))))))) (by kernel_rfl) (by kernel_rfl) (by kernel_rfl) (fun _ _ _ h => h) (Or.inl ⟨by rfl, ?_⟩) (by assumption) ?_
      rotate_left
      · (intro w hSw; (try dsimp only at hSw); go_simp; (first | done | with_reducible rfl))
      try simp only [Act.put, List.setIfInBounds_toArray, List.set_cons_zero, List.set_cons_succ]
      refine wpAnyH_take (i := 10) (v := ?_) (fata (fatS (fatS (fatS (fatS (fatS (fatS (fatS (fatS (fatS (fatS fat0))))))))))) (by kernel_rfl) (by kernel_rfl) (by kernel_rfl) (fun _ _ _ h => h) (Or.inl ⟨by rfl, ?_⟩) (by assumption) ?_
      rotate_left
      · (intro w hSw; (try dsimp only at hSw); go_simp; (first | done | with_reducible rfl))
      try simp only [Act.put, List.setIfInBounds_toArray, List.set_cons_zero, List.set_cons_succ]
      refine wpAnyH_take (i := 11) (v := ?_) (fata (fatS (fatS (fatS (fatS (fatS (fatS (fatS (fatS (fatS (fatS (fatS fat0)))))))))))) (by kernel_rfl) (by kernel_rfl) (by kernel_rfl) (fun _ _ _ h => h) (Or.inl ⟨by rfl, ?_⟩) (by assumption) ?_
      rotate_left
      · (intro w hSw; (try dsimp only at hSw); go_simp; (first | done | with_reducible rfl))
      try simp only [Act.put, List.setIfInBounds_toArray, List.set_cons_zero, List.set_cons_succ]
      refine wpAnyH_ready (rs := [4]) (by kernel_rfl) (by simp) ?_
      refine AllReadyH.cons (fata (fatS (fatS (fatS (fatS fat0))))) (fun K hK => ?_) AllReadyH.nil
      go_simp
      refine hK.out _ _ (by first | (go_keep; done) | (dsimp only; go_keep; done) | exact ⟨by go_simp, by go_simp⟩) (fun hHeld => ?_)
      clear hK K
      try simp only [Act.put, List.setIfInBounds_toArray, List.set_cons_zero, List.set_cons_succ]
      refine wpAnyH_ready (rs := [12]) (by kernel_rfl) (by simp) ?_
      refine AllReadyH.cons (fata (fatS (fatS (fatS (fatS (fatS (fatS (fatS (fatS (fatS (fatS (fatS (fatS fat0))))))))))))) (fun K hK => ?_) AllReadyH.nil
      ((refine step_append_byt rfl _ _ rfl A n c f.1 t rfl HY.out _ rfl HE.out (by omega) ?_; intro A' c' w1 hy1 ha1; replace ha1 := ha1.undrew; obtain ⟨hb1, hs1⟩ := App.file ha1 HY.out HB.out HS.out; have hi1 : BoxI w1 bc m := ha1.kept HY.out HI.out (by decide); obtain ⟨d0, d1, d2, d3⟩ := hb1.cells; have d4 := cell_of_one hs1; have d5 := cell_of_one hi1; have HY1 := Lib.hid hy1; have HA1 := Lib.hid ha1; have HB1 := Lib.hid hb1; have hn1 : bs ≠ p := (file_box_ne hb1 hs1).symm; have hn2 : bc ≠ p := (file_int_ne hb1 hi1).symm; clear hy1 ha1 hb1 hs1 hi1))
      refine hK.out _ _ (by first | (go_keep; done) | (dsimp only; go_keep; done) | exact ⟨by go_simp, by go_simp⟩) (fun hHeld => ?_)
      clear hK K
      try simp only [Act.put, List.setIfInBounds_toArray, List.set_cons_zero, List.set_cons_succ]
      refine wpAnyH_take (i := 13) (v := ?_) (fata (fatS (fatS (fatS (fatS (fatS (fatS (fatS (fatS (fatS (fatS (fatS (fatS (fatS fat0)))))))))))))) (by kernel_rfl) (by kernel_rfl) (by kernel_rfl) (fun _ _ _ h => h) (Or.inl ⟨by rfl, ?_⟩) (by assumption) ?_
      rotate_left
      · (intro w hSw; (try dsimp only at hSw); go_simp; (first | done | with_reducible rfl))
      try simp only [Act.put, List.setIfInBounds_toArray, List.set_cons_zero, List.set_cons_succ]
      refine wpAnyH_take (i := 14) (v := ?_) (fata (fatS (fatS (fatS (fatS (fatS (fatS (fatS (fatS (fatS (fatS (fatS (fatS (fatS (fatS fat0))))))))))))))) (by kernel_rfl) (by kernel_rfl) (by kernel_rfl) (fun _ _ _ h => h) (Or.inl ⟨by rfl, ?_⟩) (by assumption) ?_
      rotate_left
      · (intro w hSw; (try dsimp only at hSw); go_simp; (first | done | with_reducible rfl))
      try simp only [Act.put, List.setIfInBounds_toArray, List.set_cons_zero, List.set_cons_succ]
      refine wpAnyH_ready (rs := [15]) (by kernel_rfl) (by simp) ?_
      refine AllReadyH.cons (fata (fatS (fatS (fatS (fatS (fatS (fatS (fatS (fatS (fatS (fatS (fatS (fatS (fatS (fatS (fatS fat0)))))))))))))))) (fun K hK => ?_) AllReadyH.nil
      go_simp
      refine hK.out _ _ (by first | (go_keep; done) | (dsimp only; go_keep; done) | exact ⟨by go_simp, by go_simp⟩) (fun hHeld => ?_)
      clear hK K
      try simp only [Act.put, List.setIfInBounds_toArray, List.set_cons_zero, List.set_cons_succ]
      refine wpAnyH_done (by kernel_rfl) ?_ _
      go_wp2
      go_end0
      refine ⟨rfl, ?_⟩
      exact HA.out.appended HY1.out HA1.out ((HB1.out.set0 _ _ _).set1 _) ⟨rfl, rfl, rfl, by simp [World.setCell], fun i _ hi => (Below.heap_setCell _ _ _ _ hi).trans (Below.heap_setCell _ _ _ _ hi)⟩
end Go.Proofs.Ytpbgckpjgfjmgaa.gn
