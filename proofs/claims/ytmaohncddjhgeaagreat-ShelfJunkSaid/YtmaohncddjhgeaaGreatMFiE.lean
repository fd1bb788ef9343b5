/- Bytes appended to a file's, as a step of a region; the contracts of the closures that write a file. -/
import Derived.Test.YtmaohncddjhgeaaGreatMFiD
import Derived.BigRegion
import Derived.Deep.RegionLaw
import Derived.Deep.RegionHeld3
section
set_option linter.unusedVariables false
namespace Go.Proofs.YtmaohncddjhgeaaGreat.gn
open Go.RowKit
open Go.Proofs.YtmaohncddjhgeaaGreat.fi

theorem fat0 {α : Type} {o : α} {l : List α} : (o :: l)[0]? = some o := rfl
theorem fatS {α : Type} {o x : α} {l : List α} {n : Nat} (h : l[n]? = some o) : (x :: l)[n + 1]? = some o := h
theorem fata {α : Type} {o : α} {l : List α} {n : Nat} (h : l[n]? = some o) : l.toArray[n]? = some o := by simpa using h

theorem strCells_str (s : List UInt8) : Lib.strCells (str s) = Lib.byteCells s := by simp [Lib.strCells, Lib.byteCells, str]
theorem byteCells_app (a b : List UInt8) : Lib.byteCells (a ++ b) = Lib.byteCells a ++ Lib.byteCells b := by simp [Lib.byteCells]

/-- Where the appended bytes have gone: to the row that there was, or to a new one. -/
def App (w : World) (A : Option Addr) (n c : Nat) (A' : Option Addr) (n' c' : Nat) (w1 : World) : Prop :=
  (A' = A ∧ c' = c ∧ n ≤ n' ∧ (n < c ∨ n' = n) ∧ w.grownBy w1 (A.map (·.block)) ∧ w1.heap.size = w.heap.size ∧
    ∀ g cur, A = some ⟨g, 0, none⟩ → w.heap[g]? = some (.cells cur 5 (0, 0)) → ∃ cur', w1.heap[g]? = some (.cells cur' 5 (0, 0)) ∧ cur'.size = cur.size ∧ ∀ m, (m ≤ n ∨ n' = n) → cur'.toList.take m = cur.toList.take m) ∨
  ∃ g', A' = some ⟨g', 0, none⟩ ∧ w.heap.size ≤ g' ∧ Below w.heap.size w w1

theorem run_append_byt (w : World) (A : Option Addr) (n c : Nat) (l s : List UInt8) (h : Byt w A n c l) (hlim : n + s.length ≤ 1099511627776) (ty : TypeId) :
    ∃ A' c' w1, (Builtin.append_ #[80, 9] ty #[.slice A n c, .string (str s)]).run Tryz.prog w = .ok (.slice A' (n + s.length) c') w1 ∧ Byt w1 A' (n + s.length) c' (l ++ s) ∧ App w A n c A' (n + s.length) c' w1 := by
  obtain ⟨i0, hi, hz, hs, hby⟩ := info_parts Tryz.info5
  have hsz : (str s).size = s.length := str_size s
  obtain ⟨h1, h2, h3, h4⟩ := h
  have hml : n + s.length ≤ maxLen := by unfold maxLen; omega
  have hlen : (l ++ s).length = n + s.length := by rw [List.length_append, h1]
  rcases h4 with ⟨rfl, rfl⟩ | ⟨g, cur, rfl, hg, hc, htk⟩
  · obtain rfl : n = 0 := by omega
    obtain rfl : l = [] := List.eq_nil_of_length_eq_zero h1
    by_cases hm : s.length = 0
    · obtain rfl : s = [] := List.eq_nil_of_length_eq_zero hm
      refine ⟨none, 0, w, ?_, ⟨rfl, Nat.le_refl _, Nat.zero_le _, .inl ⟨rfl, rfl⟩⟩, .inl ⟨rfl, rfl, Nat.le_refl _, .inr rfl, ⟨rfl, rfl, rfl, Nat.le_refl _, fun _ _ _ => rfl⟩, rfl, fun g cur hg => by cases hg⟩⟩
      have hf : (Builtin.firstCells 1 0 (.string (str []))).run Tryz.prog w = .ok #[] w := by
        have hf := Lib.run_firstCells_string (P := Tryz.prog) w 1 (str [])
        rw [hsz] at hf
        exact hf
      simp [Builtin.append_, run_underlying Tryz.underlying80, run_underlying Tryz.underlying9, sizeOf, typeInfo, hi, hs, Builtin.lenOf, hsz, hf]
    · have hr := run_append_nil_string (P := Tryz.prog) w 80 9 ty 5 i0 (.int .u8 0) Tryz.underlying80 Tryz.underlying9 hi hz (str s) (by omega) (by omega) (by rw [hby]; omega)
      have hge := grownCap_ge w s.length 0 5
      have hcm : grownCap w s.length 0 5 ≤ maxLen := grownCap_le_maxLen w s.length 0 _ (by unfold maxLen; omega)
      rw [hsz] at hr
      refine ⟨_, _, _, by rw [Nat.zero_add]; exact hr, ⟨hlen, by omega, hcm, .inr ⟨w.heap.size, _, rfl, heap_alloc_new w.drew _, ?_, ?_⟩⟩, .inr ⟨_, rfl, Nat.le_refl _, ⟨rfl, rfl, rfl, by simp, fun k hk => Below.heap_alloc w.drew _ k hk⟩⟩⟩
      · have hz1 : (Value.int IntKind.u8 0).cells.size = 1 := rfl
        have hd : (str s).data.size = s.length := by simp [str]
        simp only [Array.size_append, Array.size_map, size_zeroCells, hz1, hd]
        omega
      · simp only [Array.toList_append, Nat.zero_add, List.nil_append]
        have : ((str s).data.map fun b => Value.int .u8 (b.toNat : Int)).toList = Lib.byteCells s := by simp [str, Lib.byteCells]
        rw [this]
        have hbl : (Lib.byteCells s).length = s.length := by simp [Lib.byteCells]
        rw [← hbl]
        exact List.take_left
  · have htl : (cur.toList.take n).length = n := by rw [List.length_take, Array.length_toList]; omega
    by_cases hroom : n + s.length ≤ c
    · have hr := Lib.run_append_room_string (P := Tryz.prog) w 80 9 ty 5 i0 Tryz.underlying80 Tryz.underlying9 hi hs g n c cur hg (str s) (by omega) (by omega)
      rw [hsz, strCells_str, htk] at hr
      have hbl : (Lib.byteCells s).length = s.length := by simp [Lib.byteCells]
      have hll : (Lib.byteCells l).length = n := by simp [Lib.byteCells, h1]
      have hh := setRow_heap w g cur (Lib.byteCells l ++ Lib.byteCells s ++ cur.toList.drop (n + s.length)).toArray 5 (0, 0) hg
      have hsz' : (Lib.byteCells l ++ Lib.byteCells s ++ cur.toList.drop (n + s.length)).toArray.size = cur.size := by
        simp only [List.size_toArray, List.length_append, List.length_drop, Array.length_toList, hll, hbl]
        omega
      refine ⟨_, _, _, hr, ⟨hlen, hroom, h3, .inr ⟨g, _, rfl, hh, by omega, ?_⟩⟩, .inl ⟨rfl, rfl, by omega, by omega, ⟨rfl, rfl, rfl, by simp, fun k _ hk => setRow_other w g k _ (fun e => hk (by simp [e]))⟩, by simp, ?_⟩⟩
      · rw [List.toList_toArray, byteCells_app, show n + s.length = (Lib.byteCells l ++ Lib.byteCells s).length by rw [List.length_append, hll, hbl]]
        exact List.take_left
      · intro g2 cur2 e2 hg2
        cases e2
        rw [hg] at hg2
        cases hg2
        refine ⟨_, hh, hsz', fun m hm => ?_⟩
        rw [List.toList_toArray]
        rcases hm with hm | hm
        · rw [List.append_assoc, List.take_append_of_le_length (by omega), ← htk, List.take_take, Nat.min_eq_left hm]
        · have hs0 : s.length = 0 := by omega
          obtain rfl : s = [] := List.eq_nil_of_length_eq_zero hs0
          simp only [Lib.byteCells, List.map_nil, List.append_nil, List.length_nil, Nat.add_zero] at htk ⊢
          rw [← htk, List.take_append_drop]
    · have holds : ∀ j u, (Lib.byteCells l)[j]? = some u → w.cell? ((⟨g, 0, none⟩ : Addr).add j) = some u := by
        intro j u hj
        have hadd : (⟨g, 0, none⟩ : Addr).add j = ⟨g, j, none⟩ := by unfold Addr.add; split <;> simp_all
        rw [hadd, cell_of_row w g j cur _ (0, 0) hg, ← Array.getElem?_toList]
        rw [← htk, List.getElem?_take] at hj
        split at hj
        · exact hj
        · cases hj
      have hr := Lib.run_append_grow_string (P := Tryz.prog) w 80 9 ty 5 i0 (.int .u8 0) Tryz.underlying80 Tryz.underlying9 hi hz ⟨g, 0, none⟩ n c (Lib.byteCells l) (by rw [hs]; simp [Lib.byteCells, h1]) holds (str s) (by omega) (by omega) (by rw [hby]; exact growslice_fits (by omega) (by omega))
      rw [hsz, strCells_str] at hr
      have hge := grownCap_ge w (n + s.length) c 5
      have hcm : grownCap w (n + s.length) c 5 ≤ maxLen := grownCap_le_maxLen w (n + s.length) c _ hml
      have hbl : (Lib.byteCells s).length = s.length := by simp [Lib.byteCells]
      have hll : (Lib.byteCells l).length = n := by simp [Lib.byteCells, h1]
      refine ⟨_, _, _, hr, ⟨hlen, hge, hcm, .inr ⟨w.heap.size, _, rfl, heap_alloc_new w.drew _, ?_, ?_⟩⟩, .inr ⟨_, rfl, Nat.le_refl _, ⟨rfl, rfl, rfl, by simp, fun k hk => Below.heap_alloc w.drew _ k hk⟩⟩⟩
      · have hz1 : (Value.int IntKind.u8 0).cells.size = 1 := rfl
        simp only [Array.size_append, List.size_toArray, size_zeroCells, hz1, hbl, hll]
        omega
      · simp only [Array.toList_append, List.append_assoc]
        rw [← List.append_assoc, byteCells_app, show n + s.length = (Lib.byteCells l ++ Lib.byteCells s).length by rw [List.length_append, hll, hbl]]
        exact List.take_left

theorem step_append_byt {ops : Array Oper} {o : Oper} {a : Act} {w : World} {K : Act → World → Prop} {Q : Exit → Act → World → Prop} {E : Prop} (hgd : o.guard = none) (s x : Operand)
    (ho : o.op = .call { callee := .builtin .append, args := #[s, x], argTypes := #[80, 9] })
    (A : Option Addr) (n c : Nat) (l t : List UInt8) (hs : a.eval s = .slice A n c) (h : Byt w A n c l) (xb : ByteArray) (hx : a.eval x = .string xb) (hxe : xb = str t) (hlim : n + t.length ≤ 1099511627776)
    (hK : ∀ A' c' w1, Byt w1 A' (n + t.length) c' (l ++ t) → App w A n c A' (n + t.length) c' w1 → K (a.put o.dst (.slice A' (n + t.length) c')) w1) :
    if Region.wanted o (yielded ops a.tmps) = true then Oper.wp Tryz.prog o a w K Q else E := by
  have hw : Region.wanted o (yielded ops a.tmps) = true := by simp [Region.wanted, hgd]
  rw [if_pos hw]
  subst hxe
  obtain ⟨A', c', w1, hr, h2, h3⟩ := run_append_byt w A n c l t h hlim o.type
  unfold Oper.wp execOp
  simp only [ho, resolve, invoke, builtin, Sem.run_bind, Sem.run_pure, Result.andThen_ok, List.map_toArray, List.map_cons, List.map_nil, hs, hx, hr]
  exact hK A' c' w1 h2 h3
end Go.Proofs.YtmaohncddjhgeaaGreat.gn
end
section
set_option linter.unusedVariables false
namespace Go.Proofs.YtmaohncddjhgeaaGreat.gn
open Go.RowKit
open Go.Proofs.YtmaohncddjhgeaaGreat.fi

theorem BlkF.cells {w : World} {p : Nat} {A : Option Addr} {n c : Nat} {d : Bool} (h : BlkF w p A n c d) :
    w.cell? ⟨p, 0, none⟩ = some (.slice A n c) ∧ w.cell? ⟨p, 1, none⟩ = some (.bool d) ∧ w.frozen? ⟨p, 0, none⟩ = false ∧ w.frozen? ⟨p, 1, none⟩ = false :=
  ⟨by rw [cell_of_row w p 0 _ _ _ h]; rfl, by rw [cell_of_row w p 1 _ _ _ h]; rfl, frozen_of_row w p 0 _ _ h, frozen_of_row w p 1 _ _ h⟩
theorem BlkF.set0 {w : World} {p : Nat} {A : Option Addr} {n c : Nat} {d : Bool} (h : BlkF w p A n c d) (A' : Option Addr) (n' c' : Nat) : BlkF (w.setCell ⟨p, 0, none⟩ (.slice A' n' c')) p A' n' c' d := heap_setCell h _
theorem BlkF.set1 {w : World} {p : Nat} {A : Option Addr} {n c : Nat} {d : Bool} (h : BlkF w p A n c d) (d' : Bool) : BlkF (w.setCell ⟨p, 1, none⟩ (.bool d')) p A n c d' := heap_setCell h _

/-- What is known of the file that stands at k. -/
structure At (w : World) (X : Nat → Prop) (G : Lay) (TT : Nat → Option Tb) (b : Nat) (T : Tb) (k : Nm) (f : Fl) (p : Nat) (A : Option Addr) (n c : Nat) : Prop where
  sys : SysG w X G TT
  tab : TT b = some T
  is : fi.get k T = some f
  at_ : fi.get k (G.tab b) = some p
  x : X p
  blk : BlkF w p A n c f.2
  byt : Byt w A n c f.1
  row : ∀ g, A = some ⟨g, 0, none⟩ → X g ∧ n ≤ G.len g ∧ (c = n ∨ (n = G.len g ∧ G.tail g = p))
theorem SysG.at_ {w : World} {X : Nat → Prop} {G : Lay} {TT : Nat → Option Tb} {b : Nat} {T : Tb} (h : SysG w X G TT) (hT : TT b = some T) {k : Nm} {f : Fl} (hf : fi.get k T = some f) : ∃ p A n c, At w X G TT b T k f p A n c := by
  obtain ⟨p, A, n, c, h1, h2, h3, h4, _, h5⟩ := h.file hT hf
  exact ⟨p, A, n, c, h, hT, hf, h1, h2, h3, h4, h5⟩
theorem At.only {w w' : World} {X : Nat → Prop} {G : Lay} {TT : Nat → Option Tb} {b : Nat} {T : Tb} {k : Nm} {f : Fl} {p : Nat} {A : Option Addr} {n c : Nat} (h : At w X G TT b T k f p A n c)
    (ho : Only (fun i => i = p ∨ some i = A.map (·.block)) w w') : OnlyT X w w' := by
  refine Only.mono ho fun i hi hh => ?_
  rcases hh with rfl | hh
  · exact ⟨h.x, .inr (.inl ⟨_, h.blk⟩)⟩
  · rcases h.byt.form with ⟨rfl, _⟩ | ⟨g, rfl⟩
    · cases hh
    · obtain rfl : i = g := by simpa using hh
      obtain ⟨cur, hc, _⟩ := h.byt.lt rfl
      exact ⟨(h.row i rfl).1, .inr (.inr ⟨cur, hc⟩)⟩
/-- The file with bytes appended. -/
theorem At.appended {w w1 w2 : World} {X : Nat → Prop} {G : Lay} {TT : Nat → Option Tb} {b : Nat} {T : Tb} {k : Nm} {f : Fl} {p : Nat} {A : Option Addr} {n c : Nat} (h : At w X G TT b T k f p A n c)
    {A' : Option Addr} {n' c' : Nat} {l' : List UInt8} {d' : Bool} (hy : Byt w1 A' n' c' l') (ha : App w A n c A' n' c' w1) (hb : BlkF w2 p A' n' c' d') (ho : Only (fun i => i = p) w1 w2) :
    SysT w2 (ext X w w2) (upd TT b (fi.mod k (fun _ => (l', d')) T)) ∧ OnlyT X w w2 := by
  have hpn := lt_of_block h.blk
  have hy2 : w1.heap.size ≤ w2.heap.size → Byt w2 A' n' c' l' := fun _ => hy.kept fun g hg hlt => ho.block g hlt fun e => by
    subst e
    obtain ⟨cur, hc, _⟩ := hy.lt hg
    rcases ha with ⟨rfl, _, _, _, hgr, hs, _⟩ | ⟨g', rfl, hg', _⟩
    · obtain ⟨cur0, hc0, _⟩ := h.byt.lt hg
      exact absurd rfl (bytes_ne hc0 h.blk)
    · cases hg
      omega
  have hy3 := hy2 ho.size
  rcases ha with ⟨rfl, rfl, hn, hnc, hgr, hs, hrow⟩ | ⟨g', rfl, hg', hbel⟩
  · refine ⟨h.sys.write_same h.tab h.at_ h.blk h.row (f' := (l', d')) hb hy3 (fun i hi hp hg => ?_) (fun g cur hg hcur => ?_) (.inr ⟨rfl, hn, hnc⟩), h.only ?_⟩
    · refine (ho.block i (by omega) hp).trans (hgr.block i hi fun e => ?_)
      rcases h.byt.form with ⟨rfl, _⟩ | ⟨g, rfl⟩
      · cases e
      · exact hg g rfl (by simpa using e)
    · obtain ⟨cur', h1, h2, h3⟩ := hrow g cur hg hcur
      refine ⟨cur', (ho.block g (by have := lt_of_block hcur; omega) fun e => ?_).trans h1, h2, fun m hm => h3 m ?_⟩
      · subst e
        exact absurd rfl (bytes_ne hcur h.blk)
      · rcases hnc with hnc | hnc
        · rcases (h.row g hg).2.2 with h4 | ⟨h4, _⟩
          · omega
          · exact .inl (by omega)
        · exact .inr hnc
    · exact Only.trans (Only.of_grown hgr fun i hi => .inr hi.symm) ho fun i _ hi => .inl hi
  · refine ⟨h.sys.write_new h.tab h.at_ h.blk (f' := (l', d')) hb hy3 hg' (fun i hi hp => (ho.block i (Nat.lt_of_lt_of_le hi hbel.size) hp).trans (hbel.block i hi)), h.only ?_⟩
    exact Only.trans (Only.of_below hbel) ho fun i _ hi => .inl hi

theorem App.undrew {w w1 : World} {A A' : Option Addr} {n c n' c' : Nat} (h : App w.drew A n c A' n' c' w1) : App w A n c A' n' c' w1 := by
  rcases h with ⟨h1, h2, h3, h4, h5, h6⟩ | ⟨g', h1, h2, h3⟩
  · exact .inl ⟨h1, h2, h3, h4, ⟨h5.os, h5.tape, h5.output, h5.size, h5.block⟩, h6⟩
  · exact .inr ⟨g', h1, h2, ⟨h3.os, h3.tape, h3.output, h3.size, h3.block⟩⟩
theorem App.kept {w w1 : World} {A A' : Option Addr} {n c n' c' : Nat} {l : List UInt8} (ha : App w A n c A' n' c' w1) (hy : Byt w A n c l) {i : Nat} {cs : Array Value} {t : TypeId} (hi : w.heap[i]? = some (.cells cs t (0, 0))) (ht : t ≠ 5) : w1.heap[i]? = some (.cells cs t (0, 0)) := by
  rcases ha with ⟨rfl, _, _, _, hgr, _⟩ | ⟨g', _, _, hbel⟩
  · refine (hgr.block i (lt_of_block hi) fun e => ?_).trans hi
    rcases hy.form with ⟨rfl, _⟩ | ⟨g, rfl⟩
    · cases e
    · obtain rfl : i = g := by simpa using e
      obtain ⟨cur, hc, _⟩ := hy.lt rfl
      rw [hi] at hc
      simp at hc
      exact ht hc.2
  · exact (hbel.block i (lt_of_block hi)).trans hi
theorem App.file {w w1 : World} {A A' : Option Addr} {n c n' c' : Nat} {l : List UInt8} (ha : App w A n c A' n' c' w1) (hy : Byt w A n c l) {p bs : Nat} {d : Bool} {s : List UInt8} (hp : BlkF w p A n c d) (hb : BoxS w bs s) :
    BlkF w1 p A n c d ∧ BoxS w1 bs s := ⟨ha.kept hy hp (by decide), ha.kept hy hb (by decide)⟩

theorem file_box_ne {w : World} {p b : Nat} {A : Option Addr} {n c : Nat} {d : Bool} {s : List UInt8} (hp : BlkF w p A n c d) (hb : BoxS w b s) : p ≠ b := by
  rintro rfl
  unfold BlkF at hp
  unfold BoxS at hb
  rw [hb] at hp
  simp at hp
theorem file_int_ne {w : World} {p b : Nat} {A : Option Addr} {n c : Nat} {d : Bool} {s : Int} (hp : BlkF w p A n c d) (hb : BoxI w b s) : p ≠ b := by
  rintro rfl
  unfold BlkF at hp
  unfold BoxI at hb
  rw [hb] at hp
  simp at hp

set_option maxHeartbeats 4000000 in
theorem app11_any (w : World) (X : Nat → Prop) (G : Lay) (TT : Nat → Option Tb) (b : Nat) (T : Tb) (k : Nm) (f : Fl) (p : Nat) (A : Option Addr) (n c : Nat) (h : At w X G TT b T k f p A n c) (bs : Nat) (s : List UInt8) (hb : BoxS w bs s) (hlim : n + s.length ≤ 1099511627776) :
    Calls Tryz.prog 43 #[.pointer (some ⟨p, 0, none⟩), .pointer (some ⟨bs, 0, none⟩)] w (Goes X TT b (fi.mod k (fun _ => (f.1 ++ s, f.2)) T) w) := by
  obtain ⟨c0, c1, f0, f1⟩ := h.blk.cells
  have hc := cell_of_one hb
  have hpn := lt_of_block h.blk
  have HA := Lib.hid h
  have HY := Lib.hid h.byt
  have HB := Lib.hid h.blk
  have HS := Lib.hid hb
  clear h hb
  go_enter Tryz.func43, Tryz.ntmps43
  go_wp2
  go_region_law
    (first | (refine step_append_byt rfl _ _ rfl A n c f.1 s rfl HY.out _ rfl rfl hlim ?_; intro A' c' w1 hy1 ha1; replace ha1 := ha1.undrew; obtain ⟨hb1, hs1⟩ := App.file ha1 HY.out HB.out HS.out; obtain ⟨d0, d1, d2, d3⟩ := hb1.cells; have d4 := cell_of_one hs1; have HY1 := Lib.hid hy1; have HA1 := Lib.hid ha1; have HB1 := Lib.hid hb1; clear hy1 ha1 hb1 hs1))
  all_goals
    go_end0
    refine ⟨rfl, ?_⟩
    exact HA.out.appended HY1.out HA1.out (HB1.out.set0 _ _ _) ⟨rfl, rfl, rfl, by simp [World.setCell], fun i _ hi => Below.heap_setCell _ _ _ _ hi⟩

set_option maxHeartbeats 4000000 in
theorem app21_any (w : World) (X : Nat → Prop) (G : Lay) (TT : Nat → Option Tb) (b : Nat) (T : Tb) (k : Nm) (f : Fl) (p : Nat) (A : Option Addr) (n c : Nat) (h : At w X G TT b T k f p A n c) (bs : Nat) (s : List UInt8) (hb : BoxS w bs s) (bc : Nat) (m : Int) (hc : BoxI w bc m) (hlim : n + s.length ≤ 1099511627776) :
    Calls Tryz.prog 45 #[.pointer (some ⟨p, 0, none⟩), .pointer (some ⟨bs, 0, none⟩), .pointer (some ⟨bc, 0, none⟩)] w (Goes X TT b (fi.mod k (fun _ => (f.1 ++ s.take m.toNat, true)) T) w) := by
  obtain ⟨t, ht⟩ : ∃ t, t = s.take m.toNat := ⟨_, rfl⟩
  have htl : t.length ≤ s.length := by rw [ht, List.length_take]; omega
  rw [← ht]
  have HT := Lib.hid ht
  clear ht
  obtain ⟨c0, c1, f0, f1⟩ := h.blk.cells
  have hcs := cell_of_one hb
  have hci := cell_of_one hc
  have hpn := lt_of_block h.blk
  have HA := Lib.hid h
  have HY := Lib.hid h.byt
  have HB := Lib.hid h.blk
  have HS := Lib.hid hb
  have hsz : (0 : Int) ≤ ((str s).size : Int) := by omega
  have hsz0 : ¬ ((str s).size : Int) < 0 := by omega
  have HZ := Lib.hid (str_size s)
  have HI := Lib.hid hc
  clear h hb hc
  by_cases h1 : m < 0
  · have HE : Hid (ByteArray.empty = str t) := by
      show _ = _
      rw [HT.out, show m.toNat = 0 by omega]
      rfl
    have he2 : (if ((str s).size : Int) < 0 then ((str s).size : Int) else 0) = 0 := if_neg hsz0
    go_enter Tryz.func45, Tryz.ntmps45
    go_wp2
    refine wp_region_held_drew (S := (fun W => W.cell? ⟨bs, 0, none⟩ = some (.string (str s)) ∧ W.cell? ⟨bc, 0, none⟩ = some (.int .i64 m))) (by kernel_rfl) (by first | (go_keep; done) | (dsimp only; go_keep)) (fun hHeld => ?_)
    refine wpAnyH_take (i := 0) (v := ?_) (fata fat0) (by kernel_rfl) (by kernel_rfl) (by kernel_rfl) (fun _ _ _ h => h) (Or.inl ⟨by rfl, ?_⟩) (by assumption) ?_
    rotate_left
    · (intro w hSw; (try dsimp only at hSw); go_simp; (first | done | with_reducible rfl))
    try simp only [Act.put, List.setIfInBounds_toArray, List.set_cons_zero, List.set_cons_succ]
    refine wpAnyH_take (i := 1) (v := ?_) (fata (fatS fat0)) (by kernel_rfl) (by kernel_rfl) (by kernel_rfl) (fun _ _ _ h => h) (Or.inl ⟨by rfl, ?_⟩) (by assumption) ?_
    rotate_left
    · (intro w hSw; (try dsimp only at hSw); go_simp; (first | done | with_reducible rfl))
    try simp only [Act.put, List.setIfInBounds_toArray, List.set_cons_zero, List.set_cons_succ]
    refine wpAnyH_take (i := 2) (v := ?_) (fata (fatS (fatS fat0))) (by kernel_rfl) (by kernel_rfl) (by kernel_rfl) (fun _ _ _ h => h) (Or.inl ⟨by rfl, ?_⟩) (by assumption) ?_
    rotate_left
    · (intro w hSw; (try dsimp only at hSw); go_simp; (first | done | with_reducible rfl))
    try simp only [Act.put, List.setIfInBounds_toArray, List.set_cons_zero, List.set_cons_succ]
    refine wpAnyH_take (i := 3) (v := ?_) (fata (fatS (fatS (fatS fat0)))) (by kernel_rfl) (by kernel_rfl) (by kernel_rfl) (fun _ _ _ h => h) (Or.inl ⟨by rfl, ?_⟩) (by assumption) ?_
    rotate_left
    · (intro w hSw; (try dsimp only at hSw); go_simp; (first | done | with_reducible rfl))
    try simp only [Act.put, List.setIfInBounds_toArray, List.set_cons_zero, List.set_cons_succ]
    refine wpAnyH_take (i := 5) (v := ?_) (fata (fatS (fatS (fatS (fatS (fatS fat0)))))) (by kernel_rfl) (by kernel_rfl) (by kernel_rfl) (fun _ _ _ h => h) (Or.inl ⟨by rfl, ?_⟩) (by assumption) ?_
    rotate_left
    · (intro w hSw; (try dsimp only at hSw); go_simp; (first | done | with_reducible rfl))
    try simp only [Act.put, List.setIfInBounds_toArray, List.set_cons_zero, List.set_cons_succ]
    refine wpAnyH_take (i := 6) (v := ?_) (fata (fatS (fatS (fatS (fatS (fatS (fatS fat0))))))) (by kernel_rfl) (by kernel_rfl) (by kernel_rfl) (fun _ _ _ h => h) (Or.inl ⟨by rfl, ?_⟩) (by assumption) ?_
    rotate_left
    · (intro w hSw; (try dsimp only at hSw); go_simp; (first | done | with_reducible rfl))
    try simp only [Act.put, List.setIfInBounds_toArray, List.set_cons_zero, List.set_cons_succ]
    refine wpAnyH_take (i := 7) (v := ?_) (fata (fatS (fatS (fatS (fatS (fatS (fatS (fatS fat0)))))))) (by kernel_rfl) (by kernel_rfl) (by kernel_rfl) (fun _ _ _ h => h) (Or.inl ⟨by rfl, ?_⟩) (by assumption) ?_
    rotate_left
    · (intro w hSw; (try dsimp only at hSw); go_simp; (first | done | with_reducible rfl))
    try simp only [Act.put, List.setIfInBounds_toArray, List.set_cons_zero, List.set_cons_succ]
    refine wpAnyH_take (i := 8) (v := ?_) (fata (fatS (fatS (fatS (fatS (fatS (fatS (fatS (fatS fat0))))))))) (by kernel_rfl) (by kernel_rfl) (by kernel_rfl) (fun _ _ _ h => h) (Or.inl ⟨by rfl, ?_⟩) (by assumption) ?_
    rotate_left
    · (intro w hSw; (try dsimp only at hSw); go_simp; (first | done | with_reducible rfl))
    try simp only [Act.put, List.setIfInBounds_toArray, List.set_cons_zero, List.set_cons_succ]
    refine wpAnyH_take (i := 9) (v := ?_) (fata (fatS (fatS (fatS (fatS (fatS (fatS (fatS (fatS (fatS fat0)))))))))) (by kernel_rfl) (by kernel_rfl) (by kernel_rfl) (fun _ _ _ h => h) (Or.inl ⟨by rfl, ?_⟩) (by assumption) ?_
    rotate_left
    · (intro w hSw; (try dsimp only at hSw); go_simp; (first | done | with_reducible rfl))
    try simp only [Act.put, List.setIfInBounds_toArray, List.set_cons_zero, List.set_cons_succ]
    refine wpAnyH_take (i := 10) (v := ?_) (fata (fatS (fatS (fatS (fatS (fatS (fatS (fatS (fatS (fatS (fatS fat0))))))))))) (by kernel_rfl) (by kernel_rfl) (by kernel_rfl) (fun _ _ _ h => h) (Or.inl ⟨by rfl, ?_⟩) (by assumption) ?_
    rotate_left
    · (intro w hSw; (try dsimp only at hSw); go_simp; (first | done | with_reducible rfl))
    try simp only [Act.put, List.setIfInBounds_toArray, List.set_cons_zero, List.set_cons_succ]
    refine wpAnyH_take (i := 11) (v := ?_) (fata (fatS (fatS (fatS (fatS (fatS (fatS (fatS (fatS (fatS (fatS (fatS fat0)))))))))))) (by kernel_rfl) (by kernel_rfl) (by kernel_rfl) (fun _ _ _ h => h) (Or.inl ⟨by rfl, ?_⟩) (by assumption) ?_
    rotate_left
    · (intro w hSw; (try dsimp only at hSw); go_simp; (first | done | with_reducible rfl))
    try simp only [Act.put, List.setIfInBounds_toArray, List.set_cons_zero, List.set_cons_succ]
    refine wpAnyH_ready (rs := [4]) (by kernel_rfl) (by simp) ?_
    refine AllReadyH.cons (fata (fatS (fatS (fatS (fatS fat0))))) (fun K hK => ?_) AllReadyH.nil
    go_simp
    refine hK.out _ _ (by first | (go_keep; done) | (dsimp only; go_keep; done) | exact ⟨by go_simp, by go_simp⟩) (fun hHeld => ?_)
    clear hK K
    try simp only [Act.put, List.setIfInBounds_toArray, List.set_cons_zero, List.set_cons_succ]
    refine wpAnyH_ready (rs := [12]) (by kernel_rfl) (by simp) ?_
    refine AllReadyH.cons (fata (fatS (fatS (fatS (fatS (fatS (fatS (fatS (fatS (fatS (fatS (fatS (fatS fat0))))))))))))) (fun K hK => ?_) AllReadyH.nil
    ((refine step_append_byt rfl _ _ rfl A n c f.1 t rfl HY.out _ rfl HE.out (by omega) ?_; intro A' c' w1 hy1 ha1; replace ha1 := ha1.undrew; obtain ⟨hb1, hs1⟩ := App.file ha1 HY.out HB.out HS.out; have hi1 : BoxI w1 bc m := ha1.kept HY.out HI.out (by decide); obtain ⟨d0, d1, d2, d3⟩ := hb1.cells; have d4 := cell_of_one hs1; have d5 := cell_of_one hi1; have HY1 := Lib.hid hy1; have HA1 := Lib.hid ha1; have HB1 := Lib.hid hb1; have hn1 : bs ≠ p := (file_box_ne hb1 hs1).symm; have hn2 : bc ≠ p := (file_int_ne hb1 hi1).symm; clear hy1 ha1 hb1 hs1 hi1))
    refine hK.out _ _ (by first | (go_keep; done) | (dsimp only; go_keep; done) | exact ⟨by go_simp, by go_simp⟩) (fun hHeld => ?_)
    clear hK K
    try simp only [Act.put, List.setIfInBounds_toArray, List.set_cons_zero, List.set_cons_succ]
    refine wpAnyH_take (i := 13) (v := ?_) (fata (fatS (fatS (fatS (fatS (fatS (fatS (fatS (fatS (fatS (fatS (fatS (fatS (fatS fat0)))))))))))))) (by kernel_rfl) (by kernel_rfl) (by kernel_rfl) (fun _ _ _ h => h) (Or.inl ⟨by rfl, ?_⟩) (by assumption) ?_
    rotate_left
    · (intro w hSw; (try dsimp only at hSw); go_simp; (first | done | with_reducible rfl))
    try simp only [Act.put, List.setIfInBounds_toArray, List.set_cons_zero, List.set_cons_succ]
    refine wpAnyH_take (i := 14) (v := ?_) (fata (fatS (fatS (fatS (fatS (fatS (fatS (fatS (fatS (fatS (fatS (fatS (fatS (fatS (fatS fat0))))))))))))))) (by kernel_rfl) (by kernel_rfl) (by kernel_rfl) (fun _ _ _ h => h) (Or.inl ⟨by rfl, ?_⟩) (by assumption) ?_
    rotate_left
    · (intro w hSw; (try dsimp only at hSw); go_simp; (first | done | with_reducible rfl))
    try simp only [Act.put, List.setIfInBounds_toArray, List.set_cons_zero, List.set_cons_succ]
    refine wpAnyH_ready (rs := [15]) (by kernel_rfl) (by simp) ?_
    refine AllReadyH.cons (fata (fatS (fatS (fatS (fatS (fatS (fatS (fatS (fatS (fatS (fatS (fatS (fatS (fatS (fatS (fatS fat0)))))))))))))))) (fun K hK => ?_) AllReadyH.nil
    go_simp
    refine hK.out _ _ (by first | (go_keep; done) | (dsimp only; go_keep; done) | exact ⟨by go_simp, by go_simp⟩) (fun hHeld => ?_)
    clear hK K
    try simp only [Act.put, List.setIfInBounds_toArray, List.set_cons_zero, List.set_cons_succ]
    refine wpAnyH_done (by kernel_rfl) ?_ _
    go_wp2
    go_end0
    refine ⟨rfl, ?_⟩
    exact HA.out.appended HY1.out HA1.out ((HB1.out.set0 _ _ _).set1 _) ⟨rfl, rfl, rfl, by simp [World.setCell], fun i _ hi => (Below.heap_setCell _ _ _ _ hi).trans (Below.heap_setCell _ _ _ _ hi)⟩
  · have h0 : 0 ≤ m := by omega
    by_cases h2 : ((str s).size : Int) < m
    · have HE : Hid (str s = str t) := by
        show _ = _
        have := HZ.out
        rw [HT.out, List.take_of_length_le (by omega)]
      have he1 : (if m < 0 then 0 else m) = m := if_neg h1
      have he2 : (if ((str s).size : Int) < m then ((str s).size : Int) else m) = ((str s).size : Int) := if_pos h2
      go_enter Tryz.func45, Tryz.ntmps45
      go_wp2
      refine wp_region_held_drew (S := (fun W => W.cell? ⟨bs, 0, none⟩ = some (.string (str s)) ∧ W.cell? ⟨bc, 0, none⟩ = some (.int .i64 m))) (by kernel_rfl) (by first | (go_keep; done) | (dsimp only; go_keep)) (fun hHeld => ?_)
      refine wpAnyH_take (i := 0) (v := ?_) (fata fat0) (by kernel_rfl) (by kernel_rfl) (by kernel_rfl) (fun _ _ _ h => h) (Or.inl ⟨by rfl, ?_⟩) (by assumption) ?_
      rotate_left
      · (intro w hSw; (try dsimp only at hSw); go_simp; (first | done | with_reducible rfl))
      try simp only [Act.put, List.setIfInBounds_toArray, List.set_cons_zero, List.set_cons_succ]
      refine wpAnyH_take (i := 1) (v := ?_) (fata (fatS fat0)) (by kernel_rfl) (by kernel_rfl) (by kernel_rfl) (fun _ _ _ h => h) (Or.inl ⟨by rfl, ?_⟩) (by assumption) ?_
      rotate_left
      · (intro w hSw; (try dsimp only at hSw); go_simp; (first | done | with_reducible rfl))
      try simp only [Act.put, List.setIfInBounds_toArray, List.set_cons_zero, List.set_cons_succ]
      refine wpAnyH_take (i := 2) (v := ?_) (fata (fatS (fatS fat0))) (by kernel_rfl) (by kernel_rfl) (by kernel_rfl) (fun _ _ _ h => h) (Or.inl ⟨by rfl, ?_⟩) (by assumption) ?_
      rotate_left
      · (intro w hSw; (try dsimp only at hSw); go_simp; (first | done | with_reducible rfl))
      try simp only [Act.put, List.setIfInBounds_toArray, List.set_cons_zero, List.set_cons_succ]
      refine wpAnyH_take (i := 3) (v := ?_) (fata (fatS (fatS (fatS fat0)))) (by kernel_rfl) (by kernel_rfl) (by kernel_rfl) (fun _ _ _ h => h) (Or.inl ⟨by rfl, ?_⟩) (by assumption) ?_
      rotate_left
      · (intro w hSw; (try dsimp only at hSw); go_simp; (first | done | with_reducible rfl))
      try simp only [Act.put, List.setIfInBounds_toArray, List.set_cons_zero, List.set_cons_succ]
      refine wpAnyH_take (i := 5) (v := ?_) (fata (fatS (fatS (fatS (fatS (fatS fat0)))))) (by kernel_rfl) (by kernel_rfl) (by kernel_rfl) (fun _ _ _ h => h) (Or.inl ⟨by rfl, ?_⟩) (by assumption) ?_
      rotate_left
      · (intro w hSw; (try dsimp only at hSw); go_simp; (first | done | with_reducible rfl))
      try simp only [Act.put, List.setIfInBounds_toArray, List.set_cons_zero, List.set_cons_succ]
      refine wpAnyH_take (i := 6) (v := ?_) (fata (fatS (fatS (fatS (fatS (fatS (fatS fat0))))))) (by kernel_rfl) (by kernel_rfl) (by kernel_rfl) (fun _ _ _ h => h) (Or.inl ⟨by rfl, ?_⟩) (by assumption) ?_
      rotate_left
      · (intro w hSw; (try dsimp only at hSw); go_simp; (first | done | with_reducible rfl))
      try simp only [Act.put, List.setIfInBounds_toArray, List.set_cons_zero, List.set_cons_succ]
      refine wpAnyH_take (i := 7) (v := ?_) (fata (fatS (fatS (fatS (fatS (fatS (fatS (fatS fat0)))))))) (by kernel_rfl) (by kernel_rfl) (by kernel_rfl) (fun _ _ _ h => h) (Or.inl ⟨by rfl, ?_⟩) (by assumption) ?_
      rotate_left
      · (intro w hSw; (try dsimp only at hSw); go_simp; (first | done | with_reducible rfl))
      try simp only [Act.put, List.setIfInBounds_toArray, List.set_cons_zero, List.set_cons_succ]
      refine wpAnyH_take (i := 8) (v := ?_) (fata (fatS (fatS (fatS (fatS (fatS (fatS (fatS (fatS fat0))))))))) (by kernel_rfl) (by kernel_rfl) (by kernel_rfl) (fun _ _ _ h => h) (Or.inl ⟨by rfl, ?_⟩) (by assumption) ?_
      rotate_left
      · (intro w hSw; (try dsimp only at hSw); go_simp; (first | done | with_reducible rfl))
      try simp only [Act.put, List.setIfInBounds_toArray, List.set_cons_zero, List.set_cons_succ]
      refine wpAnyH_take (i := 9) (v := ?_) (fata (fatS (fatS (fatS (fatS (fatS (fatS (fatS (fatS (fatS fat0)))))))))) (by kernel_rfl) (by kernel_rfl) (by kernel_rfl) (fun _ _ _ h => h) (Or.inl ⟨by rfl, ?_⟩) (by assumption) ?_
      rotate_left
      · (intro w hSw; (try dsimp only at hSw); go_simp; (first | done | with_reducible rfl))
      try simp only [Act.put, List.setIfInBounds_toArray, List.set_cons_zero, List.set_cons_succ]
      refine wpAnyH_take (i := 10) (v := ?_) (fata (fatS (fatS (fatS (fatS (fatS (fatS (fatS (fatS (fatS (fatS fat0))))))))))) (by kernel_rfl) (by kernel_rfl) (by kernel_rfl) (fun _ _ _ h => h) (Or.inl ⟨by rfl, ?_⟩) (by assumption) ?_
      rotate_left
      · (intro w hSw; (try dsimp only at hSw); go_simp; (first | done | with_reducible rfl))
      try simp only [Act.put, List.setIfInBounds_toArray, List.set_cons_zero, List.set_cons_succ]
      refine wpAnyH_take (i := 11) (v := ?_) (fata (fatS (fatS (fatS (fatS (fatS (fatS (fatS (fatS (fatS (fatS (fatS fat0)))))))))))) (by kernel_rfl) (by kernel_rfl) (by kernel_rfl) (fun _ _ _ h => h) (Or.inl ⟨by rfl, ?_⟩) (by assumption) ?_
      rotate_left
      · (intro w hSw; (try dsimp only at hSw); go_simp; (first | done | with_reducible rfl))
      try simp only [Act.put, List.setIfInBounds_toArray, List.set_cons_zero, List.set_cons_succ]
      refine wpAnyH_ready (rs := [4]) (by kernel_rfl) (by simp) ?_
      refine AllReadyH.cons (fata (fatS (fatS (fatS (fatS fat0))))) (fun K hK => ?_) AllReadyH.nil
      go_simp
      refine hK.out _ _ (by first | (go_keep; done) | (dsimp only; go_keep; done) | exact ⟨by go_simp, by go_simp⟩) (fun hHeld => ?_)
      clear hK K
      try simp only [Act.put, List.setIfInBounds_toArray, List.set_cons_zero, List.set_cons_succ]
      refine wpAnyH_ready (rs := [12]) (by kernel_rfl) (by simp) ?_
      refine AllReadyH.cons (fata (fatS (fatS (fatS (fatS (fatS (fatS (fatS (fatS (fatS (fatS (fatS (fatS fat0))))))))))))) (fun K hK => ?_) AllReadyH.nil
      ((refine step_append_byt rfl _ _ rfl A n c f.1 t rfl HY.out _ rfl HE.out (by omega) ?_; intro A' c' w1 hy1 ha1; replace ha1 := ha1.undrew; obtain ⟨hb1, hs1⟩ := App.file ha1 HY.out HB.out HS.out; have hi1 : BoxI w1 bc m := ha1.kept HY.out HI.out (by decide); obtain ⟨d0, d1, d2, d3⟩ := hb1.cells; have d4 := cell_of_one hs1; have d5 := cell_of_one hi1; have HY1 := Lib.hid hy1; have HA1 := Lib.hid ha1; have HB1 := Lib.hid hb1; have hn1 : bs ≠ p := (file_box_ne hb1 hs1).symm; have hn2 : bc ≠ p := (file_int_ne hb1 hi1).symm; clear hy1 ha1 hb1 hs1 hi1))
      refine hK.out _ _ (by first | (go_keep; done) | (dsimp only; go_keep; done) | exact ⟨by go_simp, by go_simp⟩) (fun hHeld => ?_)
      clear hK K
      try simp only [Act.put, List.setIfInBounds_toArray, List.set_cons_zero, List.set_cons_succ]
      refine wpAnyH_take (i := 13) (v := ?_) (fata (fatS (fatS (fatS (fatS (fatS (fatS (fatS (fatS (fatS (fatS (fatS (fatS (fatS fat0)))))))))))))) (by kernel_rfl) (by kernel_rfl) (by kernel_rfl) (fun _ _ _ h => h) (Or.inl ⟨by rfl, ?_⟩) (by assumption) ?_
      rotate_left
      · (intro w hSw; (try dsimp only at hSw); go_simp; (first | done | with_reducible rfl))
      try simp only [Act.put, List.setIfInBounds_toArray, List.set_cons_zero, List.set_cons_succ]
      refine wpAnyH_take (i := 14) (v := ?_) (fata (fatS (fatS (fatS (fatS (fatS (fatS (fatS (fatS (fatS (fatS (fatS (fatS (fatS (fatS fat0))))))))))))))) (by kernel_rfl) (by kernel_rfl) (by kernel_rfl) (fun _ _ _ h => h) (Or.inl ⟨by rfl, ?_⟩) (by assumption) ?_
      rotate_left
      · (intro w hSw; (try dsimp only at hSw); go_simp; (first | done | with_reducible rfl))
      try simp only [Act.put, List.setIfInBounds_toArray, List.set_cons_zero, List.set_cons_succ]
      refine wpAnyH_ready (rs := [15]) (by kernel_rfl) (by simp) ?_
      refine AllReadyH.cons (fata (fatS (fatS (fatS (fatS (fatS (fatS (fatS (fatS (fatS (fatS (fatS (fatS (fatS (fatS (fatS fat0)))))))))))))))) (fun K hK => ?_) AllReadyH.nil
      go_simp
      refine hK.out _ _ (by first | (go_keep; done) | (dsimp only; go_keep; done) | exact ⟨by go_simp, by go_simp⟩) (fun hHeld => ?_)
      clear hK K
      try simp only [Act.put, List.setIfInBounds_toArray, List.set_cons_zero, List.set_cons_succ]
      refine wpAnyH_done (by kernel_rfl) ?_ _
      go_wp2
      go_end0
      refine ⟨rfl, ?_⟩
      exact HA.out.appended HY1.out HA1.out ((HB1.out.set0 _ _ _).set1 _) ⟨rfl, rfl, rfl, by simp [World.setCell], fun i _ hi => (Below.heap_setCell _ _ _ _ hi).trans (Below.heap_setCell _ _ _ _ hi)⟩
    · have HE : Hid ((str s).extract 0 m.toNat = str t) := by
        show _ = _
        rw [HT.out, str_take]
      have h3 : m ≤ ((str s).size : Int) := by omega
      have he1 : (if m < 0 then 0 else m) = m := if_neg h1
      have he2 : (if ((str s).size : Int) < m then ((str s).size : Int) else m) = m := if_neg h2
      go_enter Tryz.func45, Tryz.ntmps45
      go_wp2
      refine wp_region_held_drew (S := (fun W => W.cell? ⟨bs, 0, none⟩ = some (.string (str s)) ∧ W.cell? ⟨bc, 0, none⟩ = some (.int .i64 m))) (by kernel_rfl) (by first | (go_keep; done) | (dsimp only; go_keep)) (fun hHeld => ?_)
      refine wpAnyH_take (i := 0) (v := ?_) (fata fat0) (by kernel_rfl) (by kernel_rfl) (by kernel_rfl) (fun _ _ _ h => h) (Or.inl ⟨by rfl, ?_⟩) (by assumption) ?_
      rotate_left
      · (intro w hSw; (try dsimp only at hSw); go_simp; (first | done | with_reducible rfl))
      try simp only [Act.put, List.setIfInBounds_toArray, List.set_cons_zero, List.set_cons_succ]
      refine wpAnyH_take (i := 1) (v := ?_) (fata (fatS fat0)) (by kernel_rfl) (by kernel_rfl) (by kernel_rfl) (fun _ _ _ h => h) (Or.inl ⟨by rfl, ?_⟩) (by assumption) ?_
      rotate_left
      · (intro w hSw; (try dsimp only at hSw); go_simp; (first | done | with_reducible rfl))
      try simp only [Act.put, List.setIfInBounds_toArray, List.set_cons_zero, List.set_cons_succ]
      refine wpAnyH_take (i := 2) (v := ?_) (fata (fatS (fatS fat0))) (by kernel_rfl) (by kernel_rfl) (by kernel_rfl) (fun _ _ _ h => h) (Or.inl ⟨by rfl, ?_⟩) (by assumption) ?_
      rotate_left
      · (intro w hSw; (try dsimp only at hSw); go_simp; (first | done | with_reducible rfl))
      try simp only [Act.put, List.setIfInBounds_toArray, List.set_cons_zero, List.set_cons_succ]
      refine wpAnyH_take (i := 3) (v := ?_) (fata (fatS (fatS (fatS fat0)))) (by kernel_rfl) (by kernel_rfl) (by kernel_rfl) (fun _ _ _ h => h) (Or.inl ⟨by rfl, ?_⟩) (by assumption) ?_
      rotate_left
      · (intro w hSw; (try dsimp only at hSw); go_simp; (first | done | with_reducible rfl))
      try simp only [Act.put, List.setIfInBounds_toArray, List.set_cons_zero, List.set_cons_succ]
      refine wpAnyH_take (i := 5) (v := ?_) (fata (fatS (fatS (fatS (fatS (fatS fat0)))))) (by kernel_rfl) (by kernel_rfl) (by kernel_rfl) (fun _ _ _ h => h) (Or.inl ⟨by rfl, ?_⟩) (by assumption) ?_
      rotate_left
      · (intro w hSw; (try dsimp only at hSw); go_simp; (first | done | with_reducible rfl))
      try simp only [Act.put, List.setIfInBounds_toArray, List.set_cons_zero, List.set_cons_succ]
      refine wpAnyH_take (i := 6) (v := ?_) (fata (fatS (fatS (fatS (fatS (fatS (fatS fat0))))))) (by kernel_rfl) (by kernel_rfl) (by kernel_rfl) (fun _ _ _ h => h) (Or.inl ⟨by rfl, ?_⟩) (by assumption) ?_
      rotate_left
      · (intro w hSw; (try dsimp only at hSw); go_simp; (first | done | with_reducible rfl))
      try simp only [Act.put, List.setIfInBounds_toArray, List.set_cons_zero, List.set_cons_succ]
      refine wpAnyH_take (i := 7) (v := ?_) (fata (fatS (fatS (fatS (fatS (fatS (fatS (fatS fat0)))))))) (by kernel_rfl) (by kernel_rfl) (by kernel_rfl) (fun _ _ _ h => h) (Or.inl ⟨by rfl, ?_⟩) (by assumption) ?_
      rotate_left
      · (intro w hSw; (try dsimp only at hSw); go_simp; (first | done | with_reducible rfl))
      try simp only [Act.put, List.setIfInBounds_toArray, List.set_cons_zero, List.set_cons_succ]
      refine wpAnyH_take (i := 8) (v := ?_) (fata (fatS (fatS (fatS (fatS (fatS (fatS (fatS (fatS fat0))))))))) (by kernel_rfl) (by kernel_rfl) (by kernel_rfl) (fun _ _ _ h => h) (Or.inl ⟨by rfl, ?_⟩) (by assumption) ?_
      rotate_left
      · (intro w hSw; (try dsimp only at hSw); go_simp; (first | done | with_reducible rfl))
      try simp only [Act.put, List.setIfInBounds_toArray, List.set_cons_zero, List.set_cons_succ]
      refine wpAnyH_take (i := 9) (v := ?_) (fata (fatS (fatS (fatS (fatS (fatS (fatS (fatS (fatS (fatS fat0)))))))))) (by kernel_rfl) (by kernel_rfl) (by kernel_rfl) (fun _ _ _ h => h) (Or.inl ⟨by rfl, ?_⟩) (by assumption) ?_
      rotate_left
      · (intro w hSw; (try dsimp only at hSw); go_simp; (first | done | with_reducible rfl))
      try simp only [Act.put, List.setIfInBounds_toArray, List.set_cons_zero, List.set_cons_succ]
      refine wpAnyH_take (i := 10) (v := ?_) (fata (fatS (fatS (fatS (fatS (fatS (fatS (fatS (fatS (fatS (fatS fat0))))))))))) (by kernel_rfl) (by kernel_rfl) (by kernel_rfl) (fun _ _ _ h => h) (Or.inl ⟨by rfl, ?_⟩) (by assumption) ?_
      rotate_left
      · (intro w hSw; (try dsimp only at hSw); go_simp; (first | done | with_reducible rfl))
      try simp only [Act.put, List.setIfInBounds_toArray, List.set_cons_zero, List.set_cons_succ]
      refine wpAnyH_take (i := 11) (v := ?_) (fata (fatS (fatS (fatS (fatS (fatS (fatS (fatS (fatS (fatS (fatS (fatS fat0)))))))))))) (by kernel_rfl) (by kernel_rfl) (by kernel_rfl) (fun _ _ _ h => h) (Or.inl ⟨by rfl, ?_⟩) (by assumption) ?_
      rotate_left
      · (intro w hSw; (try dsimp only at hSw); go_simp; (first | done | with_reducible rfl))
      try simp only [Act.put, List.setIfInBounds_toArray, List.set_cons_zero, List.set_cons_succ]
      refine wpAnyH_ready (rs := [4]) (by kernel_rfl) (by simp) ?_
      refine AllReadyH.cons (fata (fatS (fatS (fatS (fatS fat0))))) (fun K hK => ?_) AllReadyH.nil
      go_simp
      refine hK.out _ _ (by first | (go_keep; done) | (dsimp only; go_keep; done) | exact ⟨by go_simp, by go_simp⟩) (fun hHeld => ?_)
      clear hK K
      try simp only [Act.put, List.setIfInBounds_toArray, List.set_cons_zero, List.set_cons_succ]
      refine wpAnyH_ready (rs := [12]) (by kernel_rfl) (by simp) ?_
      refine AllReadyH.cons (fata (fatS (fatS (fatS (fatS (fatS (fatS (fatS (fatS (fatS (fatS (fatS (fatS fat0))))))))))))) (fun K hK => ?_) AllReadyH.nil
      ((refine step_append_byt rfl _ _ rfl A n c f.1 t rfl HY.out _ rfl HE.out (by omega) ?_; intro A' c' w1 hy1 ha1; replace ha1 := ha1.undrew; obtain ⟨hb1, hs1⟩ := App.file ha1 HY.out HB.out HS.out; have hi1 : BoxI w1 bc m := ha1.kept HY.out HI.out (by decide); obtain ⟨d0, d1, d2, d3⟩ := hb1.cells; have d4 := cell_of_one hs1; have d5 := cell_of_one hi1; have HY1 := Lib.hid hy1; have HA1 := Lib.hid ha1; have HB1 := Lib.hid hb1; have hn1 : bs ≠ p := (file_box_ne hb1 hs1).symm; have hn2 : bc ≠ p := (file_int_ne hb1 hi1).symm; clear hy1 ha1 hb1 hs1 hi1))
      refine hK.out _ _ (by first | (go_keep; done) | (dsimp only; go_keep; done) | exact ⟨by go_simp, by go_simp⟩) (fun hHeld => ?_)
      clear hK K
      try simp only [Act.put, List.setIfInBounds_toArray, List.set_cons_zero, List.set_cons_succ]
      refine wpAnyH_take (i := 13) (v := ?_) (fata (fatS (fatS (fatS (fatS (fatS (fatS (fatS (fatS (fatS (fatS (fatS (fatS (fatS fat0)))))))))))))) (by kernel_rfl) (by kernel_rfl) (by kernel_rfl) (fun _ _ _ h => h) (Or.inl ⟨by rfl, ?_⟩) (by assumption) ?_
      rotate_left
      · (intro w hSw; (try dsimp only at hSw); go_simp; (first | done | with_reducible rfl))
      try simp only [Act.put, List.setIfInBounds_toArray, List.set_cons_zero, List.set_cons_succ]
      refine wpAnyH_take (i := 14) (v := ?_) (fata (fatS (fatS (fatS (fatS (fatS (fatS (fatS (fatS (fatS (fatS (fatS (fatS (fatS (fatS fat0))))))))))))))) (by kernel_rfl) (by kernel_rfl) (by kernel_rfl) (fun _ _ _ h => h) (Or.inl ⟨by rfl, ?_⟩) (by assumption) ?_
      rotate_left
      · (intro w hSw; (try dsimp only at hSw); go_simp; (first | done | with_reducible rfl))
      try simp only [Act.put, List.setIfInBounds_toArray, List.set_cons_zero, List.set_cons_succ]
      refine wpAnyH_ready (rs := [15]) (by kernel_rfl) (by simp) ?_
      refine AllReadyH.cons (fata (fatS (fatS (fatS (fatS (fatS (fatS (fatS (fatS (fatS (fatS (fatS (fatS (fatS (fatS (fatS fat0)))))))))))))))) (fun K hK => ?_) AllReadyH.nil
      go_simp
      refine hK.out _ _ (by first | (go_keep; done) | (dsimp only; go_keep; done) | exact ⟨by go_simp, by go_simp⟩) (fun hHeld => ?_)
      clear hK K
      try simp only [Act.put, List.setIfInBounds_toArray, List.set_cons_zero, List.set_cons_succ]
      refine wpAnyH_done (by kernel_rfl) ?_ _
      go_wp2
      go_end0
      refine ⟨rfl, ?_⟩
      exact HA.out.appended HY1.out HA1.out ((HB1.out.set0 _ _ _).set1 _) ⟨rfl, rfl, rfl, by simp [World.setCell], fun i _ hi => (Below.heap_setCell _ _ _ _ hi).trans (Below.heap_setCell _ _ _ _ hi)⟩
end Go.Proofs.YtmaohncddjhgeaaGreat.gn
end
section
set_option linter.unusedVariables false
namespace Go.Proofs.YtmaohncddjhgeaaGreat.gn
open Go.RowKit
open Go.Proofs.YtmaohncddjhgeaaGreat.fi

theorem At.clipped {w w2 : World} {X : Nat → Prop} {G : Lay} {TT : Nat → Option Tb} {b : Nat} {T : Tb} {k : Nm} {f : Fl} {p : Nat} {A : Option Addr} {n c : Nat} (h : At w X G TT b T k f p A n c)
    {m : Nat} (hm : m ≤ n) {d' : Bool} (hb : BlkF w2 p A m m d') (ho : Only (fun i => i = p) w w2) :
    SysT w2 (ext X w w2) (upd TT b (fi.mod k (fun _ => (f.1.take m, d')) T)) ∧ OnlyT X w w2 := by
  have hy : Byt w2 A m m (f.1.take m) := (h.byt.clip hm).kept fun g hg hlt => ho.block g hlt fun e => by
    subst e
    obtain ⟨cur, hc, _⟩ := h.byt.lt hg
    exact absurd rfl (bytes_ne hc h.blk)
  refine ⟨h.sys.write_same h.tab h.at_ h.blk h.row (f' := (f.1.take m, d')) hb hy (fun i hi hp _ => ho.block i hi hp) (fun g cur hg hcur => ⟨cur, (ho.block g (lt_of_block hcur) fun e => ?_).trans hcur, rfl, fun _ _ => rfl⟩) (.inl ⟨rfl, hm⟩), h.only (ho.mono fun i _ hi => .inl hi)⟩
  subst e
  exact absurd rfl (bytes_ne hcur h.blk)

set_option maxHeartbeats 4000000 in
theorem cut11_any (w : World) (X : Nat → Prop) (G : Lay) (TT : Nat → Option Tb) (b : Nat) (T : Tb) (k : Nm) (f : Fl) (p : Nat) (A : Option Addr) (n c : Nat) (h : At w X G TT b T k f p A n c) (bc m : Nat) (hc : BoxI w bc (m : Int)) (hm : m ≤ f.1.length) :
    Calls Tryz.prog 143 #[.pointer (some ⟨p, 0, none⟩), .pointer (some ⟨bc, 0, none⟩)] w (Goes X TT b (fi.mod k (fun _ => (f.1.take m, f.2)) T) w) := by
  obtain ⟨c0, c1, f0, f1⟩ := h.blk.cells
  have hci := cell_of_one hc
  have hn : m ≤ n := by have := h.byt.1; omega
  have hnc := h.byt.2.1
  have hcm := h.byt.2.2.1
  unfold maxLen at hcm
  have hI0 : (0 : Int) ≤ (m : Int) := by omega
  have hI1 : (m : Int) ≤ (c : Int) := by omega
  have hI2 : (m : Int) ≤ (m : Int) := by omega
  have HA := Lib.hid h
  have HB := Lib.hid h.blk
  rcases h.byt.form with ⟨rfl, rfl, rfl, _⟩ | ⟨g, rfl⟩
  · obtain rfl : m = 0 := by omega
    clear h hc
    go_enter Tryz.func143, Tryz.ntmps143
    go_wp2
    go_region
    go_end0
    refine ⟨rfl, ?_⟩
    exact HA.out.clipped hn (HB.out.set0 _ _ _) ⟨rfl, rfl, rfl, by simp [World.setCell], fun i _ hi => Below.heap_setCell _ _ _ _ hi⟩
  · clear h hc
    go_enter Tryz.func143, Tryz.ntmps143
    go_wp2
    go_region
    go_end0
    refine ⟨rfl, ?_⟩
    exact HA.out.clipped hn (HB.out.set0 _ _ _) ⟨rfl, rfl, rfl, by simp [World.setCell], fun i _ hi => Below.heap_setCell _ _ _ _ hi⟩

set_option maxHeartbeats 4000000 in
theorem change1_any (fid : FuncId) (v1 : Value) (hgo : ∀ (x : Value) (w : World), (callFunc fid #[x, v1]).run Tryz.prog w = .ok (.enter fid #[x, v1]) w)
    (w : World) (X : Nat → Prop) (TT : Nat → Option Tb) (b : Nat) (T : Tb) (k : Nm) (hS : SysT w X TT) (hT : TT b = some T) (hk : k.length ≤ maxLen) (g : Fl → Fl) (hg : ∀ f : Fl, f.2 = true → g f = f)
    (hdo : ∀ G f p A n c, At w X G TT b T k f p A n c → f.2 = false → Calls Tryz.prog fid #[.pointer (some ⟨p, 0, none⟩), v1] w (Goes X TT b (fi.mod k (fun _ => g f) T) w)) :
    Calls Tryz.prog 42 #[.map (some b), .string (str k), .func (.func fid) #[] #[v1]] w (Goes X TT b (fi.mod k g T) w) := by
  have hr := (hS.rising hT).keyed
  cases hgt : fi.get k T with
  | none =>
    have hlook := hS.look_none hT hk hgt
    have HE : Hid (SysT w (ext X w w) (upd TT b (fi.mod k g T))) := by
      show SysT _ _ _
      rw [mod_none hgt, upd_self hT]
      exact hS.more fun i hi => ext_old hi
    clear hdo hS hT hgt hr hg
    go_enter Tryz.func42, Tryz.ntmps42
    go_wp2
    go_end0
    exact ⟨rfl, HE.out, Only.refl _ _⟩
  | some f =>
    obtain ⟨G, hG⟩ := hS
    obtain ⟨p, A, n, c, h⟩ := hG.at_ hT hgt
    have hlook := (hG.tab hT).look hk
    rw [h.at_] at hlook
    simp only [ptrOf] at hlook
    obtain ⟨c0, c1', f0, f1⟩ := h.blk.cells
    cases hd : f.2 with
    | true =>
      rw [hd] at c1'
      have HE : Hid (SysT w (ext X w w) (upd TT b (fi.mod k g T))) := by
        show SysT _ _ _
        have : fi.mod k g T = T := mod_id fun v hv => by
          have := get_of_mem hr hv
          rw [hgt] at this
          rw [← Option.some.inj this]
          exact hg f hd
        rw [this, upd_self hT]
        exact SysT.more ⟨G, hG⟩ fun i hi => ext_old hi
      clear hdo hG hT hgt hr hg h hd c0 f0 f1
      go_enter Tryz.func42, Tryz.ntmps42
      go_wp2
      go_end0
      exact ⟨rfl, HE.out, Only.refl _ _⟩
    | false =>
      rw [hd] at c1'
      have HD := Lib.hid (hdo G f p A n c h hd)
      have HE : Hid (fi.mod k g T = fi.mod k (fun _ => g f) T) := mod_one hr hgt
      clear hdo hG hT hgt hr hg h hd c0 f0 f1
      go_enter Tryz.func42, Tryz.ntmps42
      go_wp2_with ((with_reducible refine HD.out.mono ?_); rintro e w1 ⟨rfl, h1, h2⟩)
      go_end0
      exact ⟨rfl, by rw [HE.out]; exact h1, h2⟩

set_option maxHeartbeats 4000000 in
theorem change2_any (fid : FuncId) (v1 v2 : Value) (hgo : ∀ (x : Value) (w : World), (callFunc fid #[x, v1, v2]).run Tryz.prog w = .ok (.enter fid #[x, v1, v2]) w)
    (w : World) (X : Nat → Prop) (TT : Nat → Option Tb) (b : Nat) (T : Tb) (k : Nm) (hS : SysT w X TT) (hT : TT b = some T) (hk : k.length ≤ maxLen) (g : Fl → Fl) (hg : ∀ f : Fl, f.2 = true → g f = f)
    (hdo : ∀ G f p A n c, At w X G TT b T k f p A n c → f.2 = false → Calls Tryz.prog fid #[.pointer (some ⟨p, 0, none⟩), v1, v2] w (Goes X TT b (fi.mod k (fun _ => g f) T) w)) :
    Calls Tryz.prog 42 #[.map (some b), .string (str k), .func (.func fid) #[] #[v1, v2]] w (Goes X TT b (fi.mod k g T) w) := by
  have hr := (hS.rising hT).keyed
  cases hgt : fi.get k T with
  | none =>
    have hlook := hS.look_none hT hk hgt
    have HE : Hid (SysT w (ext X w w) (upd TT b (fi.mod k g T))) := by
      show SysT _ _ _
      rw [mod_none hgt, upd_self hT]
      exact hS.more fun i hi => ext_old hi
    clear hdo hS hT hgt hr hg
    go_enter Tryz.func42, Tryz.ntmps42
    go_wp2
    go_end0
    exact ⟨rfl, HE.out, Only.refl _ _⟩
  | some f =>
    obtain ⟨G, hG⟩ := hS
    obtain ⟨p, A, n, c, h⟩ := hG.at_ hT hgt
    have hlook := (hG.tab hT).look hk
    rw [h.at_] at hlook
    simp only [ptrOf] at hlook
    obtain ⟨c0, c1', f0, f1⟩ := h.blk.cells
    cases hd : f.2 with
    | true =>
      rw [hd] at c1'
      have HE : Hid (SysT w (ext X w w) (upd TT b (fi.mod k g T))) := by
        show SysT _ _ _
        have : fi.mod k g T = T := mod_id fun v hv => by
          have := get_of_mem hr hv
          rw [hgt] at this
          rw [← Option.some.inj this]
          exact hg f hd
        rw [this, upd_self hT]
        exact SysT.more ⟨G, hG⟩ fun i hi => ext_old hi
      clear hdo hG hT hgt hr hg h hd c0 f0 f1
      go_enter Tryz.func42, Tryz.ntmps42
      go_wp2
      go_end0
      exact ⟨rfl, HE.out, Only.refl _ _⟩
    | false =>
      rw [hd] at c1'
      have HD := Lib.hid (hdo G f p A n c h hd)
      have HE : Hid (fi.mod k g T = fi.mod k (fun _ => g f) T) := mod_one hr hgt
      clear hdo hG hT hgt hr hg h hd c0 f0 f1
      go_enter Tryz.func42, Tryz.ntmps42
      go_wp2_with ((with_reducible refine HD.out.mono ?_); rintro e w1 ⟨rfl, h1, h2⟩)
      go_end0
      exact ⟨rfl, by rw [HE.out]; exact h1, h2⟩
end Go.Proofs.YtmaohncddjhgeaaGreat.gn
end
section
set_option linter.unusedVariables false
namespace Go.Proofs.YtmaohncddjhgeaaGreat.gn
open Go.RowKit
open Go.Proofs.YtmaohncddjhgeaaGreat.fi

theorem Goes.pre {X : Nat → Prop} {TT : Nat → Option Tb} {b : Nat} {T : Tb} {w w0 w' : World} {e : Ending} (hb : Below w.heap.size w w0) (h : Goes X TT b T w0 e w') : Goes X TT b T w e w' :=
  ⟨h.1, h.2.1.more fun i hi => by
    rcases hi with hi | ⟨h1, h2⟩
    · exact .inl hi
    · have := hb.size
      exact .inr ⟨by omega, h2⟩, (OnlyT.of_below hb).trans_old h.2.2⟩

set_option maxHeartbeats 4000000 in
theorem app1_any (w : World) (X : Nat → Prop) (TT : Nat → Option Tb) (b : Nat) (T : Tb) (hS : SysT w X TT) (hT : TT b = some T) (bn bs : Nat) (n : Nm) (s : List UInt8) (hb : BoxS w bn n) (hb2 : BoxS w bs s) (hk : n.length ≤ maxLen) (hl : wt T + s.length ≤ 1099511627776) :
    Calls Tryz.prog 41 #[.map (some b), .pointer (some ⟨bn, 0, none⟩), .pointer (some ⟨bs, 0, none⟩)] w (Goes X TT b (doOp (.app n s) T) w) := by
  have hc := cell_of_one hb
  have H := Lib.hid (change1_any 43 (.pointer (some ⟨bs, 0, none⟩)) (fun _ _ => by kernel_rfl) w X TT b T n hS hT hk (addF s) (fun f hf => by simp [addF, hf]) (fun G f p A m c h hd => by
    have h1 := wt_get h.is
    have h2 := h.byt.1
    have h3 := app11_any w X G TT b T n f p A m c h bs s hb2 (by omega)
    have h4 : addF s f = (f.1 ++ s, f.2) := by simp [addF, hd]
    rw [h4]
    exact h3))
  clear hb hb2 hS
  go_enter Tryz.func41, Tryz.ntmps41
  go_wp2_with (go_at_call 42; ((with_reducible refine H.out.mono ?_); rintro e w1 ⟨rfl, h1, h2⟩))
  go_end0
  exact ⟨rfl, h1, h2⟩

set_option maxHeartbeats 4000000 in
theorem app2_any (w : World) (X : Nat → Prop) (TT : Nat → Option Tb) (b : Nat) (T : Tb) (hS : SysT w X TT) (hT : TT b = some T) (m : Int) (bn bs : Nat) (n : Nm) (s : List UInt8) (hb : BoxS w bn n) (hb2 : BoxS w bs s) (hk : n.length ≤ maxLen) (hl : wt T + s.length ≤ 1099511627776) :
    Calls Tryz.prog 44 #[.map (some b), .int .i64 m, .pointer (some ⟨bn, 0, none⟩), .pointer (some ⟨bs, 0, none⟩)] w (Goes X TT b (short n s m T) w) := by
  have hc := cell_of_one hb
  have hbel : Below w.heap.size w (w.alloc (.cells #[.int .i64 m] 3)) := (Below.refl _ w).alloc (Nat.le_refl _) _
  have hbi : BoxI (w.alloc (.cells #[.int .i64 m] 3)) w.heap.size m := heap_alloc_new w _
  have hb3 : BoxS (w.alloc (.cells #[.int .i64 m] 3)) bs s := (hbel.block bs (lt_of_block hb2)).trans hb2
  have hc3 : (w.alloc (.cells #[.int .i64 m] 3)).cell? ⟨bn, 0, none⟩ = some (.string (str n)) := hbel.cell (p := ⟨bn, 0, none⟩) (lt_of_block hb) ▸ hc
  have H := Lib.hid (change2_any 45 (.pointer (some ⟨bs, 0, none⟩)) (.pointer (some ⟨w.heap.size, 0, none⟩)) (fun _ _ => by kernel_rfl) _ X TT b T n (hS.below hbel) hT hk (shortF (s.take m.toNat)) (fun f hf => by simp [shortF, hf]) (fun G f p A n' c h hd => by
    have h1 := wt_get h.is
    have h2 := h.byt.1
    have h3 := app21_any _ X G TT b T n f p A n' c h bs s hb3 w.heap.size m hbi (by omega)
    have h4 : shortF (s.take m.toNat) f = (f.1 ++ s.take m.toNat, true) := by simp [shortF, hd]
    rw [h4]
    exact h3))
  have HB := Lib.hid hbel
  clear hb hb2 hb3 hbi hS hc hbel
  go_enter Tryz.func44, Tryz.ntmps44
  go_wp2_with (go_at_call 42; ((with_reducible refine H.out.mono ?_); rintro e w1 ⟨rfl, h1, h2⟩))
  go_end0
  exact Goes.pre HB.out ⟨rfl, h1, h2⟩

set_option maxHeartbeats 4000000 in
theorem cut1_any (w : World) (X : Nat → Prop) (TT : Nat → Option Tb) (b : Nat) (T : Tb) (hS : SysT w X TT) (hT : TT b = some T) (bn bk : Nat) (n : Nm) (m : Nat) (hb : BoxS w bn n) (hb2 : BoxI w bk (m : Int)) (hk : n.length ≤ maxLen) (hl : ∀ f, fi.get n T = some f → f.2 = false → m ≤ f.1.length) :
    Calls Tryz.prog 142 #[.map (some b), .pointer (some ⟨bn, 0, none⟩), .pointer (some ⟨bk, 0, none⟩)] w (Goes X TT b (doOp (.cut n m) T) w) := by
  have hc := cell_of_one hb
  have H := Lib.hid (change1_any 143 (.pointer (some ⟨bk, 0, none⟩)) (fun _ _ => by kernel_rfl) w X TT b T n hS hT hk (cutF m) (fun f hf => by simp [cutF, hf]) (fun G f p A n' c h hd => by
    have h3 := cut11_any w X G TT b T n f p A n' c h bk m hb2 (hl f h.is hd)
    have h4 : cutF m f = (f.1.take m, f.2) := by simp [cutF, hd]
    rw [h4]
    exact h3))
  clear hb hb2 hS hl
  go_enter Tryz.func142, Tryz.ntmps142
  go_wp2_with (go_at_call 42; ((with_reducible refine H.out.mono ?_); rintro e w1 ⟨rfl, h1, h2⟩))
  go_end0
  exact ⟨rfl, h1, h2⟩
end Go.Proofs.YtmaohncddjhgeaaGreat.gn
end
