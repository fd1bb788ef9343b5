/- The contracts of the law file's is and first, and of the document's Next, Save, Append, Base. -/
import Derived.Test.YtmaohncddjhgeaaGreatMShM
import Derived.Test.YtmaohncddjhgeaaGreatMFrSm
import Derived.Test.YtmaohncddjhgeaaGreatMPkG
import Derived.Test.YtmaohncddjhgeaaGreatMGenAp
section
set_option linter.unusedVariables false
set_option linter.unusedSectionVars false
namespace Go.Proofs.YtmaohncddjhgeaaGreat.gn
open Go.RowKit
open Go.Proofs.YtmaohncddjhgeaaGreat.fi

set_option maxRecDepth 100000
set_option maxHeartbeats 4000000
theorem is_yes {Z : Nat → Prop} {w : World} {D : Nat → Option FS} {J : Nat → Option Jn} (h : Hold Z w D J) {s : Nat} {n : Sf} (hs : BlkS w s n) {jn : Jn} (hj : J n.j = some jn) {st : FS} (hd : D jn.d = some st) (hbl : (st.bytes jn.name).length ≤ 549755813888) (htl : n.text.length ≤ 1000000)
    (E : List (List UInt8)) (hE : (scan (st.bytes jn.name)).drop 1 = E) (k : Nat) (hk : n.number = jn.first + k) (hkE : k ≤ E.length) (hnum : n.number < 18446744073709551616) (L : List (List UInt8)) (hL : E.drop k = L) (hnx : jn.next = (n.number + L.length) % 18446744073709551616)
    (v : Value) (hv : Strs w v L) {a : Int} (ha : a = (n.number : Int)) {y : ByteArray} (hy : y = str n.text) :
    Calls Tryz.prog 24 #[.pointer (some ⟨s, 0, none⟩), .int .u64 a, .string y, v] w fun e w' => e = .returned (.bool true) ∧ Below w.heap.size w w' := by
  subst ha hy
  have HB := Lib.hid (sbase_any w s n hs (by omega))
  have HK : Hid (∀ w', Below w.heap.size w w' → Hold Z w' D J ∧ BlkS w' s n ∧ Strs w' v L) := Lib.hid fun w' hb => ⟨h.below hb, hs.below hb, hv.below hb⟩
  have HEN : Hid (∀ w', Below w.heap.size w w' → Calls Tryz.prog 51 #[.pointer (some ⟨s, 0, none⟩)] w' fun e w'' => ∃ v, e = .returned v ∧ Strs w'' v L ∧ Fresh w'.heap.size v ∧ Below w'.heap.size w' w'') := Lib.hid fun w' hb => by
    have := sentries_any (h.below hb) (hs.below hb) hj hd hbl E hE k hk hkE hnum
    rw [hL] at this
    exact this
  have HNX : Hid (∀ w', Below w.heap.size w w' → Calls Tryz.prog 52 #[.pointer (some ⟨s, 0, none⟩)] w' fun e w'' => e = .returned (.int .u64 (jn.next : Int)) ∧ w' = w'') := Lib.hid fun w' hb => snext_any (h.below hb) (hs.below hb) hj
  obtain ⟨A, c, rfl, hlc, hcm, _⟩ := id hv
  have hq : (((str n.text).toList == (str n.text).toList) : Bool) = true := by simp
  unfold maxLen at hcm
  clear h hs hj hd hbl hE hk hL hv htl
  obtain ⟨nj, nd, num, txt⟩ := n
  simp only at *
  generalize str txt = y at *
  have hn2 : ((jn.next : Int) == IntKind.u64.wrap ((num : Int) + IntKind.u64.wrap (L.length : Int))) = true := by
    simp only [IntKind.wrap_u64]
    rw [beq_iff_eq]
    omega
  have hn3 : ((jn.next : Int) == IntKind.u64.wrap ((num : Int) + (L.length : Int))) = true := by
    simp only [IntKind.wrap_u64]
    rw [beq_iff_eq]
    omega
  generalize jn.next = x at *
  clear hnx
  go_enter Tryz.func24, Tryz.ntmps24
  go_wp2_with fail
  refine HB.out.mono ?_
  rintro e w1 ⟨rfl, hb1⟩
  have HB1 := Lib.hid hb1
  clear hb1
  go_wp2_with fail
  refine (HEN.out w1 HB1.out).mono ?_
  rintro e w2 ⟨v2, rfl, hs2, _, hb2⟩
  obtain ⟨A2, c2, rfl, _⟩ := id hs2
  have HB2 := Lib.hid (HB1.out.trans (hb2.mono HB1.out.size))
  have HS2 := Lib.hid hs2
  clear hb2 hs2
  go_wp2_with fail
  refine (same_yes _ _ L _ HS2.out (HK.out w2 HB2.out).2.2).mono ?_
  rintro e w3 ⟨rfl, hb3⟩
  have HB3 := Lib.hid (HB2.out.trans (hb3.mono HB2.out.size))
  clear hb3
  go_wp2_with fail
  refine (HNX.out w3 HB3.out).mono ?_
  rintro e w4 ⟨rfl, rfl⟩
  go_wp2
  go_ret
  exact ⟨rfl, HB3.out⟩

/-- The first string of a row, if there is one. -/
def fst1 (L : List (List UInt8)) : List UInt8 := L.headD []
theorem first1_any (w : World) (v : Value) (L : List (List UInt8)) (hs : Strs w v L) :
    Calls Tryz.prog 10 #[v] w fun e w' => e = .returned (.string (str (fst1 L))) ∧ w = w' := by
  obtain ⟨A, c, rfl, hlc, hcm, hcell, _⟩ := hs
  unfold maxLen at hcm
  cases L with
  | nil =>
    go_enter Tryz.func10, Tryz.ntmps10
    go_wp2
    go_ret
    exact ⟨rfl, rfl⟩
  | cons x L =>
    obtain ⟨b, o, rfl, hc⟩ : ∃ b o, A = some ⟨b, o, none⟩ ∧ w.cell? ⟨b, o, none⟩ = some (.string (str x)) := by
      rcases hcell with h0 | ⟨b, o, hA, hcl⟩
      · cases h0
      · exact ⟨b, o, hA, by have := hcl 0 (by simp); simpa only [Nat.add_zero, List.getElem_cons_zero] using this⟩
    show Calls _ _ _ _ fun e w' => e = .returned (.string (str x)) ∧ w = w'
    simp only [List.length_cons] at *
    have hlen : ¬ (((L.length + 1 : Nat) : Int) = 0) := by omega
    go_enter Tryz.func10, Tryz.ntmps10
    go_wp2
    go_ret
    exact ⟨rfl, rfl⟩

/-- The document's shelf, as a value. -/
def qv (x : Nat) (t : List UInt8) (v : Value) (sure : Int) : Value := .agg #[.int .u64 (x : Int), .string (str t), v, .int .i64 sure]
theorem dnext_any (w : World) (x : Nat) (t : List UInt8) (A : Option Addr) (l c : Nat) (hl : l ≤ 4611686018427387904) (sure : Int) :
    Calls Tryz.prog 32 #[qv x t (.slice A l c) sure] w fun e w' => e = .returned (.int .u64 (((x + l) % 18446744073709551616 : Nat) : Int)) ∧ Below w.heap.size w w' := by
  have hx : IntKind.u64.wrap ((x : Int) + (l : Int)) = (((x + l) % 18446744073709551616 : Nat) : Int) := by simp only [IntKind.wrap_u64]; omega
  obtain ⟨z, hz⟩ : ∃ z, (((x + l) % 18446744073709551616 : Nat) : Int) = z := ⟨_, rfl⟩
  rw [hz] at hx ⊢
  clear hz
  unfold qv
  go_enter Tryz.func32, Tryz.ntmps32
  go_wp2
  go_ret
  exact ⟨rfl, (Below.refl _ _).alloc (Nat.le_refl _) _⟩
theorem dsave_any (w : World) (x : Nat) (t : List UInt8) (A : Option Addr) (l c : Nat) (hl : l ≤ 4611686018427387904) (sure : Int) (u : List UInt8) :
    Calls Tryz.prog 11 #[qv x t (.slice A l c) sure, .string (str u)] w fun e w' => e = .returned (qv ((x + l) % 18446744073709551616) u (.slice none 0 0) 0) ∧ Below w.heap.size w w' := by
  have HN := fun W => dnext_any W x t A l c hl sure
  obtain ⟨m, hm⟩ : ∃ m, (x + l) % 18446744073709551616 = m := ⟨_, rfl⟩
  rw [hm] at HN ⊢
  clear hm
  unfold qv at *
  have HN := Lib.hid HN
  obtain ⟨w2, hw2⟩ : ∃ w2, (w.alloc (.cells #[.int .u64 (x : Int), .string (str t), .slice A l c, .int .i64 sure] 34)).alloc (.cells #[.int .u64 0, .string ⟨#[]⟩, .slice none 0 0, .int .i64 0] 34) = w2 := ⟨_, rfl⟩
  have hz2 : w2.heap.size = w.heap.size + 2 := by rw [← hw2]; simp
  have HB2 : Hid (Below w.heap.size w w2) := Lib.hid (by rw [← hw2]; exact ((Below.refl _ w).alloc (Nat.le_refl _) _).alloc (by simp) _)
  have HG2 : Hid (w2.heap[w.heap.size + 1]? = some (.cells #[.int .u64 0, .string ⟨#[]⟩, .slice none 0 0, .int .i64 0] 34 (0, 0))) := Lib.hid (by rw [← hw2]; exact alloc_at' (by simp))
  have HG1 : Hid (w2.heap[w.heap.size]? = some (.cells #[.int .u64 (x : Int), .string (str t), .slice A l c, .int .i64 sure] 34 (0, 0))) := Lib.hid (by rw [← hw2]; exact (heap_alloc_old _ _ (by simp)).trans (heap_alloc_new w _))
  have c0 : w2.cell? ⟨w.heap.size, 0, none⟩ = some (.int .u64 (x : Int)) := by rw [cell_of_row _ _ 0 _ _ _ HG1.out]; rfl
  have c1 : w2.cell? ⟨w.heap.size, 1, none⟩ = some (.string (str t)) := by rw [cell_of_row _ _ 1 _ _ _ HG1.out]; rfl
  have c2 : w2.cell? ⟨w.heap.size, 2, none⟩ = some (.slice A l c) := by rw [cell_of_row _ _ 2 _ _ _ HG1.out]; rfl
  have c3 : w2.cell? ⟨w.heap.size, 3, none⟩ = some (.int .i64 sure) := by rw [cell_of_row _ _ 3 _ _ _ HG1.out]; rfl
  go_enter Tryz.func11, Tryz.ntmps11
  go_wp2_with fail
  refine (HN.out _).mono ?_
  rintro e w3 ⟨rfl, hb3⟩
  have hk := (hb3.block (w.heap.size + 1) (by omega)).trans HG2.out
  have d0 : w3.cell? ⟨w.heap.size + 1, 0, none⟩ = some (.int .u64 0) := by rw [cell_of_row _ _ 0 _ _ _ hk]; rfl
  have d1 : w3.cell? ⟨w.heap.size + 1, 1, none⟩ = some (.string ⟨#[]⟩) := by rw [cell_of_row _ _ 1 _ _ _ hk]; rfl
  have d2 : w3.cell? ⟨w.heap.size + 1, 2, none⟩ = some (.slice none 0 0) := by rw [cell_of_row _ _ 2 _ _ _ hk]; rfl
  have d3 : w3.cell? ⟨w.heap.size + 1, 3, none⟩ = some (.int .i64 0) := by rw [cell_of_row _ _ 3 _ _ _ hk]; rfl
  have f0 := frozen_of_row w3 _ 0 _ _ hk
  have f1 := frozen_of_row w3 _ 1 _ _ hk
  have f2 := frozen_of_row w3 _ 2 _ _ hk
  have f3 := frozen_of_row w3 _ 3 _ _ hk
  have HKK := Lib.hid hk
  have HB3 := Lib.hid (HB2.out.trans (hb3.mono (by omega)))
  clear hk hb3
  go_wp2
  have HKK4 := heap_setCell (heap_setCell (heap_setCell (heap_setCell HKK.out (j := 0) (.int .u64 (m : Int))) (j := 1) (.string (str u))) (j := 2) (.slice none 0 0)) (j := 3) (.int .i64 0)
  have hst : ∀ (W : World) (j : Nat) (v : Value), Below w.heap.size w W → Below w.heap.size w (W.setCell ⟨w.heap.size + 1, j, none⟩ v) := fun W j v h => h.setCell (by show w.heap.size ≤ w.heap.size + 1; omega) v
  have HB4 := hst _ 3 (.int .i64 0) (hst _ 2 (.slice none 0 0) (hst _ 1 (.string (str u)) (hst _ 0 (.int .u64 (m : Int)) HB3.out)))
  exact bodyPost_ret (v := .agg #[.int .u64 (m : Int), .string (str u), .slice none 0 0, .int .i64 0]) (results_cell_row rfl _ _ _ _ _ _ _ rfl HKK4 Tryz.underlying34 rfl (by kernel_rfl)) rfl ⟨rfl, HB4⟩
theorem dbase_any (w : World) (x : Nat) (hx : x < 18446744073709551616) (t : List UInt8) (ht : t.length ≤ 1000000) (A : Option Addr) (l c : Nat) (sure : Int) :
    Calls Tryz.prog 17 #[qv x t (.slice A l c) sure] w fun e w' => e = .returned (.string (str (Lib.uvarint x ++ t))) ∧ Below w.heap.size w w' := by
  have hul := Lib.uvarint_length64 hx
  obtain ⟨w1, hw1⟩ : ∃ w1, w.alloc (.cells #[.int .u64 (x : Int), .string (str t), .slice A l c, .int .i64 sure] 34) = w1 := ⟨_, rfl⟩
  have hk1 : w1.heap[w.heap.size]? = some (.cells #[.int .u64 (x : Int), .string (str t), .slice A l c, .int .i64 sure] 34 (0, 0)) := by rw [← hw1]; exact heap_alloc_new w _
  have hb1 : Below w.heap.size w w1 := by rw [← hw1]; exact (Below.refl _ _).alloc (Nat.le_refl _) _
  have HK : Hid (∀ w', Below w1.heap.size w1 w' → w'.cell? ⟨w.heap.size, 0, none⟩ = some (.int .u64 (x : Int)) ∧ w'.cell? ⟨w.heap.size, 1, none⟩ = some (.string (str t))) := Lib.hid fun w' hb => by
    have hk := (hb.block _ (lt_of_block hk1)).trans hk1
    exact ⟨by rw [cell_of_row _ _ 0 _ _ _ hk]; rfl, by rw [cell_of_row _ _ 1 _ _ _ hk]; rfl⟩
  have HKd := Lib.hid (fun w' (hb : Below w1.drew.heap.size w1.drew w') => HK.out w' (Below.trans (Below.refl _ _).drew hb))
  obtain ⟨c1, c2⟩ := HK.out w1 (Below.refl _ _)
  have HNN := Lib.hid (fun W => refNum_any x hx W)
  have hss : (str t).size = t.length := str_size t
  have hsu : (str (Lib.uvarint x)).size = (Lib.uvarint x).length := str_size _
  have hs1 : (str t).size ≤ 1000000 := by omega
  have hs2 : (str (Lib.uvarint x)).size ≤ 10 := by omega
  have hs3 : ¬ (9223372036854775807 < (str (Lib.uvarint x)).size + (str t).size) := by omega
  have hcat : str (Lib.uvarint x) ++ str t = str (Lib.uvarint x ++ t) := str_app _ _
  obtain ⟨z, hz⟩ : ∃ z, str (Lib.uvarint x ++ t) = z := ⟨_, rfl⟩
  rw [hz] at hcat ⊢
  have HB1 := Lib.hid hb1
  have HZ := Lib.hid hcat
  clear hz hk1 hb1 hss hsu hcat
  unfold qv
  generalize str (Lib.uvarint x) = y at *
  generalize str t = u at *
  go_enter Tryz.func17, Tryz.ntmps17
  go_wp2
  go_region_held3 (fun W => W.cell? ⟨w.heap.size, 0, none⟩ = some (.int .u64 (x : Int)) ∧ W.cell? ⟨w.heap.size, 1, none⟩ = some (.string u)) (go_keep)
    (first | (go_at_call 35; ((with_reducible refine (HNN.out _).mono ?_); rintro e w3 ⟨rfl, hb3⟩; obtain ⟨k1, k2⟩ := HKd.out w3 hb3)))
  have HB3 : Hid (Below w.heap.size w w3) := Lib.hid (HB1.out.trans ((Below.trans (Below.refl _ _).drew hb3).mono HB1.out.size))
  clear hb3 k1 k2
  go_wp2
  go_ret
  exact ⟨by rw [← HZ.out]; rfl, HB3.out⟩
end Go.Proofs.YtmaohncddjhgeaaGreat.gn
end
section
set_option linter.unusedVariables false
set_option linter.unusedSectionVars false
namespace Go.Proofs.YtmaohncddjhgeaaGreat.fi
open Go.Proofs.YtmaohncddjhgeaaGreat.gn (frames frames_len frames_app frames_one cost cost_one cost_app scan scan_le scan_take scan_frames frame frame_len fst? fst_some scan_none scan_some cost_len)
/-- The files, and Appends of the rows Rs that are open. -/
def shs (R : Nat) (b : Option (List UInt8)) (g : List UInt8) (Rs : List (List (List UInt8))) : FS := s4 R b none (some g) none (Rs.map fun L => .app log (frames L))
theorem shs_now (R : Nat) (b : Option (List UInt8)) : ∀ (Rs : List (List (List UInt8))) (g : List UInt8), (shs R b g Rs).now = tb b none (some (g ++ frames Rs.flatten)) none
  | [], g => by simp [shs, s4, FS.now, replay, frames]
  | L :: Rs, g => by
    have h := shs_now R b Rs (g ++ frames L)
    simp only [shs, s4, FS.now, replay, List.map_cons, List.foldl_cons, tb_app_l] at h ⊢
    rw [h, List.flatten_cons, frames_app, List.append_assoc]
theorem shs_app {R : Nat} {b : Option (List UInt8)} {g : List UInt8} {Rs : List (List (List UInt8))} {L : List (List UInt8)} (h : l1 b + (g ++ frames (Rs ++ [L]).flatten).length ≤ R) : (shs R b g Rs).app log (frames L) = (0, shs R b g (Rs ++ [L])) := by
  have hn := shs_now R b Rs g
  have h1 : (g ++ frames (Rs ++ [L]).flatten).length = (g ++ frames Rs.flatten).length + (frames L).length := by
    rw [List.flatten_append, frames_app]
    simp
    omega
  rw [app_t hn (look_l hn) (by show l1 b + 0 + (g ++ frames Rs.flatten).length + 0 + _ ≤ R; omega)]
  simp [FS.done, shs, s4]
theorem shs_sync (R : Nat) (b : Option (List UInt8)) (g : List UInt8) (Rs : List (List (List UInt8))) : (shs R b g Rs).sync = shs R b (g ++ frames Rs.flatten) [] := sync_t (shs_now R b Rs g)
theorem shs_wt (R : Nat) (b : Option (List UInt8)) (g : List UInt8) (Rs : List (List (List UInt8))) : (shs R b g Rs).wt ≤ 4 + l1 b + g.length + (Rs.length + (frames Rs.flatten).length) := by
  have h : ∀ Rs : List (List (List UInt8)), wts (Rs.map fun R => FOp.app log (frames R)) = Rs.length + (frames Rs.flatten).length := by
    intro Rs
    induction Rs with
    | nil => rfl
    | cons R Rs ih => simp only [List.map_cons, wts, FOp.wt, ih, List.flatten_cons, frames_app, List.length_append, List.length_cons]; omega
  have h1 := s4_wt R b none (some g) none (Rs.map fun L => .app log (frames L))
  rw [h] at h1
  have e : l1 (some g) = g.length := rfl
  have e0 : l1 none = 0 := rfl
  show (s4 R b none (some g) none _).wt ≤ _
  omega
/-- A Save of such a directory. -/
theorem shs_save {R : Nat} {b : Option (List UInt8)} {g : List UInt8} {Rs : List (List (List UInt8))} (B : List UInt8) (m : Nat) (h1 : l1 b + (g ++ frames Rs.flatten).length + B.length ≤ R) (h2 : B.length + (g ++ frames Rs.flatten).length + (jhd m).length ≤ R) :
    ((shs R b g Rs).snap bN B 5).1 = 0 ∧ (shs R b g Rs).sync.snap bN B 5 = (0, shs R (some B) (g ++ frames Rs.flatten) []) ∧ (shs R (some B) (g ++ frames Rs.flatten) []).start log m = (0, shs R (some B) (jhd m) []) ∧
    (shs R b g Rs).sync.snap bN B 3 = (0, s4 R b (some B) (some (g ++ frames Rs.flatten)) none [.ren xN bN]) := by
  have hn := shs_now R b Rs g
  have e1 := (snap_t hn B (by show l1 b + (g ++ frames Rs.flatten).length + B.length ≤ R; omega)).1
  have hn2 : (shs R b (g ++ frames Rs.flatten) []).now = tb b none (some (g ++ frames Rs.flatten)) none := rfl
  have e2 := snap_t hn2 B (by show l1 b + (g ++ frames Rs.flatten).length + B.length ≤ R; omega)
  have hn3 : (shs R (some B) (g ++ frames Rs.flatten) []).now = tb (some B) none (some (g ++ frames Rs.flatten)) none := rfl
  have e3 := start_t hn3 m (by show B.length + (g ++ frames Rs.flatten).length + _ ≤ R; omega)
  rw [shs_sync]
  exact ⟨by rw [e1], e2.1, e3, e2.2⟩
theorem shs_look (R : Nat) (b : Option (List UInt8)) (g : List UInt8) (Rs : List (List (List UInt8))) : (shs R b g Rs).look log = 0 ∧ (shs R b g Rs).bytes log = g ++ frames Rs.flatten ∧ (shs R b g Rs).look bN = (if b.isSome then 0 else 7) ∧ (shs R b g Rs).bytes bN = b.getD [] := by
  have hn := shs_now R b Rs g
  exact ⟨look_l hn, bytes_l hn, look_b hn, bytes_b hn⟩
theorem scan_log {first : Nat} (hf : first < 18446744073709551616) {Rs : List (List (List UInt8))} (hL : ∀ s ∈ Rs.flatten, s.length ≤ 262144) : scan (jhd first ++ frames Rs.flatten) = Lib.uvarint first :: Rs.flatten := by
  have hul := Lib.uvarint_length64 hf
  have := scan_frames (Lib.uvarint first :: Rs.flatten) [] (fun s hs => by
    rcases List.mem_cons.1 hs with rfl | hs
    · omega
    · exact hL s hs)
  have h0 : scan [] = [] := scan_none (by simp [fst?])
  rw [List.append_nil, h0, List.append_nil] at this
  rw [jhd_frames]
  exact this
/-- An Open of an empty directory. -/
theorem shop_new {R : Nat} (h : 30 ≤ R) : (⟨R, [], []⟩ : FS).shop = (0, shs R none (jhd 0) [], 0, 0) ∧ (⟨R, [], []⟩ : FS).base = (0, 0, []) := by
  have hn : (⟨R, [], []⟩ : FS).now = tb none none none none := rfl
  have hb := base_none hn
  have ho := opens_none hn
  have hs := start_t hn 0 (by have := jhd_len (first := 0) (by omega); show 0 + 0 + _ ≤ R; omega)
  refine ⟨?_, hb⟩
  unfold FS.shop
  rw [hb, if_neg (fun h => h rfl)]
  unfold FS.olog
  rw [ho, if_pos rfl, hs]
  rfl
/-- .. of one with a base, and a log that goes on from it. -/
theorem shop_some {R : Nat} {n first : Nat} (hn : n < 18446744073709551616) (hf : first < 18446744073709551616) {t : List UInt8} (ht : (Lib.uvarint n ++ t).length ≤ 262144) {L : List (List UInt8)} (hL : ∀ s ∈ L, s.length ≤ 262144) (h1 : first ≤ n) (h2 : n ≤ first + L.length) (h3 : first + L.length < 18446744073709551616) :
    (shs R (some (frame (Lib.uvarint n ++ t))) (jhd first ++ frames L) []).shop = (0, shs R (some (frame (Lib.uvarint n ++ t))) (jhd first ++ frames L) [], first, first + L.length) ∧ (shs R (some (frame (Lib.uvarint n ++ t))) (jhd first ++ frames L) []).base = (0, n, t) := by
  have hnow : (shs R (some (frame (Lib.uvarint n ++ t))) (jhd first ++ frames L) []).now = tb (some (frame (Lib.uvarint n ++ t))) none (some (jhd first ++ frames L)) none := rfl
  have hb : (shs R (some (frame (Lib.uvarint n ++ t))) (jhd first ++ frames L) []).base = (0, n, t) := by
    rw [base_some hnow, own_frame ht]
    exact bsp_join hn t
  have hsc : scan (jhd first ++ frames L) = Lib.uvarint first :: L := by
    have := scan_log hf (Rs := [L]) (by simpa using hL)
    simpa using this
  have ho := opens_some R (some (frame (Lib.uvarint n ++ t))) (jhd first ++ frames L)
  rw [hsc, fnum_jhd hf] at ho
  have hfr : frames (Lib.uvarint first :: L) = jhd first ++ frames L := (jhd_frames first L).symm
  rw [hfr] at ho
  have ho' : (shs R (some (frame (Lib.uvarint n ++ t))) (jhd first ++ frames L) []).opens log = (0, shs R (some (frame (Lib.uvarint n ++ t))) (jhd first ++ frames L) [], first) := ho
  have hx : (shs R (some (frame (Lib.uvarint n ++ t))) (jhd first ++ frames L) []).nxt = first + L.length := by
    unfold FS.nxt
    rw [ho', bytes_l hnow]
    show (first + ((scan (jhd first ++ frames L)).length - 1)) % _ = _
    rw [hsc]
    show (first + (L.length + 1 - 1)) % _ = _
    rw [Nat.add_sub_cancel, Nat.mod_eq_of_lt h3]
  refine ⟨?_, hb⟩
  unfold FS.shop
  rw [hb, if_neg (fun h => h rfl)]
  unfold FS.olog
  rw [ho', hx, if_neg (show ¬ (0 : Int) = 7 by decide), if_neg]
  rintro (h | h | h)
  · exact h rfl
  · have h : n < first := h; omega
  · have h : first + L.length < n := h; omega
theorem crash_ren (R : Nat) (b : Option (List UInt8)) (B g : List UInt8) : (s4 R b (some B) (some g) none [.ren xN bN]).crash ⟨9, 0, 0⟩ = shs R (some B) g [] := by
  unfold FS.crash s4
  simp only [crashes]
  rw [if_neg (by decide), if_neg (by decide), tb_ren_x, tb_strip]
  rfl
theorem row_frames {L : List (List UInt8)} (h : ∀ s ∈ L, s.length ≤ 300) : (frames L).length ≤ 320 * L.length := by
  rw [frames_len]
  induction L with
  | nil => simp [cost]
  | cons x L ih =>
    have h1 := h x (by simp)
    have h2 := ih fun s hs => h s (by simp [hs])
    simp only [cost, List.length_cons]
    omega
end Go.Proofs.YtmaohncddjhgeaaGreat.fi

namespace Go.Proofs.YtmaohncddjhgeaaGreat.gn
open Go.RowKit
open Go.Proofs.YtmaohncddjhgeaaGreat.fi

/-- A shelf s of the directory d: the base n, t; a journal from first on with the rows Rs, that are open; behind the bytes of the frames Ls. -/
structure Shl (Z : Nat → Prop) (w : World) (d s R : Nat) (b : Option (List UInt8)) (first : Nat) (Rs : List (List (List UInt8))) (n : Nat) (t : List UInt8) : Prop where
  is : ∃ D J j, Hold Z w D J ∧ BlkS w s ⟨j, d, n, t⟩ ∧ J j = some ⟨d, log, first, (first + Rs.flatten.length) % 18446744073709551616⟩ ∧ D d = some (shs R b (jhd first) Rs)
  z : Z s
theorem Shl.below {Z : Nat → Prop} {w w' : World} {d s R : Nat} {b : Option (List UInt8)} {first : Nat} {Rs : List (List (List UInt8))} {n : Nat} {t : List UInt8} (h : Shl Z w d s R b first Rs n t) (hb : Below w.heap.size w w') : Shl Z w' d s R b first Rs n t := by
  obtain ⟨D, J, j, h1, h2, h3, h4⟩ := h.is
  exact ⟨⟨D, J, j, h1.below hb, h2.below hb, h3, h4⟩, h.z⟩
theorem Shl.grow {Z : Nat → Prop} {w w' : World} {d s R : Nat} {b : Option (List UInt8)} {first : Nat} {Rs : List (List (List UInt8))} {n : Nat} {t : List UInt8} (h : Shl Z w d s R b first Rs n t) (hb : Below w.heap.size w w') : Shl (news Z w w') w' d s R b first Rs n t := by
  obtain ⟨D, J, j, h1, h2, h3, h4⟩ := h.is
  exact ⟨⟨D, J, j, h1.grow hb, h2.below hb, h3, h4⟩, .inl h.z⟩
/-- A store into a block that is held, other than the shelf's. -/
theorem Shl.box {Z : Nat → Prop} {w w' : World} {d s R : Nat} {b : Option (List UInt8)} {first : Nat} {Rs : List (List (List UInt8))} {n : Nat} {t : List UInt8} (h : Shl Z w d s R b first Rs n t) {S : Nat → Prop} (ho : Only S w w') (hS : ∀ i, S i → Z i) (hs : ¬ S s) : Shl Z w' d s R b first Rs n t := by
  obtain ⟨D, J, j, h1, h2, h3, h4⟩ := h.is
  exact ⟨⟨D, J, j, h1.box ho hS, (ho.block s h2.lt hs).trans h2, h3, h4⟩, h.z⟩

set_option maxRecDepth 100000
set_option maxHeartbeats 2000000
section
variable {Z : Nat → Prop} {w : World} {d s R : Nat} {b : Option (List UInt8)} {first : Nat} {Rs : List (List (List UInt8))} {n : Nat} {t : List UInt8} (h : Shl Z w d s R b first Rs n t) (hb : l1 b + (jhd first ++ frames Rs.flatten).length ≤ 1000000) (hr : Rs.length ≤ 1000)
include h hb hr
theorem lsh_app (v : Value) (L : List (List UInt8)) (hv : Strs w v L) (hl : ∀ s ∈ L, s.length ≤ 262144) (hc : cost L ≤ 1000000) (hroom : l1 b + (jhd first ++ frames (Rs ++ [L]).flatten).length ≤ R) :
    Calls Tryz.prog 12 #[.pointer (some ⟨s, 0, none⟩), v] w fun e w' => e = .returned (.int .i64 0) ∧ Shl Z w' d s R b first (Rs ++ [L]) n t ∧ Only (Off Z) w w' := by
  obtain ⟨D, J, j, h1, h2, h3, h4⟩ := h.is
  have hwt := shs_wt R b (jhd first) Rs
  have hll : (jhd first ++ frames Rs.flatten).length = (jhd first).length + (frames Rs.flatten).length := List.length_append
  have hlf : log.length ≤ 1000000 := by decide
  refine (sappend_any h1 h2 h3 h4 (by omega) hlf (Nat.mod_lt _ (by decide)) v L hv hl (by omega)).mono fun e w' hh => ?_
  rw [shs_app hroom] at hh
  rcases hh with ⟨_, he, hh, ho⟩ | ⟨h0, _⟩
  · refine ⟨he, ⟨⟨_, _, j, hh, h2.off ho h.z, ?_, upd_same _ _ _⟩, h.z⟩, ho⟩
    rw [upd_same]
    have : (first + (Rs ++ [L]).flatten.length) % 18446744073709551616 = ((first + Rs.flatten.length) % 18446744073709551616 + L.length) % 18446744073709551616 := by
      rw [List.flatten_append, List.length_append]
      simp only [List.flatten_cons, List.flatten_nil, List.append_nil]
      omega
    rw [this]
  · exact absurd rfl h0
theorem lsh_save (m : Nat) (hm : (first + Rs.flatten.length) % 18446744073709551616 = m) (u : List UInt8) (hu : u.length ≤ 100000) {y : ByteArray} (hy : y = str u)
    (hroom1 : l1 b + (jhd first ++ frames Rs.flatten).length + (frame (Lib.uvarint m ++ u)).length ≤ R) (hroom2 : (frame (Lib.uvarint m ++ u)).length + (jhd first ++ frames Rs.flatten).length + (jhd m).length ≤ R) :
    Calls Tryz.prog 9 #[.pointer (some ⟨s, 0, none⟩), .string y] w fun e w' => e = .returned (.int .i64 0) ∧ Shl Z w' d s R (some (frame (Lib.uvarint m ++ u))) m [] m u ∧ Only (fun i => ¬ Z i ∨ i = s) w w' := by
  subst hy
  obtain ⟨D, J, j, h1, h2, h3, h4⟩ := h.is
  have hwt := shs_wt R b (jhd first) Rs
  have hll : (jhd first ++ frames Rs.flatten).length = (jhd first).length + (frames Rs.flatten).length := List.length_append
  have hml : m < 18446744073709551616 := by rw [← hm]; exact Nat.mod_lt _ (by decide)
  rw [hm] at h3
  have hul := Lib.uvarint_length64 hml
  obtain ⟨e1, e2, e3, _⟩ := shs_save (frame (Lib.uvarint m ++ u)) m hroom1 hroom2
  have hwt2 := shs_wt R (some (frame (Lib.uvarint m ++ u))) (jhd first ++ frames Rs.flatten) []
  have hfl : (frame (Lib.uvarint m ++ u)).length = 20 + (Lib.uvarint m ++ u).length := frame_len _
  have hal : (Lib.uvarint m ++ u).length = (Lib.uvarint m).length + u.length := List.length_append
  have e0 : (frames ([] : List (List (List UInt8))).flatten).length = 0 := rfl
  have el : l1 (some (frame (Lib.uvarint m ++ u))) = (frame (Lib.uvarint m ++ u)).length := rfl
  have en : ([] : List (List (List UInt8))).length = 0 := rfl
  refine (save_any h1 h2 h.z h3 rfl hml h4 (by omega) u (show (Lib.uvarint m ++ u).length ≤ 262144 by omega) e1 e2 (by omega) e3).mono fun e w' hh => ?_
  obtain ⟨he, j', _, hk, hh, ho⟩ := hh
  refine ⟨he, ⟨⟨_, _, j', hh, hk, ?_, upd_same _ _ _⟩, h.z⟩, ho⟩
  rw [upd_same]
  show some (Jn.mk d log m m) = some ⟨d, log, m, (m + 0) % 18446744073709551616⟩
  rw [Nat.add_zero, Nat.mod_eq_of_lt hml]
theorem lsh_is (k : Nat) (hk : n = first + k) (hkl : k ≤ Rs.flatten.length) (hx : first + Rs.flatten.length < 18446744073709551616) (hL : ∀ s ∈ Rs.flatten, s.length ≤ 262144) (htl : t.length ≤ 1000000) (L : List (List UInt8)) (hLk : Rs.flatten.drop k = L)
    (v : Value) (hv : Strs w v L) {a : Int} (ha : a = (n : Int)) {y : ByteArray} (hy : y = str t) :
    Calls Tryz.prog 24 #[.pointer (some ⟨s, 0, none⟩), .int .u64 a, .string y, v] w fun e w' => e = .returned (.bool true) ∧ Below w.heap.size w w' := by
  obtain ⟨D, J, j, h1, h2, h3, h4⟩ := h.is
  obtain ⟨_, hbl, _⟩ := shs_look R b (jhd first) Rs
  have hsc := scan_log (first := first) (by omega) hL
  have hE : (scan ((shs R b (jhd first) Rs).bytes log)).drop 1 = Rs.flatten := by rw [hbl, hsc]; rfl
  refine is_yes h1 h2 h3 h4 (by rw [hbl]; omega) htl Rs.flatten hE k hk hkl (by show n < _; omega) L hLk ?_ v hv ha hy
  show (first + Rs.flatten.length) % 18446744073709551616 = (n + L.length) % 18446744073709551616
  rw [← hLk, List.length_drop, hk]
  congr 1
  omega
theorem lsh_readl {y : ByteArray} (hy : y = str (jhd first ++ frames Rs.flatten)) :
    Calls Tryz.prog 14 #[.pointer (some ⟨d, 0, none⟩), .string ⟨#[108, 111, 103]⟩] w (Asks (.tuple #[.string y, .int .i64 0]) w) := by
  subst hy
  obtain ⟨D, J, j, h1, h2, h3, h4⟩ := h.is
  obtain ⟨e1, e2, _⟩ := shs_look R b (jhd first) Rs
  have hs := read_h h1 h4 log
  rw [e1, e2] at hs
  exact Calls.mono (show Calls Tryz.prog 14 #[.pointer (some ⟨d, 0, none⟩), .string ⟨#[108, 111, 103]⟩] w _ from hs) fun e w' hh => hh
theorem lsh_readb {y : ByteArray} (hy : y = str (b.getD [])) {q : Int} (hq : q = if b.isSome then 0 else 7) :
    Calls Tryz.prog 14 #[.pointer (some ⟨d, 0, none⟩), .string ⟨#[98, 97, 115, 101]⟩] w (Asks (.tuple #[.string y, .int .i64 q]) w) := by
  subst hy hq
  obtain ⟨D, J, j, h1, h2, h3, h4⟩ := h.is
  obtain ⟨_, _, e1, e2⟩ := shs_look R b (jhd first) Rs
  have hs := read_h h1 h4 bN
  rw [e1, e2] at hs
  exact Calls.mono (show Calls Tryz.prog 14 #[.pointer (some ⟨d, 0, none⟩), .string ⟨#[98, 97, 115, 101]⟩] w _ from hs) fun e w' hh => hh
end
/-- An Open of a new directory. -/
theorem lsh_new {Z : Nat → Prop} {w : World} {D : Nat → Option FS} {J : Nat → Option Jn} (h : Hold Z w D J) {d R : Nat} (hd : D d = some ⟨R, [], []⟩) (hR : 30 ≤ R) :
    Calls Tryz.prog 8 #[.pointer (some ⟨d, 0, none⟩)] w fun e w' => ∃ s, e = .returned (.tuple #[.pointer (some ⟨s, 0, none⟩), .int .i64 0]) ∧ w.heap.size ≤ s ∧ Shl (fun i => Z i ∨ i = s) w' d s R none 0 [] 0 [] ∧ Only (Off Z) w w' := by
  obtain ⟨e1, e2⟩ := shop_new hR
  refine (shopen_any h hd (show (0 : Nat) ≤ _ from Nat.zero_le _)).mono fun e w' hh => ?_
  rw [e1, e2] at hh
  rcases hh with ⟨_, s, j, he, hs, _, hk, hh, ho⟩ | ⟨h0, _⟩
  · exact ⟨s, he, hs, ⟨⟨_, _, j, hh, hk, upd_same _ _ _, upd_same _ _ _⟩, .inr rfl⟩, ho⟩
  · exact absurd rfl h0
end Go.Proofs.YtmaohncddjhgeaaGreat.gn
end
section
set_option linter.unusedVariables false
namespace Go.Proofs.YtmaohncddjhgeaaGreat.gn
open Go.RowKit
open Go.Proofs.YtmaohncddjhgeaaGreat.fi
set_option maxRecDepth 100000
set_option maxHeartbeats 1000000

theorem nil_is (w : World) : Calls Tryz.prog 46 #[.pointer none] w fun e w' => e = .returned (.bool false) ∧ Below w.heap.size w w' := by
  go_enter Tryz.func46, Tryz.ntmps46
  go_wp2
  go_ret
  exact ⟨rfl, Below.refl _ _⟩

theorem nil_copy (w : World) : Calls Tryz.prog 29 #[.pointer none] w fun e w' => e = .returned (.pointer none) ∧ Below w.heap.size w w' := by
  go_enter Tryz.func29, Tryz.ntmps29
  go_wp2_with fail
  refine (nil_is _).mono ?_
  rintro e w1 ⟨rfl, b1⟩
  have B1 : Hid (Below w.heap.size w w1) := Lib.hid (by first | exact b1 | exact ((Below.refl _ w).alloc (Nat.le_refl _) _).trans (b1.mono (by simp)))
  clear b1
  go_wp2
  first | go_ret | go_ret2 | go_ret3
  exact ⟨rfl, B1.out⟩

theorem nil_check (v : Value) (w : World) : Calls Tryz.prog 70 #[.pointer none, v] w fun e w' => e = .returned (.int .i64 1) ∧ Below w.heap.size w w' := by
  go_enter Tryz.func70, Tryz.ntmps70
  go_wp2_with fail
  refine (nil_is _).mono ?_
  rintro e w1 ⟨rfl, b1⟩
  have B1 : Hid (Below w.heap.size w w1) := Lib.hid (by first | exact b1 | exact ((Below.refl _ w).alloc (Nat.le_refl _) _).trans (b1.mono (by simp)))
  clear b1
  go_wp2
  first | go_ret | go_ret2 | go_ret3
  exact ⟨rfl, B1.out⟩

theorem nil_find (y : ByteArray) (w : World) : Calls Tryz.prog 34 #[.pointer none, .string y] w fun e w' => e = .returned (.tuple #[.pointer none, .int .i64 1]) ∧ Below w.heap.size w w' := by
  go_enter Tryz.func34, Tryz.ntmps34
  go_wp2_with fail
  refine (nil_check _ _).mono ?_
  rintro e w1 ⟨rfl, b1⟩
  have B1 : Hid (Below w.heap.size w w1) := Lib.hid (by first | exact b1 | exact ((Below.refl _ w).alloc (Nat.le_refl _) _).trans (b1.mono (by simp)))
  clear b1
  go_wp2
  first | go_ret | go_ret2 | go_ret3
  exact ⟨rfl, B1.out⟩

theorem nil_read (y : ByteArray) (w : World) : Calls Tryz.prog 14 #[.pointer none, .string y] w fun e w' => e = .returned (.tuple #[.string ⟨#[]⟩, .int .i64 1]) ∧ Below w.heap.size w w' := by
  go_enter Tryz.func14, Tryz.ntmps14
  go_wp2_with fail
  refine (nil_find _ _).mono ?_
  rintro e w1 ⟨rfl, b1⟩
  have B1 : Hid (Below w.heap.size w w1) := Lib.hid (by first | exact b1 | exact ((Below.refl _ w).alloc (Nat.le_refl _) _).trans (b1.mono (by simp)))
  clear b1
  go_wp2
  first | go_ret | go_ret2 | go_ret3
  exact ⟨rfl, B1.out⟩

theorem nil_scheck (w : World) : Calls Tryz.prog 77 #[.pointer none, .string ⟨#[98, 97, 115, 101]⟩] w fun e w' => e = .returned (.int .i64 1) ∧ Below w.heap.size w w' := by
  go_enter Tryz.func77, Tryz.ntmps77
  go_wp2_with fail
  refine (nil_read _ _).mono ?_
  rintro e w1 ⟨rfl, b1⟩
  have B1 : Hid (Below w.heap.size w w1) := Lib.hid (by first | exact b1 | exact ((Below.refl _ w).alloc (Nat.le_refl _) _).trans (b1.mono (by simp)))
  clear b1
  go_wp2
  first | go_ret | go_ret2 | go_ret3
  exact ⟨rfl, B1.out⟩

theorem nil_get (w : World) : Calls Tryz.prog 80 #[.pointer none, .string ⟨#[98, 97, 115, 101]⟩] w fun e w' => e = .returned (.tuple #[.string ⟨#[]⟩, .int .i64 1]) ∧ Below w.heap.size w w' := by
  go_enter Tryz.func80, Tryz.ntmps80
  go_wp2_with fail
  refine (nil_scheck _).mono ?_
  rintro e w1 ⟨rfl, b1⟩
  have B1 : Hid (Below w.heap.size w w1) := Lib.hid (by first | exact b1 | exact ((Below.refl _ w).alloc (Nat.le_refl _) _).trans (b1.mono (by simp)))
  clear b1
  go_wp2
  first | go_ret | go_ret2 | go_ret3
  exact ⟨rfl, B1.out⟩

theorem nil_base (w : World) : Calls Tryz.prog 56 #[.pointer none] w fun e w' => e = .returned (.tuple #[.int .u64 0, .string ⟨#[]⟩, .int .i64 1]) ∧ Below w.heap.size w w' := by
  go_enter Tryz.func56, Tryz.ntmps56
  go_wp2_with fail
  refine (nil_get _).mono ?_
  rintro e w1 ⟨rfl, b1⟩
  have B1 : Hid (Below w.heap.size w w1) := Lib.hid (by first | exact b1 | exact ((Below.refl _ w).alloc (Nat.le_refl _) _).trans (b1.mono (by simp)))
  clear b1
  go_wp2
  first | go_ret | go_ret2 | go_ret3
  exact ⟨rfl, B1.out⟩

theorem nil_open (w : World) : Calls Tryz.prog 28 #[.pointer none] w fun e w' => e = .returned (.tuple #[.pointer none, .int .i64 1]) ∧ Below w.heap.size w w' := by
  go_enter Tryz.func28, Tryz.ntmps28
  go_wp2_with fail
  refine (nil_base _).mono ?_
  rintro e w1 ⟨rfl, b1⟩
  have B1 : Hid (Below w.heap.size w w1) := Lib.hid (by first | exact b1 | exact ((Below.refl _ w).alloc (Nat.le_refl _) _).trans (b1.mono (by simp)))
  clear b1
  go_wp2
  first | go_ret | go_ret2 | go_ret3
  exact ⟨rfl, B1.out⟩

theorem nil_Open (w : World) : Calls Tryz.prog 8 #[.pointer none] w fun e w' => e = .returned (.tuple #[.pointer none, .int .i64 1]) ∧ Below w.heap.size w w' := by
  go_enter Tryz.func8, Tryz.ntmps8
  go_wp2_with fail
  refine (nil_copy _).mono ?_
  rintro e w1 ⟨rfl, b1⟩
  have B1 : Hid (Below w.heap.size w w1) := Lib.hid (by first | exact b1 | exact ((Below.refl _ w).alloc (Nat.le_refl _) _).trans (b1.mono (by simp)))
  clear b1
  go_wp2_with fail
  refine (nil_open _).mono ?_
  rintro e w2 ⟨rfl, b2⟩
  have B2 := Lib.hid (B1.out.trans (b2.mono B1.out.size))
  clear b2
  go_wp2
  first | go_ret | go_ret2 | go_ret3
  exact ⟨rfl, B2.out⟩

end Go.Proofs.YtmaohncddjhgeaaGreat.gn
end
section
set_option linter.unusedVariables false
set_option linter.unusedSectionVars false
namespace Go.Proofs.YtmaohncddjhgeaaGreat.gn
open Go.RowKit
open Go.Proofs.YtmaohncddjhgeaaGreat.fi

theorem strs_two (w : World) (s t : List UInt8) (h : s.length ≤ maxLen) (h2 : t.length ≤ maxLen) : Strs (w.alloc (.cells #[.string (str s), .string (str t)] 9)) (.slice (some ⟨w.heap.size, 0, none⟩) 2 2) [s, t] := by
  refine ⟨_, 2, rfl, Nat.le_refl _, by decide, .inr ⟨w.heap.size, 0, rfl, fun j hj => ?_⟩, fun x hx => by simp at hx; rcases hx with rfl | rfl <;> assumption⟩
  have hk := heap_alloc_new w (.cells #[.string (str s), .string (str t)] 9)
  have : j = 0 ∨ j = 1 := by simp at hj; omega
  rcases this with rfl | rfl
  · rw [cell_of_row _ _ 0 _ _ _ hk]; rfl
  · rw [cell_of_row _ _ 1 _ _ _ hk]; rfl
theorem strs_nil (w : World) : Strs w (.slice none 0 0) [] := ⟨none, 0, rfl, Nat.le_refl _, Nat.zero_le _, .inl rfl, fun s hs => by cases hs⟩
theorem only_off {Z Z1 : Nat → Prop} {a b c : World} (h : Only (Off Z) a b) (k : Only (Off Z1) b c) (hz : ∀ i, Z i → Z1 i) : Only (Off Z) a c := h.trans k fun i _ hi hn => hi (hz i hn)
theorem only_off_s {Z Z1 : Nat → Prop} {s : Nat} {a b c : World} (h : Only (Off Z) a b) (k : Only (fun i => ¬ Z1 i ∨ i = s) b c) (hz : ∀ i, Z i → Z1 i) (hs : ¬ Z s) : Only (Off Z) a c := h.trans k fun i _ hi hn => by
  rcases hi with hi | hi
  · exact hi (hz i hn)
  · subst hi; exact hs hn
set_option maxRecDepth 100000
set_option maxHeartbeats 4000000
theorem lsh_part3 {Z : Nat → Prop} {w : World} {d s R : Nat} {b : Option (List UInt8)} {first : Nat} {Rs : List (List (List UInt8))} {n : Nat} {t : List UInt8} (h : Shl Z w d s R b first Rs n t) (hb : l1 b + (jhd first ++ frames Rs.flatten).length ≤ 1000000) (hr : Rs.length ≤ 1000)
    (m : Nat) (hm : (first + Rs.flatten.length) % 18446744073709551616 = m) (u : List UInt8) (hu : u.length ≤ 100000) {y : ByteArray} (hy : y = str u)
    (hroom1 : l1 b + (jhd first ++ frames Rs.flatten).length + (frame (Lib.uvarint m ++ u)).length ≤ R) (hroom2 : (frame (Lib.uvarint m ++ u)).length + (jhd first ++ frames Rs.flatten).length + (jhd m).length ≤ R) :
    Calls Tryz.prog 25 #[.pointer (some ⟨s, 0, none⟩), .string y, .int .i64 3] w fun e w' => e = .returned (.tuple #[.bool false, .int .i64 0]) ∧
      (∃ D J, Hold Z w' D J ∧ D d = some (s4 R b (some (frame (Lib.uvarint m ++ u))) (some (jhd first ++ frames Rs.flatten)) none [.ren xN bN])) ∧ Only (Off Z) w w' := by
  subst hy
  obtain ⟨D, J, j, h1, h2, h3, h4⟩ := h.is
  have hwt := shs_wt R b (jhd first) Rs
  have hll : (jhd first ++ frames Rs.flatten).length = (jhd first).length + (frames Rs.flatten).length := List.length_append
  have hml : m < 18446744073709551616 := by rw [← hm]; exact Nat.mod_lt _ (by decide)
  rw [hm] at h3
  have hul := Lib.uvarint_length64 hml
  obtain ⟨_, _, _, e4⟩ := shs_save (frame (Lib.uvarint m ++ u)) m hroom1 hroom2
  have e1 := (snap_t (shs_now R b Rs (jhd first)) (frame (Lib.uvarint m ++ u)) (by show l1 b + (jhd first ++ frames Rs.flatten).length + (frame (Lib.uvarint m ++ u)).length ≤ R; omega)).2
  have hal : (Lib.uvarint m ++ u).length = (Lib.uvarint m).length + u.length := List.length_append
  refine (spart_any h1 h2 h.z h3 rfl hml h4 (by omega) u (show (Lib.uvarint m ++ u).length ≤ 262144 by omega) 3 (x := 3) rfl (by show ((shs R b (jhd first) Rs).snap bN (frame (Lib.uvarint m ++ u)) 3).1 = 0; rw [e1])).mono fun e w' hh => ?_
  obtain ⟨he, hh, ho⟩ := hh
  have hsd : (shs R b (jhd first) Rs).sync.snapD bN (frame (Lib.uvarint m ++ u)) 3 = false := by
    unfold FS.snapD
    rw [e4]; rfl
  refine ⟨?_, ⟨_, _, hh, ?_⟩, ho⟩
  · rw [he]
    show Ending.returned (.tuple #[.bool ((shs R b (jhd first) Rs).sync.snapD bN (frame (Lib.uvarint m ++ u)) 3), .int .i64 ((shs R b (jhd first) Rs).sync.snap bN (frame (Lib.uvarint m ++ u)) 3).1]) = _
    rw [hsd, e4]
  · rw [upd_same]
    show some ((shs R b (jhd first) Rs).sync.snap bN (frame (Lib.uvarint m ++ u)) 3).2 = _
    rw [e4]

def hA : List (List (List UInt8)) := [[[97], [98]]]
def hC : List (List (List UInt8)) := [[[99]]]
theorem head_any (w : World) : Calls Tryz.prog 6 #[] w fun e w' => e = .returned (.bool true) ∧ Below w.heap.size w w' := by
  obtain ⟨Z, hZ⟩ : ∃ Z : Nat → Prop, Z = fun i => i < w.heap.size := ⟨_, rfl⟩
  have H0 := Lib.hid (Hold.none_ w Z fun i hi => by subst hZ; exact hi)
  have hZ' : ∀ i, i < w.heap.size → Z i := fun i hi => by subst hZ; exact hi
  have hZn : ∀ s, w.heap.size ≤ s → ¬ Z s := fun s hs => by subst hZ; exact Nat.not_lt.2 hs
  have HZ := Lib.hid hZ'
  have HZN := Lib.hid hZn
  clear hZ' hZ hZn
  have j0 := jhd_len (first := 0) (by omega)
  have j2 := jhd_len (first := 2) (by omega)
  have j3 := jhd_len (first := 3) (by omega)
  have u2 := Lib.uvarint_length64 (x := 2) (by omega)
  have u3 := Lib.uvarint_length64 (x := 3) (by omega)
  have f0 : (frames ([] : List (List (List UInt8))).flatten).length = 0 := rfl
  have fA : (frames hA.flatten).length = 42 := by rw [frames_len]; rfl
  have fC : (frames hC.flatten).length = 21 := by rw [frames_len]; rfl
  have bx : (frame (Lib.uvarint 2 ++ [120])).length = 21 + (Lib.uvarint 2).length := by rw [frame_len, List.length_append]; show 20 + (_ + 1) = _; omega
  have by_ : (frame (Lib.uvarint 3 ++ [121])).length = 21 + (Lib.uvarint 3).length := by rw [frame_len, List.length_append]; show 20 + (_ + 1) = _; omega
  have lb : l1 (some (frame (Lib.uvarint 2 ++ [120]))) = (frame (Lib.uvarint 2 ++ [120])).length := rfl
  have ln : l1 none = 0 := rfl
  have g0 : (jhd 0 ++ frames ([] : List (List (List UInt8))).flatten).length = (jhd 0).length := by rw [List.length_append]; omega
  have gA : (jhd 0 ++ frames hA.flatten).length = (jhd 0).length + 42 := by rw [List.length_append]; omega
  have g2 : (jhd 2 ++ frames ([] : List (List (List UInt8))).flatten).length = (jhd 2).length := by rw [List.length_append]; omega
  have gC : (jhd 2 ++ frames hC.flatten).length = (jhd 2).length + 21 := by rw [List.length_append]; omega
  have n0 : ([] : List (List (List UInt8))).length = 0 := rfl
  have nA : hA.length = 1 := rfl
  have nC : hC.length = 1 := rfl
  go_enter Tryz.func6, Tryz.ntmps6
  go_wp2_with fail
  refine (lnew H0.out 5000 (by decide) rfl).mono ?_
  rintro e w1 ⟨d, D1, rfl, g, h, a, x, b⟩
  have H1 := Lib.hid h
  have A1 := Lib.hid a
  have O1 : Hid (Only (Off Z) w w1) := Lib.hid (Only.of_below b)
  clear g h a x b
  go_wp2_with fail
  refine (lsh_new H1.out A1.out (by omega)).mono ?_
  rintro e w2 ⟨s, rfl, hs, hh, ho⟩
  have hsz : w.heap.size ≤ s := Nat.le_trans O1.out.size hs
  have HS := Lib.hid (HZN.out s hsz)
  have H2 := Lib.hid hh
  have O2 := Lib.hid (Off.tr O1.out ho)
  have HU : Hid (∀ i, Z i → (fun i => Z i ∨ i = s) i) := Lib.hid fun i hi => .inl hi
  clear hs hh ho hsz
  go_wp2_with fail
  have b3 : Below w2.heap.size w2 (w2.alloc (.cells #[.string ⟨#[97]⟩, .string ⟨#[98]⟩] 9)) := (Below.refl _ _).alloc (Nat.le_refl _) _
  refine (lsh_app (H2.out.below b3) (by omega) (by omega) _ [[97], [98]] (strs_two w2 [97] [98] (by decide) (by decide)) (by decide) (by decide) (by show l1 none + (jhd 0 ++ frames hA.flatten).length ≤ 5000; omega)).mono ?_
  rintro e w3 ⟨rfl, hh, ho⟩
  have H3 : Hid (Shl (fun i => Z i ∨ i = s) w3 d s 5000 none 0 hA 0 []) := Lib.hid hh
  have O3 := Lib.hid (only_off (Off.tr O2.out (Only.of_below b3)) ho HU.out)
  clear hh ho b3
  go_wp2_with fail
  refine (lsh_save H3.out (by omega) (by omega) 2 (by decide) [120] (by decide) (y := ⟨#[120]⟩) rfl (by omega) (by omega)).mono ?_
  rintro e w4 ⟨rfl, hh, ho⟩
  have H4 := Lib.hid hh
  have O4 := Lib.hid (only_off_s O3.out ho HU.out HS.out)
  clear hh ho
  go_wp2_with fail
  have b5 : Below w4.heap.size w4 (w4.alloc (.cells #[.string ⟨#[99]⟩] 9)) := (Below.refl _ _).alloc (Nat.le_refl _) _
  refine (lsh_app (H4.out.below b5) (by omega) (by omega) _ [[99]] (strs_new w4 [99] (by decide)) (by decide) (by decide) (by show l1 (some (frame (Lib.uvarint 2 ++ [120]))) + (jhd 2 ++ frames hC.flatten).length ≤ 5000; omega)).mono ?_
  rintro e w5 ⟨rfl, hh, ho⟩
  have H5 : Hid (Shl (fun i => Z i ∨ i = s) w5 d s 5000 (some (frame (Lib.uvarint 2 ++ [120]))) 2 hC 2 [120]) := Lib.hid hh
  have O5 := Lib.hid (only_off (Off.tr O4.out (Only.of_below b5)) ho HU.out)
  clear hh ho b5
  go_wp2_with fail
  have b6 : Below w5.heap.size w5 (w5.alloc (.cells #[.string ⟨#[99]⟩] 9)) := (Below.refl _ _).alloc (Nat.le_refl _) _
  refine (lsh_is (H5.out.below b6) (by omega) (by omega) 0 rfl (by omega) (by decide) (by decide) (by decide) [[99]] rfl _ (strs_new w5 [99] (by decide)) rfl (y := ⟨#[120]⟩) rfl).mono ?_
  rintro e w6 ⟨rfl, b⟩
  have H6 := Lib.hid ((H5.out.below b6).below b)
  have O6 := Lib.hid (Off.tr (Off.tr O5.out (Only.of_below b6)) (Only.of_below b))
  clear b b6
  go_wp2_with fail
  refine (lsh_part3 H6.out (by omega) (by omega) 3 (by decide) [121] (by decide) (y := ⟨#[121]⟩) rfl (by omega) (by omega)).mono ?_
  rintro e w7 ⟨rfl, ⟨D7, J7, hh, hd⟩, ho⟩
  have H7 := Lib.hid hh
  have A7 := Lib.hid hd
  have O7 := Lib.hid (only_off O6.out ho HU.out)
  have wt7 := s4_wt 5000 (some (frame (Lib.uvarint 2 ++ [120]))) (some (frame (Lib.uvarint 3 ++ [121]))) (some (jhd 2 ++ frames hC.flatten)) none [.ren xN bN]
  have lb2 : l1 (some (frame (Lib.uvarint 3 ++ [121]))) = (frame (Lib.uvarint 3 ++ [121])).length := rfl
  have lg2 : l1 (some (jhd 2 ++ frames hC.flatten)) = (jhd 2 ++ frames hC.flatten).length := rfl
  have lw : wts [FOp.ren xN bN] = 1 := rfl
  clear hh hd ho
  go_wp2_with fail
  refine (lcrash H7.out A7.out (by omega) ⟨9, 0, 0⟩ (by decide) rfl rfl rfl (crash_ren _ _ _ _)).mono ?_
  rintro e w8 ⟨D8, rfl, hh, hd, x, ho⟩
  have H8 := Lib.hid hh
  have A8 := Lib.hid hd
  have O8 := Lib.hid (only_off O7.out ho HU.out)
  clear hh hd x ho wt7
  have hs8 := shop_some (R := 5000) (n := 3) (first := 2) (by omega) (by omega) (t := [121]) (by rw [List.length_append]; show _ + 1 ≤ _; omega) (L := hC.flatten) (by decide) (by omega) (by decide) (by decide)
  have wt8 := shs_wt 5000 (some (frame (Lib.uvarint 3 ++ [121]))) (jhd 2 ++ frames hC.flatten) []
  have HO := shopen_any H8.out A8.out (by omega)
  rw [hs8.1, hs8.2] at HO
  have HO := Lib.hid HO
  clear wt8 hs8
  unfold ShOpen at HO
  go_wp2_with fail
  refine HO.out.mono ?_
  rintro e w9 (⟨_, t, j, rfl, ht, hj, hk, hh, ho⟩ | ⟨h0, _⟩)
  case inr => exact absurd rfl h0
  have H9 := Lib.hid hh
  have K9 := Lib.hid hk
  have O9 := Lib.hid (only_off O8.out ho HU.out)
  clear ht hj hk hh ho
  go_wp2_with fail
  refine (nil_Open _).mono ?_
  rintro e wa ⟨rfl, b⟩
  have Ha := Lib.hid (H9.out.below b)
  have Ka := Lib.hid (K9.out.below b)
  have Oa := Lib.hid (Off.tr O9.out (Only.of_below b))
  clear b
  obtain ⟨_, hb9, _⟩ := shs_look 5000 (some (frame (Lib.uvarint 3 ++ [121]))) (jhd 2 ++ frames hC.flatten) []
  have hsc := scan_log (first := 2) (by omega) (Rs := hC) (by decide)
  have hE : (scan ((shs 5000 (some (frame (Lib.uvarint 3 ++ [121]))) (jhd 2 ++ frames hC.flatten) []).bytes log)).drop 1 = [[99]] := by
    rw [hb9]
    show (scan ((jhd 2 ++ frames hC.flatten) ++ frames [])).drop 1 = _
    rw [show frames [] = [] from rfl, List.append_nil, hsc]
    rfl
  have hbl : ((shs 5000 (some (frame (Lib.uvarint 3 ++ [121]))) (jhd 2 ++ frames hC.flatten) []).bytes log).length ≤ 549755813888 := by
    rw [hb9, List.length_append]
    omega
  have HY := Lib.hid (is_yes Ha.out Ka.out (upd_same _ _ _) (upd_same _ _ _) hbl (show (1 : Nat) ≤ 1000000 by decide) [[99]] hE 1 rfl (by decide) (show 3 < 18446744073709551616 by decide) [] rfl (by rfl) (.slice none 0 0) (strs_nil _) rfl (y := ⟨#[121]⟩) rfl)
  clear hb9 hsc hE hbl
  go_wp2_with fail
  refine HY.out.mono ?_
  rintro e wb ⟨rfl, b⟩
  have Ob := Lib.hid (Off.tr Oa.out (Only.of_below b))
  clear b
  go_wp2
  go_ret
  exact ⟨rfl, Ob.out.belowZ HZ.out (Nat.le_refl _)⟩
end Go.Proofs.YtmaohncddjhgeaaGreat.gn
end
section
set_option linter.unusedVariables false
set_option linter.unusedSectionVars false
namespace Go.Proofs.YtmaohncddjhgeaaGreat.fi
open Go.Proofs.YtmaohncddjhgeaaGreat.gn (frames frames_len frames_app frames_one cost cost_one cost_app scan scan_le scan_take scan_frames frame frame_len fst? fst_some scan_none scan_some cost_len cost_mem)

/-- What the law wants of a base and a log: fine, with the base n, t, and entries L from first on. -/
structure Fine (bO lO : Option (List UInt8)) (n : Nat) (t : List UInt8) (first : Nat) (L : List (List UInt8)) : Prop where
  base : (bO = none ∧ n = 0 ∧ t = []) ∨ bO = some (frame (Lib.uvarint n ++ t))
  nlt : n < 18446744073709551616
  bl : (Lib.uvarint n ++ t).length ≤ 262144
  lo : (lO = none ∧ first = n ∧ L = []) ∨ ∃ g, lO = some g ∧ scan g = Lib.uvarint first :: L
  small : ∀ s ∈ L, s.length ≤ 262144
  le : first ≤ n
  ge : n ≤ first + L.length
  lt : first + L.length < 18446744073709551616
theorem Fine.base_ {bO lO : Option (List UInt8)} {n : Nat} {t : List UInt8} {first : Nat} {L : List (List UInt8)} (h : Fine bO lO n t first L) {s : FS} {x l y : Option (List UInt8)} (hs : s.now = tb bO x l y) : s.base = (0, n, t) := by
  rcases h.base with ⟨rfl, rfl, rfl⟩ | rfl
  · exact base_none hs
  · rw [base_some hs, own_frame h.bl]
    exact bsp_join h.nlt t
/-- An Open of a fine shelf whose log is its frames alone. -/
theorem Fine.again {R : Nat} {bO lO : Option (List UInt8)} {n : Nat} {t : List UInt8} {first : Nat} {L : List (List UInt8)} (h : Fine bO lO n t first L) :
    (shs R bO (jhd first ++ frames L) []).shop = (0, shs R bO (jhd first ++ frames L) [], first, first + L.length) ∧ (shs R bO (jhd first ++ frames L) []).base = (0, n, t) := by
  have h1 := h.le
  have h2 := h.ge
  have h3 := h.lt
  have hf : first < 18446744073709551616 := by omega
  have hnow : (shs R bO (jhd first ++ frames L) []).now = tb bO none (some (jhd first ++ frames L)) none := rfl
  have hb := h.base_ hnow
  have hsc : scan (jhd first ++ frames L) = Lib.uvarint first :: L := by
    have := scan_log hf (Rs := [L]) (by simpa using h.small)
    simpa using this
  have ho := opens_some R bO (jhd first ++ frames L)
  rw [hsc, fnum_jhd hf] at ho
  have hfr : frames (Lib.uvarint first :: L) = jhd first ++ frames L := (jhd_frames first L).symm
  rw [hfr] at ho
  have ho' : (shs R bO (jhd first ++ frames L) []).opens log = (0, shs R bO (jhd first ++ frames L) [], first) := ho
  have hx : (shs R bO (jhd first ++ frames L) []).nxt = first + L.length := by
    unfold FS.nxt
    rw [ho', bytes_l hnow]
    show (first + ((scan (jhd first ++ frames L)).length - 1)) % _ = _
    rw [hsc]
    show (first + (L.length + 1 - 1)) % _ = _
    rw [Nat.add_sub_cancel, Nat.mod_eq_of_lt h3]
  refine ⟨?_, hb⟩
  unfold FS.shop
  rw [hb, if_neg (fun h => h rfl)]
  unfold FS.olog
  rw [ho', hx, if_neg (show ¬ (0 : Int) = 7 by decide), if_neg]
  rintro (h | h | h)
  · exact h rfl
  · have h : n < first := h; omega
  · have h : first + L.length < n := h; omega
/-- The first Open. -/
theorem Fine.first_ {R : Nat} {bO lO : Option (List UInt8)} {n : Nat} {t : List UInt8} {first : Nat} {L : List (List UInt8)} (h : Fine bO lO n t first L) (hr : l1 bO + l1 lO + 30 ≤ R) :
    (s4 R bO none lO none []).shop = (0, shs R bO (jhd first ++ frames L) [], first, first + L.length) ∧ (s4 R bO none lO none []).base = (0, n, t) := by
  have hnow := s4_now R bO none lO none
  have hb := h.base_ hnow
  have h1 := h.le
  have h2 := h.ge
  have h3 := h.lt
  have hf : first < 18446744073709551616 := by omega
  refine ⟨?_, hb⟩
  unfold FS.shop
  rw [hb, if_neg (fun h => h rfl)]
  unfold FS.olog
  rcases h.lo with ⟨rfl, rfl, rfl⟩ | ⟨g, rfl, hsc⟩
  · have hj := jhd_len hf
    have el : l1 none = 0 := rfl
    have hst := start_t hnow first (by show l1 bO + l1 none + (jhd first).length ≤ R; omega)
    rw [opens_none hnow, if_pos rfl]
    show ((FS.start _ log first).1, (FS.start _ log first).2, first, first) = _
    rw [hst]
    show (0, s4 R bO none (some (jhd first)) none [], first, first) = (0, shs R bO (jhd first ++ frames []) [], first, first + 0)
    rw [show frames [] = [] from rfl, List.append_nil]
    rfl
  · have ho := opens_some R bO g
    rw [hsc, fnum_jhd hf] at ho
    have hfr : frames (Lib.uvarint first :: L) = jhd first ++ frames L := (jhd_frames first L).symm
    rw [hfr] at ho
    have ho' : (s4 R bO none (some g) none []).opens log = (0, shs R bO (jhd first ++ frames L) [], first) := ho
    have hx : (s4 R bO none (some g) none []).nxt = first + L.length := by
      unfold FS.nxt
      rw [ho', bytes_l hnow]
      show (first + ((scan g).length - 1)) % _ = _
      rw [hsc]
      show (first + (L.length + 1 - 1)) % _ = _
      rw [Nat.add_sub_cancel, Nat.mod_eq_of_lt h3]
    rw [ho', hx, if_neg (show ¬ (0 : Int) = 7 by decide), if_neg]
    rintro (h | h | h)
    · exact h rfl
    · have h : n < first := h; omega
    · have h : first + L.length < n := h; omega
/-- A base that is none. -/
theorem shop_base {R : Nat} {b : List UInt8} {lO : Option (List UInt8)} (h : own b = none ∨ ∃ u, own b = some u ∧ rd u = none) : (s4 R (some b) none lO none []).shop.1 = 90 := by
  have hb : (s4 R (some b) none lO none []).base = (90, 0, []) := by
    rw [base_some (s4_now R (some b) none lO none)]
    rcases h with h | ⟨u, h, h2⟩
    · rw [h]
    · rw [h]
      show bsp u = _
      unfold bsp
      rw [h2]
  unfold FS.shop
  rw [hb]; rfl
/-- A log that is none, or does not fit the base. -/
theorem shop_log {R : Nat} {bO : Option (List UInt8)} {g : List UInt8} {n : Nat} {t : List UInt8} (hb : (s4 R bO none (some g) none []).base = (0, n, t))
    (h : fnum (scan g) = none ∨ ∃ first, fnum (scan g) = some first ∧ (n < first ∨ (first + ((scan g).length - 1)) % 18446744073709551616 < n)) : (s4 R bO none (some g) none []).shop.1 = 90 := by
  have hnow := s4_now R bO none (some g) none
  have ho := opens_some R bO g
  unfold FS.shop
  rw [hb, if_neg (fun h => h rfl)]
  unfold FS.olog
  rcases h with h | ⟨first, h, h2⟩
  · rw [h] at ho
    have ho' : (s4 R bO none (some g) none []).opens log = (70, s4 R bO none (some g) none [], 0) := ho
    rw [ho', if_neg (show ¬ (70 : Int) = 7 by decide), if_pos (.inl (show (70 : Int) ≠ 0 by decide))]
  · rw [h] at ho
    have ho' : (s4 R bO none (some g) none []).opens log = (0, s4 R bO none (some (frames (scan g))) none [], first) := ho
    have hx : (s4 R bO none (some g) none []).nxt = (first + ((scan g).length - 1)) % 18446744073709551616 := by
      unfold FS.nxt
      rw [ho', bytes_l hnow]
      rfl
    rw [ho', hx, if_neg (show ¬ (0 : Int) = 7 by decide), if_pos]
    rcases h2 with h2 | h2
    · exact .inr (.inl h2)
    · exact .inr (.inr h2)
/-- A log's first frame is its number. -/
theorem fnum_form {X : List (List UInt8)} {first : Nat} (h : fnum X = some first) : X = Lib.uvarint first :: X.drop 1 ∧ first < 18446744073709551616 := by
  cases X with
  | nil => cases h
  | cons x L =>
    have h : (match rd x with | some (k, []) => some k | _ => none) = some first := h
    cases hr : rd x with
    | none => rw [hr] at h; cases h
    | some q =>
      obtain ⟨k, r⟩ := q
      cases r with
      | nil =>
        rw [hr] at h
        cases h
        have h1 := rd_form hr
        rw [List.append_nil] at h1
        exact ⟨by rw [← h1]; rfl, rd_lt hr⟩
      | cons c r => rw [hr] at h; cases h
theorem scan_small (b : List UInt8) (h : b.length ≤ 1000) : ∀ s ∈ scan b, s.length ≤ 1000 := fun s hs => by
  have h1 := cost_mem (scan b) s hs
  have h2 := scan_le b
  omega
theorem scan_count (b : List UInt8) (h : b.length ≤ 1000) : (scan b).length ≤ 50 := by
  have h1 := cost_len (scan b)
  have h2 := scan_le b
  omega
end Go.Proofs.YtmaohncddjhgeaaGreat.fi
end
