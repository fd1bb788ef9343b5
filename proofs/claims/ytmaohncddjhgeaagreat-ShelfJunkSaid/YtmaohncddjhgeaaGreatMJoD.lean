/- The contracts of a journal's Append, Force, First, Next and Entries. -/
import Derived.Test.YtmaohncddjhgeaaGreatMRunA
import Derived.Test.YtmaohncddjhgeaaGreatMFrP
import Derived.Test.YtmaohncddjhgeaaGreatMFrS
import Derived.Deep.RegionHeld3
section
set_option linter.unusedVariables false
set_option linter.unusedSectionVars false
namespace Go.Proofs.YtmaohncddjhgeaaGreat.gn
open Go.RowKit
open Go.Proofs.YtmaohncddjhgeaaGreat.fi

theorem Only.undrew {S : Nat → Prop} {a b : World} (h : Only S a.drew b) : Only S a b := ⟨h.os, h.tape, h.output, h.size, h.block⟩
theorem Went.undrew {Z : Nat → Prop} {D : Nat → Option FS} {J : Nat → Option Jn} {v : Value} {w : World} {e : Ending} {w' : World} (h : Went Z D J v w.drew e w') : Went Z D J v w e w' := ⟨h.1, h.2.1, h.2.2.undrew⟩
/-- A step on blocks that are held. -/
theorem Hold.box {Z : Nat → Prop} {w w' : World} {D : Nat → Option FS} {J : Nat → Option Jn} (h : Hold Z w D J) {S : Nat → Prop} (ho : Only S w w') (hS : ∀ i, S i → Z i) : Hold Z w' D J := by
  obtain ⟨X, h1, h2, h3, h4⟩ := h.is
  exact ⟨⟨X, h1.kept fun i hi hx => ho.block i hi fun hs => h3 i (hS i hs) hx, fun i hi => Nat.lt_of_lt_of_le (h2 i hi) ho.size, h3, h4⟩, fun i hi => Nat.lt_of_lt_of_le (h.z i hi) ho.size, fun j n hj => ⟨(ho.block j (lt_of_block (h.j j n hj).1) fun hs => (h.j j n hj).2 (hS j hs)).trans (h.j j n hj).1, (h.j j n hj).2⟩⟩
theorem Boxed.off {Z : Nat → Prop} {w w' : World} {b : Nat} {t : TypeId} {v : Value} (h : Boxed w b t v) (ho : Only (Off Z) w w') (hz : Z b) : Boxed w' b t v := ho.off h hz
theorem Strs.off {Z : Nat → Prop} {w w' : World} {v : Value} {L : List (List UInt8)} (h : Strs w v L) (ho : Only (Off Z) w w') (hz : ∀ A n c, v = .slice (some A) n c → Z A.block) : Strs w' v L := by
  obtain ⟨A, c, rfl, h2, h3, h4, h5⟩ := h
  refine ⟨A, c, rfl, h2, h3, ?_, h5⟩
  rcases h4 with h4 | ⟨b, o, rfl, hc⟩
  · exact .inl h4
  · exact .inr ⟨b, o, rfl, fun j hj => ho.cell (p := ⟨b, o + j, none⟩) (hc j hj) fun hn => hn (hz ⟨b, o, none⟩ _ _ rfl)⟩

theorem alloc_at' {w : World} {cs : Array Value} {t : TypeId} {k : Nat} (h : k = w.heap.size) : (w.alloc (.cells cs t)).heap[k]? = some (.cells cs t (0, 0)) := by rw [h]; exact heap_alloc_new w _
/-- All but the first one. -/
theorem Strs.tail_ {w : World} {g o n c : Nat} {a : List UInt8} {L : List (List UInt8)} (h : Strs w (.slice (some ⟨g, o, none⟩) n c) (a :: L)) : Strs w (.slice (some ⟨g, o + 1, none⟩) L.length (c - 1)) L := by
  obtain ⟨A, c', e, h2, h3, h4, h5⟩ := h
  injection e with e1 e2 e3
  subst e1; subst e3
  simp only [List.length_cons] at h2 h4
  refine ⟨_, c - 1, rfl, by omega, by omega, ?_, fun s hs => h5 s (List.mem_cons_of_mem _ hs)⟩
  rcases h4 with h4 | ⟨b, o', hA, hc⟩
  · omega
  · cases hA
    refine .inr ⟨g, o + 1, rfl, fun j hj => ?_⟩
    have := hc (j + 1) (by omega)
    rw [show o + 1 + j = o + (j + 1) by omega]
    simpa using this

set_option maxRecDepth 100000
set_option maxHeartbeats 2000000

theorem force_any {Z : Nat → Prop} {w : World} {D : Nat → Option FS} {J : Nat → Option Jn} (h : Hold Z w D J) {j : Nat} {n : Jn} (hj : J j = some n) {s : FS} (hd : D n.d = some s) (hwt : s.wt ≤ 549755813888) :
    Calls Tryz.prog 79 #[.pointer (some ⟨j, 0, none⟩)] w (Went Z (upd D n.d s.sync) J (.int .i64 0) w) := by
  have HM := Lib.hid (sync_h h hd hwt)
  obtain ⟨c0, c1, c2, c3, c4, _⟩ := (h.j j n hj).1.cells
  have HI := Lib.hid (jis_any w j c1)
  clear h hd hj c1 c2 c3 c4
  go_enter Tryz.func79, Tryz.ntmps79
  go_wp2_with (first
    | (go_at_call 64; ((with_reducible refine HI.out.mono ?_); rintro e w1 ⟨rfl, rfl⟩))
    | (go_at_call 20; ((with_reducible refine HM.out.mono ?_); rintro e w1 ⟨rfl, hh, ho⟩)))
  go_ret
  exact ⟨rfl, hh, ho⟩
theorem first_any' {Z : Nat → Prop} {w : World} {D : Nat → Option FS} {J : Nat → Option Jn} (h : Hold Z w D J) {j : Nat} {n : Jn} (hj : J j = some n) :
    Calls Tryz.prog 74 #[.pointer (some ⟨j, 0, none⟩)] w fun e w' => e = .returned (.int .u64 (n.first : Int)) ∧ w = w' := by
  obtain ⟨c0, c1, c2, c3, c4, _⟩ := (h.j j n hj).1.cells
  have HI := Lib.hid (jis_any w j c1)
  clear h hj c1 c2 c0 c4
  go_enter Tryz.func74, Tryz.ntmps74
  go_wp2_with (go_at_call 64; ((with_reducible refine HI.out.mono ?_); rintro e w1 ⟨rfl, rfl⟩))
  go_ret
  exact ⟨rfl, rfl⟩
theorem next_any' {Z : Nat → Prop} {w : World} {D : Nat → Option FS} {J : Nat → Option Jn} (h : Hold Z w D J) {j : Nat} {n : Jn} (hj : J j = some n) :
    Calls Tryz.prog 75 #[.pointer (some ⟨j, 0, none⟩)] w fun e w' => e = .returned (.int .u64 (n.next : Int)) ∧ w = w' := by
  obtain ⟨c0, c1, c2, c3, c4, _⟩ := (h.j j n hj).1.cells
  have HI := Lib.hid (jis_any w j c1)
  clear h hj c1 c2 c0 c3
  go_enter Tryz.func75, Tryz.ntmps75
  go_wp2_with (go_at_call 64; ((with_reducible refine HI.out.mono ?_); rintro e w1 ⟨rfl, rfl⟩))
  go_ret
  exact ⟨rfl, rfl⟩

/-! ### the steps of an Append -/
theorem app1_j (w : World) (q b : Nat) (v x : Value) (L : List (List UInt8)) (hq : Boxed w q 32 v) (hb : Boxed w b 9 x) (hs : Strs w v L) (hl : ∀ s ∈ L, s.length ≤ 262144) (hc : cost L ≤ 1099511627776) :
    Calls Tryz.prog 66 #[.pointer (some ⟨q, 0, none⟩), .pointer (some ⟨b, 0, none⟩)] w fun e w' => e = .returned (.int .i64 0) ∧ Boxed w' b 9 (.string (str (frames L))) ∧ Only (fun i => i = b) w w' := by
  have HP := Lib.hid (put_any v L w hs hl hc)
  have c1 := hq.cell
  have HB := Lib.hid hb
  clear hs hq hb hl
  generalize frames L = t at *
  go_enter Tryz.func66, Tryz.ntmps66
  go_wp2_with fail
  refine HP.out.mono ?_
  rintro e w1 ⟨rfl, hb1⟩
  have hx : Boxed w1 b 9 x := (hb1.block b HB.out.lt).trans HB.out
  have c2 := hx.cell
  have c3 := hx.frozen
  have HX := Lib.hid (hx.set (.string (str t)))
  have HO : Hid (Only (fun i => i = b) w w1) := Lib.hid (Only.of_below hb1)
  clear hx hb1
  go_wp2
  go_ret
  exact ⟨rfl, HX.out, HO.out.setCell (fun _ => rfl) _⟩

theorem app2_j {Z : Nat → Prop} {w : World} {D : Nat → Option FS} {J : Nat → Option Jn} (h : Hold Z w D J) {j : Nat} {n : Jn} (hj : J j = some n) {s : FS} (hd : D n.d = some s) (hwt : s.wt ≤ 549755813888) (p b : Nat) (t : List UInt8)
    (hp : Boxed w p 74 (.pointer (some ⟨j, 0, none⟩))) (hb : Boxed w b 9 (.string (str t))) (hn : n.name.length ≤ 1000000) (ht : t.length ≤ 281474976710656) (zp : Z p) (zb : Z b) :
    Calls Tryz.prog 68 #[.pointer (some ⟨p, 0, none⟩), .pointer (some ⟨b, 0, none⟩)] w (Went Z (upd D n.d (s.app n.name t).2) J (.int .i64 (s.app n.name t).1) w) := by
  have HM := Lib.hid (append_h h.drew hd hwt n.name (by omega) t ht)
  obtain ⟨c0, c1, c2, c3, c4, _⟩ := (h.j j n hj).1.cells
  have c5 := hp.cell
  have c6 := hb.cell
  have HH : Hid (∀ w', Only (Off Z) w.drew w' → ∀ D', Hold Z w' D' J → w'.cell? ⟨p, 0, none⟩ = some (.pointer (some ⟨j, 0, none⟩)) ∧ w'.cell? ⟨j, 0, none⟩ = some (.pointer (some ⟨n.d, 0, none⟩)) ∧ w'.cell? ⟨j, 2, none⟩ = some (.string (str n.name)) ∧ w'.cell? ⟨b, 0, none⟩ = some (.string (str t))) := Lib.hid fun w' ho D' hh => by
    obtain ⟨k0, k1, k2, k3, k4, _⟩ := (hh.j j n hj).1.cells
    exact ⟨(Boxed.off hp ho.undrew zp).cell, k0, k2, (Boxed.off hb ho.undrew zb).cell⟩
  obtain ⟨nd, nn, n1, n2⟩ := n
  simp only at *
  generalize (s.app nn t).1 = q at *
  generalize (s.app nn t).2 = s' at *
  generalize str nn = x at *
  generalize str t = y at *
  clear h hd hj c1 c3 c4 hp hb
  go_enter Tryz.func68, Tryz.ntmps68
  go_wp2
  go_region_held3 (fun W => W.cell? ⟨p, 0, none⟩ = some (.pointer (some ⟨j, 0, none⟩)) ∧ W.cell? ⟨j, 0, none⟩ = some (.pointer (some ⟨nd, 0, none⟩)) ∧ W.cell? ⟨j, 2, none⟩ = some (.string x) ∧ W.cell? ⟨b, 0, none⟩ = some (.string y)) (go_keep)
    (first | (go_at_call 19; ((with_reducible refine HM.out.mono ?_); rintro e w1 ⟨rfl, hh, ho⟩; obtain ⟨k0, k1, k2, k3⟩ := HH.out w1 ho _ hh))
    )
  go_wp2
  go_ret
  exact ⟨rfl, hh, ho.undrew⟩

theorem app3_j {Z : Nat → Prop} {w : World} {D : Nat → Option FS} {J : Nat → Option Jn} (h : Hold Z w D J) {j : Nat} {n : Jn} (hj : J j = some n) (p q : Nat) (A : Option Addr) (l c : Nat) (hl : l ≤ 281474976710656) (hn : n.next < 18446744073709551616)
    (hp : Boxed w p 74 (.pointer (some ⟨j, 0, none⟩))) (hb : Boxed w q 32 (.slice A l c)) :
    Calls Tryz.prog 69 #[.pointer (some ⟨p, 0, none⟩), .pointer (some ⟨q, 0, none⟩)] w (Went Z D (upd J j { n with next := (n.next + l) % 18446744073709551616 }) (.int .i64 0) w) := by
  have fin : Hid (∀ x : Int, x = (((n.next + l) % 18446744073709551616 : Nat) : Int) → Went Z D (upd J j { n with next := (n.next + l) % 18446744073709551616 }) (.int .i64 0) w (.returned (.int .i64 0)) (w.setCell ⟨j, 4, none⟩ (.int .u64 x)).drew) := Lib.hid fun x hx => by
    obtain ⟨h1, h2⟩ := h.turn hj _ hx
    exact ⟨rfl, h1.drew, h2.drew⟩
  obtain ⟨c0, c1, c2, c3, c4, cf⟩ := (h.j j n hj).1.cells
  have c5 := hp.cell
  have c6 := hb.cell
  obtain ⟨nd, nn, n1, n2⟩ := n
  simp only at *
  clear h hj c1 c3 c2 c0 hp hb
  go_enter Tryz.func69, Tryz.ntmps69
  go_wp2
  go_region
  all_goals go_wp2
  all_goals go_ret
  all_goals exact fin.out _ (by simp only [IntKind.wrap_u64]; omega)
end Go.Proofs.YtmaohncddjhgeaaGreat.gn
end
section
set_option linter.unusedVariables false
namespace Go.Proofs.YtmaohncddjhgeaaGreat.gn
open Go.RowKit
open Go.Proofs.YtmaohncddjhgeaaGreat.fi

/-- What an Append shares with its steps. -/
structure ApB (w : World) (p q b A j : Nat) (v : Value) : Prop where
  hp : Boxed w p 74 (.pointer (some ⟨j, 0, none⟩))
  hq : Boxed w q 32 v
  hr : w.heap[A]? = some (.cells #[.func (.func 66) #[] #[.pointer (some ⟨q, 0, none⟩), .pointer (some ⟨b, 0, none⟩)], .func (.func 68) #[] #[.pointer (some ⟨p, 0, none⟩), .pointer (some ⟨b, 0, none⟩)],
    .func (.func 69) #[] #[.pointer (some ⟨p, 0, none⟩), .pointer (some ⟨q, 0, none⟩)]] 52 (0, 0))
theorem ApB.kept {w w' : World} {p q b A j : Nat} {v : Value} (h : ApB w p q b A j v) {S : Nat → Prop} (ho : Only S w w') (h1 : ¬ S p) (h2 : ¬ S q) (h3 : ¬ S A) : ApB w' p q b A j v :=
  ⟨(ho.block p h.hp.lt h1).trans h.hp, (ho.block q h.hq.lt h2).trans h.hq, (ho.block A (lt_of_block h.hr) h3).trans h.hr⟩
theorem ApB.cells {wr : World} {p q b A j : Nat} {v : Value} (h : ApB wr p q b A j v) : wr.cell? ⟨A, 0, none⟩ = some (.func (.func 66) #[] #[.pointer (some ⟨q, 0, none⟩), .pointer (some ⟨b, 0, none⟩)]) ∧
    wr.cell? ⟨A, 1, none⟩ = some (.func (.func 68) #[] #[.pointer (some ⟨p, 0, none⟩), .pointer (some ⟨b, 0, none⟩)]) ∧ wr.cell? ⟨A, 2, none⟩ = some (.func (.func 69) #[] #[.pointer (some ⟨p, 0, none⟩), .pointer (some ⟨q, 0, none⟩)]) :=
  ⟨by rw [cell_of_row _ _ 0 _ _ _ h.hr]; rfl, by rw [cell_of_row _ _ 1 _ _ _ h.hr]; rfl, by rw [cell_of_row _ _ 2 _ _ _ h.hr]; rfl⟩

/-- Between two steps of an Append. -/
def ApI (Z Z1 : Nat → Prop) (w : World) (D : Nat → Option FS) (J : Nat → Option Jn) (p q b A j : Nat) (v : Value) (n : Jn) (L : List (List UInt8)) (r : Int × FS) (k : Nat) (wr : World) : Prop :=
  ApB wr p q b A j v ∧ Only (Off Z) w wr ∧
  match k with
  | 0 => Hold Z1 wr D J ∧ Boxed wr b 9 (.string ⟨#[]⟩) ∧ Strs wr v L
  | 1 => Hold Z1 wr D J ∧ Boxed wr b 9 (.string (str (frames L)))
  | 2 => Hold Z1 wr (upd D n.d r.2) J ∧ r.1 = 0
  | _ => Hold Z1 wr (upd D n.d r.2) (upd J j { n with next := (n.next + L.length) % 18446744073709551616 }) ∧ r.1 = 0
def ApF (Z Z1 : Nat → Prop) (w : World) (D : Nat → Option FS) (J : Nat → Option Jn) (n : Jn) (r : Int × FS) (q : Int) (wr : World) : Prop := q = r.1 ∧ Hold Z1 wr (upd D n.d r.2) J ∧ Only (Off Z) w wr

/-- What an Append answers, and leaves. -/
def Apped (Z : Nat → Prop) (D : Nat → Option FS) (J : Nat → Option Jn) (j : Nat) (n : Jn) (l : Nat) (r : Int × FS) (w : World) (e : Ending) (w' : World) : Prop :=
  (r.1 = 0 ∧ Went Z (upd D n.d r.2) (upd J j { n with next := (n.next + l) % 18446744073709551616 }) (.int .i64 0) w e w') ∨ (r.1 ≠ 0 ∧ Went Z (upd D n.d r.2) J (.int .i64 r.1) w e w')

set_option maxRecDepth 100000
set_option maxHeartbeats 4000000

theorem jappend_any {Z : Nat → Prop} {w : World} {D : Nat → Option FS} {J : Nat → Option Jn} (h : Hold Z w D J) {j : Nat} {n : Jn} (hj : J j = some n) {s : FS} (hd : D n.d = some s) (hwt : s.wt ≤ 549755813888) (hn : n.name.length ≤ 1000000) (hnx : n.next < 18446744073709551616)
    (v : Value) (L : List (List UInt8)) (hs : Strs w v L) (hl : ∀ s ∈ L, s.length ≤ 262144) (hc : cost L ≤ 1099511627776) :
    Calls Tryz.prog 33 #[.pointer (some ⟨j, 0, none⟩), v] w (Apped Z D J j n L.length (s.app n.name (frames L)) w) := by
  obtain ⟨r, hr⟩ : ∃ r, s.app n.name (frames L) = r := ⟨_, rfl⟩
  obtain ⟨vA, vc, hv, hlc, hcm, _⟩ := id hs
  subst hv
  have hcl := cost_len L
  have hfl := frames_len L
  obtain ⟨w2, hw2⟩ : ∃ w2, (w.alloc (.cells #[.pointer (some ⟨j, 0, none⟩)] 74)).alloc (.cells #[.slice vA L.length vc] 32) = w2 := ⟨_, rfl⟩
  have hz2 : w2.heap.size = w.heap.size + 2 := by rw [← hw2]; simp
  have hb2 : Below w.heap.size w w2 := by rw [← hw2]; exact ((Below.refl _ w).alloc (Nat.le_refl _) _).alloc (by simp) _
  have hp2 : Boxed w2 w.heap.size 74 (.pointer (some ⟨j, 0, none⟩)) := by rw [← hw2]; exact (Boxed.new w _ _).alloc _
  have hq2 : Boxed w2 (w.heap.size + 1) 32 (.slice vA L.length vc) := by
    rw [← hw2]
    have := Boxed.new (w.alloc (.cells #[.pointer (some ⟨j, 0, none⟩)] 74)) 32 (.slice vA L.length vc)
    simpa using this
  have c1 := hp2.cell
  have HI := Lib.hid (jis_any w2 j ((h.below hb2).j j n hj).1.cells.2.1)
  obtain ⟨w3, hw3⟩ : ∃ w3, w2.alloc (.cells #[.string ⟨#[]⟩] 9) = w3 := ⟨_, rfl⟩
  have hz3 : w3.heap.size = w.heap.size + 3 := by rw [← hw3]; simp [hz2]
  obtain ⟨w1, hw1⟩ : ∃ w1, w3.alloc (.cells #[.func (.func 66) #[] #[.pointer (some ⟨w.heap.size + 1, 0, none⟩), .pointer (some ⟨w.heap.size + 2, 0, none⟩)], .func (.func 68) #[] #[.pointer (some ⟨w.heap.size, 0, none⟩), .pointer (some ⟨w.heap.size + 2, 0, none⟩)],
    .func (.func 69) #[] #[.pointer (some ⟨w.heap.size, 0, none⟩), .pointer (some ⟨w.heap.size + 1, 0, none⟩)]] 52) = w1 := ⟨_, rfl⟩
  have hz1 : w1.heap.size = w.heap.size + 4 := by rw [← hw1]; simp [hz3]
  have hb1 : Below w.heap.size w w1 := by rw [← hw1, ← hw3]; exact (hb2.alloc (by omega) _).alloc (by simp [hz2]; omega) _
  have hx1 : ApB w1 w.heap.size (w.heap.size + 1) (w.heap.size + 2) (w.heap.size + 3) j (.slice vA L.length vc) := by
    refine ⟨?_, ?_, ?_⟩
    · rw [← hw1, ← hw3]; exact (hp2.alloc _).alloc _
    · rw [← hw1, ← hw3]; exact (hq2.alloc _).alloc _
    · rw [← hw1]; exact alloc_at' hz3.symm
  have hy1 : Boxed w1 (w.heap.size + 2) 9 (.string ⟨#[]⟩) := by
    rw [← hw1, ← hw3]
    have := Boxed.new w2 9 (.string ⟨#[]⟩)
    rw [hz2] at this
    exact this.alloc _
  have zz : ∀ k, k < 4 → news Z w w1 (w.heap.size + k) := fun k hk => .inr ⟨by omega, by omega⟩
  have les : ∀ i, Z i → news Z w w1 i := fun i hi => .inl hi
  have out : ∀ {wr w' : World}, Only (Off (news Z w w1)) wr w' → Only (Off Z) w wr → Only (Off Z) w w' := fun ho h0 => h0.trans ho fun i hi hh h' => hh (.inl h')
  have HP : Hid (Calls Tryz.prog 65 #[.slice (some ⟨w.heap.size + 3, 0, none⟩) 3 3] w1 (Stp (ApI Z (news Z w w1) w D J w.heap.size (w.heap.size + 1) (w.heap.size + 2) (w.heap.size + 3) j (.slice vA L.length vc) n L r 3) (ApF Z (news Z w w1) w D J n r))) := by
    refine Lib.hid (perform_append (ApI Z (news Z w w1) w D J w.heap.size (w.heap.size + 1) (w.heap.size + 2) (w.heap.size + 3) j (.slice vA L.length vc) n L r) _ (w.heap.size + 3) w.heap.size (w.heap.size + 1) (w.heap.size + 2) w1 (fun k wr hi => hi.1.cells) ⟨hx1, Only.of_below hb1, h.grow hb1, hy1, hs.below hb1⟩ ?_ ?_ ?_)
    · rintro wr ⟨hx, ho, hh, hy, hst⟩
      refine (app1_j wr _ _ (.slice vA L.length vc) _ L hx.hq hy hst hl hc).mono fun e w' hw => ?_
      obtain ⟨rfl, h1, h2⟩ := hw
      refine .inl ⟨rfl, hx.kept h2 (by omega) (by omega) (by omega), ?_, hh.box h2 (fun i hi => by subst hi; exact zz 2 (by omega)), h1⟩
      exact ho.trans h2 fun i hi hs hz => by omega
    · rintro wr ⟨hx, ho, hh, hy⟩
      refine (app2_j hh hj hd hwt _ _ (frames L) hx.hp hy hn (by omega) (zz 0 (by omega)) (zz 2 (by omega))).mono fun e w' hw => ?_
      obtain ⟨rfl, h1, h2⟩ := hw
      rw [hr] at h1 ⊢
      by_cases hq : r.1 = 0
      · rw [hq]
        exact .inl ⟨rfl, hx.kept h2 (fun hn => hn (zz 0 (by omega))) (fun hn => hn (zz 1 (by omega))) (fun hn => hn (zz 3 (by omega))), out h2 ho, h1, hq⟩
      · exact .inr ⟨r.1, hq, rfl, rfl, h1, out h2 ho⟩
    · rintro wr ⟨hx, ho, hh, hq⟩
      refine (app3_j hh hj _ _ vA L.length vc (by omega) hnx hx.hp hx.hq).mono fun e w' hw => ?_
      obtain ⟨rfl, h1, h2⟩ := hw
      exact .inl ⟨rfl, hx.kept h2 (fun hn => hn (zz 0 (by omega))) (fun hn => hn (zz 1 (by omega))) (fun hn => hn (zz 3 (by omega))), out h2 ho, h1, hq⟩
  clear hcl hfl hb1 hx1 hy1 zz out hp2 hq2 hb2 h hs hl hj hd hnx hn
  have LES := Lib.hid les
  rw [hr]
  clear les hr
  go_enter Tryz.func33, Tryz.ntmps33
  go_wp2_with fail
  refine HI.out.mono ?_
  rintro e wx ⟨rfl, rfl⟩
  go_wp2_with fail
  refine HP.out.mono ?_
  rintro e w5 (⟨rfl, _, ho, hh, hq⟩ | ⟨q, hq, rfl, hq1, hh, ho⟩)
  all_goals go_wp2
  all_goals go_ret
  · exact .inl ⟨hq, rfl, hh.less LES.out, ho⟩
  · exact .inr ⟨by rw [← hq1]; exact hq, by subst hq1; rfl, hh.less LES.out, ho⟩

/-- A slice of a block from B on, or nil. -/
def Fresh (B : Nat) (v : Value) : Prop := (∀ A n c, v = .slice (some A) n c → B ≤ A.block) ∧ ∀ n c, v = .slice none n c → n = 0 ∧ c = 0
theorem fresh_none (B : Nat) : Fresh B (.slice none 0 0) := ⟨fun _ _ _ h => (by cases h), fun _ _ h => (by cases h; exact ⟨rfl, rfl⟩)⟩
theorem fresh_some {B g o n c : Nat} (h : B ≤ g) : Fresh B (.slice (some ⟨g, o, none⟩) n c) := ⟨fun _ _ _ e => (by cases e; exact h), fun _ _ e => (by cases e)⟩
theorem strs_empty {w : World} {A : Option Addr} {c : Nat} {L : List (List UInt8)} (h : L.length = 0) (hc : c ≤ maxLen) : Strs w (.slice A L.length c) L := by
  have : L = [] := List.eq_nil_of_length_eq_zero h
  subst this
  exact ⟨A, c, rfl, Nat.zero_le _, hc, .inl rfl, fun s hs => by cases hs⟩

theorem entries_any {Z : Nat → Prop} {w : World} {D : Nat → Option FS} {J : Nat → Option Jn} (h : Hold Z w D J) {j : Nat} {n : Jn} (hj : J j = some n) {s : FS} (hd : D n.d = some s) (hbl : (s.bytes n.name).length ≤ 549755813888) :
    Calls Tryz.prog 73 #[.pointer (some ⟨j, 0, none⟩)] w fun e w' => ∃ v, e = .returned v ∧ Strs w' v ((scan (s.bytes n.name)).drop 1) ∧ Fresh w.heap.size v ∧ Below w.heap.size w w' := by
  have HR := Lib.hid (read_h h.drew hd n.name)
  have hk : ∀ w', Below w.heap.size w w' → w'.cell? ⟨j, 0, none⟩ = some (.pointer (some ⟨n.d, 0, none⟩)) ∧ w'.cell? ⟨j, 2, none⟩ = some (.string (str n.name)) := fun w' hb => by
    obtain ⟨k0, k1, k2, _⟩ := ((h.below hb).j j n hj).1.cells
    exact ⟨k0, k2⟩
  obtain ⟨c0, c1, c2, c3, c4, _⟩ := (h.j j n hj).1.cells
  have HI := Lib.hid (jis_any w j c1)
  have hsc := scan_le (s.bytes n.name)
  have hcl := cost_len (scan (s.bytes n.name))
  have HS := Lib.hid (fun w => scan_any (s.bytes n.name) (by omega) w)
  have HK := Lib.hid hk
  obtain ⟨nd, nn, n1, n2⟩ := n
  simp only at *
  generalize s.bytes nn = t at *
  generalize s.look nn = q at *
  generalize str nn = x at *
  generalize str t = y at *
  generalize scan t = L at *
  have hLm : ∀ s ∈ L, s.length ≤ maxLen := fun s hs => by have := cost_mem L s hs; unfold maxLen; omega
  have HLM := Lib.hid hLm
  have HCL : L.length ≤ 549755813888 := by omega
  clear h hj hd c1 c3 c4 hk hsc hcl hLm
  go_enter Tryz.func73, Tryz.ntmps73
  go_wp2_with (go_at_call 64; ((with_reducible refine HI.out.mono ?_); rintro e w1 ⟨rfl, rfl⟩))
  go_region_held3 (fun W => W.cell? ⟨j, 0, none⟩ = some (.pointer (some ⟨nd, 0, none⟩)) ∧ W.cell? ⟨j, 2, none⟩ = some (.string x)) (go_keep)
    (first | (go_at_call 14; ((with_reducible refine HR.out.mono ?_); rintro e w1 ⟨rfl, hb1⟩; obtain ⟨k0, k1⟩ := HK.out w1 (Below.trans (Below.refl _ _).drew hb1))))
  have HB1 : Hid (Below w.heap.size w w1) := Lib.hid (Below.trans (Below.refl _ _).drew hb1)
  clear hb1 k0 k1
  go_wp2_with fail
  refine (HS.out _).mono ?_
  rintro e w2 ⟨v, rfl, hS, hb2⟩
  have HB2 := Lib.hid (HB1.out.trans (hb2.mono HB1.out.size))
  have HT := Lib.hid (hS.strs HLM.out)
  have hs2 := hS
  unfold Ss at hs2
  clear hb2 hS
  rcases hs2.2 with ⟨rfl, hn0⟩ | ⟨g, cap, cur, rfl, hgB, _, hle, hm, _⟩
  · clear hs2
    have hL : L = [] := List.eq_nil_of_length_eq_zero hn0
    subst hL
    go_wp2
    go_ret
    exact ⟨_, rfl, HT.out, fresh_none _, HB2.out⟩
  · clear hs2
    have hgw : w.heap.size ≤ g := Nat.le_trans HB1.out.size hgB
    cases L with
    | nil =>
      go_wp2
      all_goals go_ret
      all_goals refine ⟨_, rfl, ?_, fresh_some hgw, HB2.out⟩
      all_goals first | exact strs_empty (L := []) rfl (Nat.zero_le _) | exact strs_empty (L := []) rfl hm | exact strs_empty (L := []) rfl (Nat.le_trans (Nat.sub_le _ _) hm)
    | cons a L =>
      have hd : Strs w2 (.slice (some ⟨g, 0 + 1, none⟩) L.length (cap - 1)) L := HT.out.tail_
      simp only [List.length_cons] at *
      have HD := Lib.hid hd
      clear hd
      have hmin : min (1 : Int) (((L.length + 1 : Nat) : Int)) = 1 := by omega
      have hmin2 : min (1 : Int) ((L.length : Int) + 1) = 1 := by omega
      go_wp2
      all_goals go_ret
      all_goals refine ⟨_, rfl, ?_, fresh_some hgw, HB2.out⟩
      all_goals first | exact HD.out | exact strs_empty (by omega) (Nat.zero_le _)
end Go.Proofs.YtmaohncddjhgeaaGreat.gn
end
