/- The contracts of the operations: Make, Remove. -/
import Derived.Test.YtmaohncddjhgeaaGreatMFiN
import Derived.Test.YtmaohncddjhgeaaGreatMGenClone
section
set_option linter.unusedVariables false
set_option maxRecDepth 100000
namespace Go.Proofs.YtmaohncddjhgeaaGreat.fi
def FS.make (s : FS) (n : Nm) : Int × FS :=
  if s.look n = 0 then (8, s) else if s.look n ≠ 7 then (s.look n, s) else if 16 ≤ s.now.length then (6, s) else (0, s.done (.make n))
def FS.app (s : FS) (n : Nm) (b : List UInt8) : Int × FS :=
  if s.look n ≠ 0 then (s.look n, s) else if s.left < (b.length : Int) then (6, s) else (0, s.done (.app n b))
def FS.cut (s : FS) (n : Nm) (k : Int) : Int × FS :=
  if s.look n = 7 ∧ k < 0 then (2, s) else if s.look n ≠ 0 then (s.look n, s) else if k < 0 ∨ ((s.bytes n).length : Int) < k then (2, s) else (0, s.done (.cut n k.toNat))
def FS.ren (s : FS) (a b : Nm) : Int × FS :=
  if !(valid a && valid b) then (2, s) else if s.look a ≠ 0 then (s.look a, s) else (0, s.done (.ren a b))
def FS.rem (s : FS) (n : Nm) : Int × FS :=
  if s.look n ≠ 0 then (s.look n, s) else (0, s.done (.rem n))
theorem look_cases (s : FS) (n : Nm) : s.look n = 0 ∨ s.look n = 2 ∨ s.look n = 7 := by
  unfold FS.look
  split
  · split
    · exact .inl rfl
    · exact .inr (.inr rfl)
  · exact .inr (.inl rfl)
theorem look_seven {s : FS} {n : Nm} (h : s.look n = 7) : valid n = true := by
  unfold FS.look at h
  split at h
  · assumption
  · cases h
end Go.Proofs.YtmaohncddjhgeaaGreat.fi

namespace Go.Proofs.YtmaohncddjhgeaaGreat.gn
open Go.RowKit
open Go.Proofs.YtmaohncddjhgeaaGreat.fi

theorem Does.same {w w' : World} {X : Nat → Prop} {D : Nat → Option FS} {d : Nat} {s : FS} {v : Value} (hS : Sys w X D) (hd : D d = some s) (hb : Below w.heap.size w w') : Does X (upd D d s) v w (.returned v) w' :=
  ⟨rfl, by rw [upd_self hd]; exact (hS.below hb).more fun i hi => ext_old hi, Only.of_below hb⟩
theorem Does.pre {w w0 w' : World} {X : Nat → Prop} {D : Nat → Option FS} {v : Value} {e : Ending} (hb : Below w.heap.size w w0) (h : Does (ext X w w0) D v w0 e w') : Does X D v w e w' := by
  refine ⟨h.1, h.2.1.more fun i hi => ext_ext hb.size h.2.2.size hi, ?_⟩
  refine Only.trans (Only.of_below hb) h.2.2 fun i hi hx => ?_
  rcases hx with hx | ⟨hx, _⟩
  · exact hx
  · omega
theorem find_no2 (w : World) (X : Nat → Prop) (D : Nat → Option FS) (d : Nat) (s : FS) (hS : Sys w X D) (hd : D d = some s) (n : Nm) (hl : s.look n ≠ 0) :
    Calls Tryz.prog 34 #[.pointer (some ⟨d, 0, none⟩), .string (str n)] w (Asks (.tuple #[.pointer none, .int .i64 (s.look n)]) w) := by
  obtain ⟨TT, role, ga, h1, h2⟩ := hS
  obtain ⟨nb, sb, v, h⟩ := h2 d s hd
  exact find_no w X TT role ga d s nb sb v h1 h n hl
theorem find_yes2 (w : World) (X : Nat → Prop) (D : Nat → Option FS) (d : Nat) (s : FS) (hS : Sys w X D) (hd : D d = some s) (n : Nm) (hl : s.look n = 0) :
    Calls Tryz.prog 34 #[.pointer (some ⟨d, 0, none⟩), .string (str n)] w fun e w' => ∃ p, e = .returned (.tuple #[.pointer (some ⟨p, 0, none⟩), .int .i64 0]) ∧ Below w.heap.size w w' ∧ Found n s w p := by
  obtain ⟨TT, role, ga, h1, h2⟩ := hS
  obtain ⟨nb, sb, v, h⟩ := h2 d s hd
  exact find_yes w X TT role ga d s nb sb v h1 h n hl
/-- The table of the files as they are. -/
theorem Sys.nowTab {w : World} {X : Nat → Prop} {D : Nat → Option FS} {d : Nat} {s : FS} (hS : Sys w X D) (hd : D d = some s) : ∃ room nb sb v L, BlkD w d room nb sb v ∧ Tab w nb L ∧ L.length = s.now.length := by
  obtain ⟨TT, role, ga, h1, h2⟩ := hS
  obtain ⟨nb, sb, v, h⟩ := h2 d s hd
  obtain ⟨G, hG⟩ := h1
  exact ⟨_, nb, sb, v, G.tab nb, h.blk, hG.tab h.now, hG.len h.now⟩
theorem BoxS.free {w : World} {b : Nat} {l : List UInt8} (h : BoxS w b l) : w.frozen? ⟨b, 0, none⟩ = false := free_of_one h
theorem BoxS.set_ {w : World} {b : Nat} {l : List UInt8} (h : BoxS w b l) (l' : List UInt8) : BoxS (w.setCell ⟨b, 0, none⟩ (.string (str l'))) b l' := one_setCell h
theorem BoxS.far {w : World} {b : Nat} {l : List UInt8} (h : BoxS w b l) {p : Addr} (hp : b ≠ p.block) (u : Value) : BoxS (w.setCell p u) b l := (Below.heap_setCell w p u b hp).trans h
theorem ext_new {X : Nat → Prop} {w w' : World} {i : Nat} (h1 : w.heap.size ≤ i) (h2 : i < w'.heap.size) : ext X w w' i := .inr ⟨h1, h2⟩
theorem BoxS.below {w w' : World} {b : Nat} {l : List UInt8} (h : BoxS w b l) (hb : Below w.heap.size w w') : BoxS w' b l := (hb.block b (lt_of_block h)).trans h
theorem BoxI.below {w w' : World} {b : Nat} {n : Int} (h : BoxI w b n) (hb : Below w.heap.size w w') : BoxI w' b n := (hb.block b (lt_of_block h)).trans h
theorem now_len {s : FS} (hok : s.Ok) (hwt : s.wt ≤ 1099511627776) : s.now.length < maxLen := by
  have h1 := wt_len s.now
  have h2 := hok.wt_now
  unfold maxLen
  omega
theorem len_max {n : Nm} (h : n.length ≤ 32) : n.length ≤ maxLen := by unfold maxLen; omega

theorem perform_make (w w3 : World) (X : Nat → Prop) (D : Nat → Option FS) (d : Nat) (s : FS) (hS : Sys w X D) (hd : D d = some s) (hwt : s.wt ≤ 1099511627776) (hb : Below w.heap.size w w3) (bn : Nat) (n : Nm) (hx : BoxS w3 bn n) (hnew : w.heap.size ≤ bn) (hn : n.length ≤ 32) :
    Calls Tryz.prog 38 #[.pointer (some ⟨d, 0, none⟩), .agg #[.func (.func 39) #[] #[.pointer (some ⟨bn, 0, none⟩)], .nilFunc]] w3 (Does X (upd D d (s.done (.make n))) (.int .i64 0) w) :=
  (perform1_any _ _ .nilFunc (fun _ _ => by kernel_rfl) rfl w3 (ext X w w3) D d s ((hS.below hb).more fun i hi => ext_old hi) hd (.make n) trivial ⟨hn, bn, rfl, hx, ext_new hnew (lt_of_block hx)⟩ hwt
    fun TT b W h1 h2 h3 => make1_any W _ TT b s.now h1 h2 bn n (hx.below h3) (len_max hn) (now_len (hS.ok hd) hwt)).mono fun e w' h => h.pre hb
theorem perform_rem (w w3 : World) (X : Nat → Prop) (D : Nat → Option FS) (d : Nat) (s : FS) (hS : Sys w X D) (hd : D d = some s) (hwt : s.wt ≤ 1099511627776) (hb : Below w.heap.size w w3) (bn : Nat) (n : Nm) (hx : BoxS w3 bn n) (hnew : w.heap.size ≤ bn) (hn : n.length ≤ 32) :
    Calls Tryz.prog 38 #[.pointer (some ⟨d, 0, none⟩), .agg #[.func (.func 140) #[] #[.pointer (some ⟨bn, 0, none⟩)], .nilFunc]] w3 (Does X (upd D d (s.done (.rem n))) (.int .i64 0) w) :=
  (perform1_any _ _ .nilFunc (fun _ _ => by kernel_rfl) rfl w3 (ext X w w3) D d s ((hS.below hb).more fun i hi => ext_old hi) hd (.rem n) trivial ⟨hn, bn, rfl, hx, ext_new hnew (lt_of_block hx)⟩ hwt
    fun TT b W h1 h2 h3 => remove1_any W _ TT b s.now h1 h2 bn n (hx.below h3) (len_max hn)).mono fun e w' h => h.pre hb
theorem perform_ren (w w3 : World) (X : Nat → Prop) (D : Nat → Option FS) (d : Nat) (s : FS) (hS : Sys w X D) (hd : D d = some s) (hwt : s.wt ≤ 1099511627776) (hb : Below w.heap.size w w3) (bn bm : Nat) (n m : Nm) (hx : BoxS w3 bn n) (hnew : w.heap.size ≤ bn) (hn : n.length ≤ 32) (hx2 : BoxS w3 bm m) (hnew2 : w.heap.size ≤ bm) (hm : m.length ≤ 32) :
    Calls Tryz.prog 38 #[.pointer (some ⟨d, 0, none⟩), .agg #[.func (.func 127) #[] #[.pointer (some ⟨bn, 0, none⟩), .pointer (some ⟨bm, 0, none⟩)], .nilFunc]] w3 (Does X (upd D d (s.done (.ren n m))) (.int .i64 0) w) :=
  (perform2_any _ _ _ .nilFunc (fun _ _ => by kernel_rfl) rfl w3 (ext X w w3) D d s ((hS.below hb).more fun i hi => ext_old hi) hd (.ren n m) trivial ⟨hn, hm, bn, bm, rfl, hx, hx2, ext_new hnew (lt_of_block hx), ext_new hnew2 (lt_of_block hx2)⟩ hwt
    fun TT b W h1 h2 h3 => rename1_any W _ TT b s.now h1 h2 bn bm n m (hx.below h3) (hx2.below h3) (len_max hn) (len_max hm) (now_len (hS.ok hd) hwt)).mono fun e w' h => h.pre hb
theorem perform_app (w w3 : World) (X : Nat → Prop) (D : Nat → Option FS) (d : Nat) (s : FS) (hS : Sys w X D) (hd : D d = some s) (hwt : s.wt ≤ 549755813888) (hb : Below w.heap.size w w3) (bn bm : Nat) (n : Nm) (t : List UInt8) (hx : BoxS w3 bn n) (hnew : w.heap.size ≤ bn) (hn : n.length ≤ 32) (hx2 : BoxS w3 bm t) (hnew2 : w.heap.size ≤ bm) (ht : t.length ≤ 549755813888) :
    Calls Tryz.prog 38 #[.pointer (some ⟨d, 0, none⟩), .agg #[.func (.func 41) #[] #[.pointer (some ⟨bn, 0, none⟩), .pointer (some ⟨bm, 0, none⟩)], .func (.func 44) #[] #[.pointer (some ⟨bn, 0, none⟩), .pointer (some ⟨bm, 0, none⟩)]]] w3 (Does X (upd D d (s.done (.app n t))) (.int .i64 0) w) :=
  (perform2_any _ _ _ _ (fun _ _ => by kernel_rfl) rfl w3 (ext X w w3) D d s ((hS.below hb).more fun i hi => ext_old hi) hd (.app n t) trivial ⟨hn, bn, bm, rfl, hx, hx2, ext_new hnew (lt_of_block hx), ext_new hnew2 (lt_of_block hx2)⟩ (by omega)
    fun TT b W h1 h2 h3 => app1_any W _ TT b s.now h1 h2 bn bm n t (hx.below h3) (hx2.below h3) (len_max hn) (by have := (hS.ok hd).wt_now; omega)).mono fun e w' h => h.pre hb
theorem perform_cut (w w3 : World) (X : Nat → Prop) (D : Nat → Option FS) (d : Nat) (s : FS) (hS : Sys w X D) (hd : D d = some s) (hwt : s.wt ≤ 1099511627776) (hb : Below w.heap.size w w3) (bn bm : Nat) (n : Nm) (k : Nat) (hx : BoxS w3 bn n) (hnew : w.heap.size ≤ bn) (hn : n.length ≤ 32) (hx2 : BoxI w3 bm (k : Int)) (hnew2 : w.heap.size ≤ bm) (hk : ∀ f, fi.get n s.now = some f → k ≤ f.1.length) :
    Calls Tryz.prog 38 #[.pointer (some ⟨d, 0, none⟩), .agg #[.func (.func 142) #[] #[.pointer (some ⟨bn, 0, none⟩), .pointer (some ⟨bm, 0, none⟩)], .nilFunc]] w3 (Does X (upd D d (s.done (.cut n k))) (.int .i64 0) w) :=
  (perform2_any _ _ _ _ (fun _ _ => by kernel_rfl) rfl w3 (ext X w w3) D d s ((hS.below hb).more fun i hi => ext_old hi) hd (.cut n k) hk ⟨hn, bn, bm, rfl, hx, hx2, ext_new hnew (lt_of_block hx), ext_new hnew2 (lt_of_block hx2)⟩ hwt
    fun TT b W h1 h2 h3 => cut1_any W _ TT b s.now h1 h2 bn bm n k (hx.below h3) (hx2.below h3) (len_max hn) (fun f hf _ => hk f hf)).mono fun e w' h => h.pre hb

set_option maxHeartbeats 8000000 in
set_option maxRecDepth 100000 in
theorem make_any (w : World) (X : Nat → Prop) (D : Nat → Option FS) (d : Nat) (s : FS) (hS : Sys w X D) (hd : D d = some s) (hwt : s.wt ≤ 1099511627776) (n : Nm) (hn : n.length ≤ 281474976710656) :
    Calls Tryz.prog 18 #[.pointer (some ⟨d, 0, none⟩), .string (str n)] w (Does X (upd D d (s.make n).2) (.int .i64 (s.make n).1) w) := by
  have hbel : Below w.heap.size w (w.alloc (.cells #[.string (str n)] 9)) := (Below.refl _ w).alloc (Nat.le_refl _) _
  have hbx : BoxS (w.alloc (.cells #[.string (str n)] 9)) w.heap.size n := heap_alloc_new w _
  have b0 := cell_of_one hbx
  have hS0 := hS.below hbel
  have HS := Lib.hid hS
  have HB := Lib.hid hbel
  have HX := Lib.hid hbx
  rcases look_cases s n with hl | hl | hl
  · have he : s.make n = (8, s) := by unfold FS.make; rw [if_pos hl]
    rw [he]
    have HF := Lib.hid (find_yes2 _ X D d s hS0 hd n hl)
    have HD := Lib.hid hd
    clear hS hS0 hbel hbx hl he hd
    go_enter Tryz.func18, Tryz.ntmps18
    go_wp2_with (go_at_call 34; ((with_reducible refine HF.out.mono ?_); rintro e w1 ⟨p, rfl, hb1, _⟩))
    go_ret
    exact Does.same HS.out HD.out (HB.out.trans (hb1.mono HB.out.size))
  · have he : s.make n = (2, s) := by unfold FS.make; rw [if_neg (by rw [hl]; decide), if_pos (by rw [hl]; decide), hl]
    rw [he]
    have hfn := find_no2 _ X D d s hS0 hd n (by rw [hl]; decide)
    rw [hl] at hfn
    have HF := Lib.hid hfn
    have HD := Lib.hid hd
    clear hS hS0 hbel hbx hl he hd hfn
    go_enter Tryz.func18, Tryz.ntmps18
    go_wp2_with (go_at_call 34; ((with_reducible refine HF.out.mono ?_); rintro e w1 ⟨rfl, hb1⟩))
    go_ret
    exact Does.same HS.out HD.out (HB.out.trans (hb1.mono HB.out.size))
  · have hfn := find_no2 _ X D d s hS0 hd n (by rw [hl]; decide)
    rw [hl] at hfn
    have HF := Lib.hid hfn
    have HD := Lib.hid hd
    obtain ⟨room, nb, sb, v, L, hk, ht, hL⟩ := hS0.nowTab hd
    have HK := Lib.hid hk
    have HT := Lib.hid ht
    have hLw : L.length ≤ 1099511627776 := by have h1 := wt_len s.now; have h2 := (hS.ok hd).wt_now; omega
    by_cases h16 : 16 ≤ s.now.length
    · have he : s.make n = (6, s) := by unfold FS.make; rw [if_neg (by rw [hl]; decide), if_neg (by rw [hl]; decide), if_pos h16]
      rw [he]
      have h16' : (16 : Int) ≤ (L.length : Int) := by omega
      clear hS hS0 hbel hbx hl he hd hfn hk ht h16 hL
      go_enter Tryz.func18, Tryz.ntmps18
      go_wp2_with (first
        | (go_at_call 34; ((with_reducible refine HF.out.mono ?_); rintro e w1 ⟨rfl, hb1⟩; obtain ⟨c0, c1, c2, c3, c4⟩ := (show BlkD w1 d room nb sb v from (hb1.block d (lt_of_block HK.out)).trans HK.out).cells; have ht1 : Tab w1 nb L := HT.out.kept (hb1.block nb HT.out.exact.lt); have HB1 := Lib.hid hb1; clear hb1))
        | (at_len; refine wpList_len_own _ rfl _ 66 rfl 9 77 Tryz.underlying66 _ nb _ _ rfl ht1.exact ?_; rw [dat_size]))
      go_ret
      exact Does.same HS.out HD.out (HB.out.trans (HB1.out.mono HB.out.size))
    · have he : s.make n = (0, s.done (.make n)) := by unfold FS.make; rw [if_neg (by rw [hl]; decide), if_neg (by rw [hl]; decide), if_neg h16]
      rw [he]
      have h16' : ¬ (16 : Int) ≤ (L.length : Int) := by omega
      have hv := valid_len (look_seven hl)
      have hnz : (str n).size ≤ 281474976710656 := by rw [str_size]; exact hn
      clear hS hS0 hbel hbx hl he hd hfn hk ht h16 hL
      go_enter Tryz.func18, Tryz.ntmps18
      go_wp2_with (first
        | (go_at_call 34; ((with_reducible refine HF.out.mono ?_); rintro e w1 ⟨rfl, hb1⟩; obtain ⟨c0, c1, c2, c3, c4⟩ := (show BlkD w1 d room nb sb v from (hb1.block d (lt_of_block HK.out)).trans HK.out).cells; have ht1 : Tab w1 nb L := HT.out.kept (hb1.block nb HT.out.exact.lt); have hx1 := HX.out.below hb1; have b1 := cell_of_one hx1; have HX1 := Lib.hid hx1; have HB1 := Lib.hid hb1; clear hb1 hx1))
        | (at_len; refine wpList_len_own _ rfl _ 66 rfl 9 77 Tryz.underlying66 _ nb _ _ rfl ht1.exact ?_; rw [dat_size])
        | (go_at_call 37; ((with_reducible refine (clone_any (str n) _ hnz).mono ?_); rintro e w2 ⟨rfl, hb2⟩; have hx2 := HX1.out.below hb2; have b2 := cell_of_one hx2; have b3 := hx2.free; have h3 : Below w.heap.size w (w2.setCell ⟨w.heap.size, 0, none⟩ (.string (str n))) := ((HB.out.trans (HB1.out.mono HB.out.size)).trans (hb2.mono (Nat.le_trans HB.out.size HB1.out.size))).setCell (Nat.le_refl _) _; have HP := Lib.hid (perform_make w _ X D d s HS.out HD.out hwt h3 w.heap.size n (hx2.set_ n) (Nat.le_refl _) hv); clear hb2 hx2 h3))
        | (go_at_call 38; ((with_reducible refine HP.out.mono ?_); rintro e w4 ⟨rfl, h4, h5⟩; have H4 := Lib.hid h4; have H5 := Lib.hid h5; clear h4 h5)))
      go_ret
      exact ⟨rfl, H4.out, H5.out⟩
end Go.Proofs.YtmaohncddjhgeaaGreat.gn
end
section
set_option linter.unusedVariables false
set_option maxRecDepth 100000
namespace Go.Proofs.YtmaohncddjhgeaaGreat.gn
open Go.RowKit
open Go.Proofs.YtmaohncddjhgeaaGreat.fi

theorem look_ok {s : FS} {n : Nm} (h : s.look n = 0) : n.length ≤ 32 := valid_len (look_zero h).1

set_option maxHeartbeats 8000000 in
set_option maxRecDepth 100000 in
theorem remove_any (w : World) (X : Nat → Prop) (D : Nat → Option FS) (d : Nat) (s : FS) (hS : Sys w X D) (hd : D d = some s) (hwt : s.wt ≤ 1099511627776) (n : Nm) (hn : n.length ≤ 281474976710656) :
    Calls Tryz.prog 126 #[.pointer (some ⟨d, 0, none⟩), .string (str n)] w (Does X (upd D d (s.rem n).2) (.int .i64 (s.rem n).1) w) := by
  have hbel : Below w.heap.size w (w.alloc (.cells #[.string (str n)] 9)) := (Below.refl _ w).alloc (Nat.le_refl _) _
  have hbx : BoxS (w.alloc (.cells #[.string (str n)] 9)) w.heap.size n := heap_alloc_new w _
  have b0 := cell_of_one hbx
  have hS0 := hS.below hbel
  have HS := Lib.hid hS
  have HB := Lib.hid hbel
  have HX := Lib.hid hbx
  have HD := Lib.hid hd
  by_cases hl : s.look n = 0
  · have he : s.rem n = (0, s.done (.rem n)) := by unfold FS.rem; rw [if_neg (by rw [hl]; decide)]
    rw [he]
    have hv := look_ok hl
    have hnz : (str n).size ≤ 281474976710656 := by rw [str_size]; exact hn
    have HF := Lib.hid (find_yes2 _ X D d s hS0 hd n hl)
    clear hS hS0 hbel hbx hl he hd
    go_enter Tryz.func126, Tryz.ntmps126
    go_wp2_with (first
      | (go_at_call 34; ((with_reducible refine HF.out.mono ?_); rintro e w1 ⟨p, rfl, hb1, _⟩; have hx1 := HX.out.below hb1; have b1 := cell_of_one hx1; have HX1 := Lib.hid hx1; have HB1 := Lib.hid hb1; clear hb1 hx1))
      | (go_at_call 37; ((with_reducible refine (clone_any (str n) _ hnz).mono ?_); rintro e w2 ⟨rfl, hb2⟩; have hx2 := HX1.out.below hb2; have b2 := cell_of_one hx2; have b3 := hx2.free; have h3 : Below w.heap.size w (w2.setCell ⟨w.heap.size, 0, none⟩ (.string (str n))) := ((HB.out.trans (HB1.out.mono HB.out.size)).trans (hb2.mono (Nat.le_trans HB.out.size HB1.out.size))).setCell (Nat.le_refl _) _; have HP := Lib.hid (perform_rem w _ X D d s HS.out HD.out hwt h3 w.heap.size n (hx2.set_ n) (Nat.le_refl _) hv); clear hb2 hx2 h3))
      | (go_at_call 38; ((with_reducible refine HP.out.mono ?_); rintro e w4 ⟨rfl, h4, h5⟩; have H4 := Lib.hid h4; have H5 := Lib.hid h5; clear h4 h5)))
    go_ret
    exact ⟨rfl, H4.out, H5.out⟩
  · have he : s.rem n = (s.look n, s) := by unfold FS.rem; rw [if_pos hl]
    rw [he]
    have hne : (s.look n != 0) = true := by simpa using hl
    have HF := Lib.hid (find_no2 _ X D d s hS0 hd n hl)
    clear hS hS0 hbel hbx hl he hd
    go_enter Tryz.func126, Tryz.ntmps126
    go_wp2_with (go_at_call 34; ((with_reducible refine HF.out.mono ?_); rintro e w1 ⟨rfl, hb1⟩; have HB1 := Lib.hid hb1; clear hb1))
    go_ret
    exact Does.same HS.out HD.out (HB.out.trans (HB1.out.mono HB.out.size))

set_option maxHeartbeats 16000000 in
set_option maxRecDepth 100000 in
theorem append_any (w : World) (X : Nat → Prop) (D : Nat → Option FS) (d : Nat) (s : FS) (hS : Sys w X D) (hd : D d = some s) (hwt : s.wt ≤ 549755813888) (n : Nm) (hn : n.length ≤ 281474976710656) (t : List UInt8) (ht : t.length ≤ 281474976710656) :
    Calls Tryz.prog 19 #[.pointer (some ⟨d, 0, none⟩), .string (str n), .string (str t)] w (Does X (upd D d (s.app n t).2) (.int .i64 (s.app n t).1) w) := by
  have hz : (w.alloc (.cells #[.string (str n)] 9)).heap.size = w.heap.size + 1 := by simp
  have hbel0 : Below w.heap.size w (w.alloc (.cells #[.string (str n)] 9)) := (Below.refl _ w).alloc (Nat.le_refl _) _
  have hbel : Below w.heap.size w ((w.alloc (.cells #[.string (str n)] 9)).alloc (.cells #[.string (str t)] 9)) := hbel0.alloc (by rw [hz]; omega) _
  have hbx : BoxS ((w.alloc (.cells #[.string (str n)] 9)).alloc (.cells #[.string (str t)] 9)) w.heap.size n := BoxS.below (heap_alloc_new w _) ((Below.refl _ _).alloc (Nat.le_refl _) _)
  have hbt : BoxS ((w.alloc (.cells #[.string (str n)] 9)).alloc (.cells #[.string (str t)] 9)) (w.heap.size + 1) t := by
    have h := heap_alloc_new (w.alloc (.cells #[.string (str n)] 9)) (.cells #[.string (str t)] 9)
    rw [hz] at h
    exact h
  have b0 := cell_of_one hbx
  have b1 := cell_of_one hbt
  have hS0 := hS.below hbel
  have HS := Lib.hid hS
  have HB := Lib.hid hbel
  have HX := Lib.hid hbx
  have HXT := Lib.hid hbt
  have HD := Lib.hid hd
  by_cases hl : s.look n = 0
  · have hv := look_ok hl
    have hnz : (str n).size ≤ 281474976710656 := by rw [str_size]; exact hn
    have htz : (str t).size ≤ 281474976710656 := by rw [str_size]; exact ht
    have HTZ : Hid ((str t).size = t.length) := str_size t
    have HF := Lib.hid (find_yes2 _ X D d s hS0 hd n hl)
    have HL := Lib.hid hl
    have hlb : s.left ≤ 16777216 := by have h1 := (hS.ok hd).room; unfold FS.left; omega
    have hlb2 : -1099511627776 ≤ s.left := by have h1 := (hS.ok hd).wt_now; have h2 := tot_wt s.now; unfold FS.left; omega
    clear hS hS0 hbel hbel0 hbx hbt hl hd hz
    by_cases hr : s.left < (t.length : Int)
    · have he : s.app n t = (6, s) := by unfold FS.app; rw [if_neg (by rw [HL.out]; decide), if_pos hr]
      rw [he]
      have hr1 : s.left < ((str t).size : Int) := by have := HTZ.out; omega
      clear he hr
      go_enter Tryz.func19, Tryz.ntmps19
      go_wp2_with (go_at_call 34; ((with_reducible refine HF.out.mono ?_); rintro e w1 ⟨p, rfl, hb1, _⟩; have hx1 := HX.out.below hb1; have b1 := cell_of_one hx1; have ht1 := HXT.out.below hb1; have b2 := cell_of_one ht1; have hs1 : Sys w1.drew X D := (HS.out.below (HB.out.trans (hb1.mono HB.out.size))).below (Below.refl _ _).drew; have HX1 := Lib.hid hx1; have HT1 := Lib.hid ht1; have HB1 := Lib.hid hb1; have HS1 := Lib.hid hs1; clear hb1 hx1 ht1 hs1))
      go_region_held3 (fun W => W.cell? ⟨w.heap.size + 1, 0, none⟩ = some (.string (str t))) (go_keep)
        (first | (go_at_call 40; ((with_reducible refine (room_any _ X D d s HS1.out HD.out (by omega)).mono ?_); rintro e w2 ⟨rfl, hb2⟩; have ht2 := HT1.out.below (Below.trans (Below.refl _ _).drew hb2); have b3 := cell_of_one ht2; have hx2 := HX1.out.below (Below.trans (Below.refl _ _).drew hb2); have b4 := cell_of_one hx2; have HT2 := Lib.hid ht2; have HX2 := Lib.hid hx2; have HB2 := Lib.hid hb2; clear hb2 ht2 hx2)))
      go_wp2
      go_ret
      exact Does.same HS.out HD.out ((HB.out.trans (HB1.out.mono HB.out.size)).trans (Below.trans (Below.refl _ _).drew (HB2.out.mono (Nat.le_trans HB.out.size HB1.out.size))))
    · have he : s.app n t = (0, s.done (.app n t)) := by unfold FS.app; rw [if_neg (by rw [HL.out]; decide), if_neg hr]
      rw [he]
      have hr1 : ¬ s.left < ((str t).size : Int) := by have := HTZ.out; omega
      have htl : t.length ≤ 549755813888 := by omega
      clear he hr
      go_enter Tryz.func19, Tryz.ntmps19
      go_wp2_with (go_at_call 34; ((with_reducible refine HF.out.mono ?_); rintro e w1 ⟨p, rfl, hb1, _⟩; have hx1 := HX.out.below hb1; have b1 := cell_of_one hx1; have ht1 := HXT.out.below hb1; have b2 := cell_of_one ht1; have hs1 : Sys w1.drew X D := (HS.out.below (HB.out.trans (hb1.mono HB.out.size))).below (Below.refl _ _).drew; have HX1 := Lib.hid hx1; have HT1 := Lib.hid ht1; have HB1 := Lib.hid hb1; have HS1 := Lib.hid hs1; clear hb1 hx1 ht1 hs1))
      go_region_held3 (fun W => W.cell? ⟨w.heap.size + 1, 0, none⟩ = some (.string (str t))) (go_keep)
        (first | (go_at_call 40; ((with_reducible refine (room_any _ X D d s HS1.out HD.out (by omega)).mono ?_); rintro e w2 ⟨rfl, hb2⟩; have ht2 := HT1.out.below (Below.trans (Below.refl _ _).drew hb2); have b3 := cell_of_one ht2; have hx2 := HX1.out.below (Below.trans (Below.refl _ _).drew hb2); have b4 := cell_of_one hx2; have HT2 := Lib.hid ht2; have HX2 := Lib.hid hx2; have HB2 := Lib.hid hb2; clear hb2 ht2 hx2)))
      have hs2 : Sys w2.drew X D := (HS1.out.below HB2.out).below (Below.refl _ _).drew
      have HB12 : Hid (Below w.heap.size w w2.drew) := ((HB.out.trans (HB1.out.mono HB.out.size)).trans (Below.trans (Below.refl _ _).drew (HB2.out.mono (Nat.le_trans HB.out.size HB1.out.size)))).drew
      clear hs2
      go_wp2
      go_region_held3 (fun W => W.cell? ⟨w.heap.size, 0, none⟩ = some (.string (str n)) ∧ W.cell? ⟨w.heap.size + 1, 0, none⟩ = some (.string (str t)))
        (refine ⟨?_, ?_⟩ <;> first
          | go_keep
          | exact cell_of_one (HX4.out.set_ n)
          | exact cell_of_one (HT4.out.set_ t)
          | exact cell_of_one ((HX4.out.set_ n).far (show w.heap.size ≠ w.heap.size + 1 by omega) _)
          | exact cell_of_one ((HX4.out.far (show w.heap.size ≠ w.heap.size + 1 by omega) _).set_ n)
          | exact cell_of_one ((HT4.out.far (show w.heap.size + 1 ≠ w.heap.size by omega) _).set_ t)
          | exact cell_of_one ((HT4.out.set_ t).far (show w.heap.size + 1 ≠ w.heap.size by omega) _)
          | exact cell_of_one (HX4.out.far (show w.heap.size ≠ w.heap.size + 1 by omega) _)
          | exact cell_of_one (HT4.out.far (show w.heap.size + 1 ≠ w.heap.size by omega) _))
        (first
          | (go_at_call 37; ((with_reducible refine (clone_any (str n) _ hnz).mono ?_); rintro e w3 ⟨rfl, hb3⟩; have hx3 := HX2.out.below (Below.trans (Below.refl _ _).drew hb3); have ht3 := HT2.out.below (Below.trans (Below.refl _ _).drew hb3); have b5 := cell_of_one hx3; have b6 := cell_of_one ht3; have HX3 := Lib.hid hx3; have HT3 := Lib.hid ht3; have HB3 := Lib.hid hb3; clear hx3 ht3 hb3))
          | (go_at_call 37; ((with_reducible refine (clone_any (str t) _ htz).mono ?_); rintro e w4 ⟨rfl, hb4⟩; have hx4 := HX3.out.below hb4; have ht4 := HT3.out.below hb4; have b7 := cell_of_one hx4; have b8 := cell_of_one ht4; have b9 := hx4.free; have b10 := ht4.free; have HX4 := Lib.hid hx4; have HT4 := Lib.hid ht4; have HB4 := Lib.hid hb4; clear hx4 ht4 hb4)))
      have h5 : Below w.heap.size w ((w4.setCell ⟨w.heap.size, 0, none⟩ (.string (str n))).setCell ⟨w.heap.size + 1, 0, none⟩ (.string (str t))) :=
        (((HB12.out.trans (HB3.out.mono HB12.out.size)).trans (HB4.out.mono (Nat.le_trans HB12.out.size HB3.out.size))).setCell (Nat.le_refl _) _).setCell (Nat.le_succ _) _
      have HP := Lib.hid (perform_app w _ X D d s HS.out HD.out hwt h5 w.heap.size (w.heap.size + 1) n t ((HX4.out.set_ n).far (show w.heap.size ≠ w.heap.size + 1 by omega) _) (Nat.le_refl _) hv ((HT4.out.far (show w.heap.size + 1 ≠ w.heap.size by omega) _).set_ t) (Nat.le_succ _) htl)
      clear h5
      go_wp2_with (go_at_call 38; ((with_reducible refine HP.out.mono ?_); rintro e w6 ⟨rfl, h6, h7⟩; have H6 := Lib.hid h6; have H7 := Lib.hid h7; clear h6 h7))
      go_ret
      exact ⟨rfl, H6.out, H7.out⟩
  · have he : s.app n t = (s.look n, s) := by unfold FS.app; rw [if_pos hl]
    rw [he]
    have hne : (s.look n != 0) = true := by simpa using hl
    have HF := Lib.hid (find_no2 _ X D d s hS0 hd n hl)
    clear hS hS0 hbel hbel0 hbx hbt hl he hd hz
    go_enter Tryz.func19, Tryz.ntmps19
    go_wp2_with (go_at_call 34; ((with_reducible refine HF.out.mono ?_); rintro e w1 ⟨rfl, hb1⟩; have HB1 := Lib.hid hb1; clear hb1))
    go_ret
    exact Does.same HS.out HD.out (HB.out.trans (HB1.out.mono HB.out.size))
end Go.Proofs.YtmaohncddjhgeaaGreat.gn
end
section
set_option linter.unusedVariables false
set_option maxRecDepth 100000
namespace Go.Proofs.YtmaohncddjhgeaaGreat.fi
def FS.sync (s : FS) : FS := { s with safe := s.now, op := [] }
theorem FS.Ok.sync {s : FS} (h : s.Ok) : s.sync.Ok := ⟨h.room, h.keyed_now, h.sound_now, trivial⟩
theorem FS.sync_now (s : FS) : s.sync.now = s.now := rfl
theorem FS.sync_wt {s : FS} (h : s.Ok) : s.sync.wt ≤ s.wt := by
  have := h.wt_now
  unfold FS.wt FS.sync
  simp only [wts]
  unfold FS.wt at this
  omega
end Go.Proofs.YtmaohncddjhgeaaGreat.fi

namespace Go.Proofs.YtmaohncddjhgeaaGreat.gn
open Go.RowKit
open Go.Proofs.YtmaohncddjhgeaaGreat.fi

theorem BlkD.set3 {w : World} {d room nb sb : Nat} {v : Value} (h : BlkD w d room nb sb v) (sb' : Nat) : BlkD (w.setCell ⟨d, 3, none⟩ (.map (some sb'))) d room nb sb' v := heap_setCell h _
theorem BlkD.set2 {w : World} {d room nb sb : Nat} {v : Value} (h : BlkD w d room nb sb v) (nb' : Nat) : BlkD (w.setCell ⟨d, 2, none⟩ (.map (some nb'))) d room nb' sb v := heap_setCell h _
theorem BlkD.below {w w' : World} {d room nb sb : Nat} {v : Value} (h : BlkD w d room nb sb v) (hb : Below w.heap.size w w') : BlkD w' d room nb sb v := (hb.block d (lt_of_block h)).trans h

/-- What Sync leaves: a copy of the table of the files as they are. -/
def Synced (X : Nat → Prop) (TT : Nat → Option Tb) (T : Tb) (d room nb : Nat) (w : World) (e : Ending) (w' : World) : Prop :=
  e = .returned (.int .i64 0) ∧ ∃ b' w1, SysT w1 (ext X w w1) (upd TT b' (strip T)) ∧ Below w.heap.size w w1 ∧ w.heap.size ≤ b' ∧ BlkD w' d room nb b' (.slice none 0 0) ∧ Only (fun i => i = d) w1 w'

set_option maxHeartbeats 4000000 in
theorem sync_raw (w : World) (X : Nat → Prop) (TT : Nat → Option Tb) (T : Tb) (d room nb sb : Nat) (v : Value) (hS : SysT w X TT) (hk : BlkD w d room nb sb v) (hT : TT nb = some T) (hwt : wt T ≤ 1099511627776) :
    Calls Tryz.prog 20 #[.pointer (some ⟨d, 0, none⟩)] w (Synced X TT T d room nb w) := by
  obtain ⟨c0, c1, c2, c3, c4⟩ := hk.cells
  have HK := Lib.hid hk
  have HS := Lib.hid hS
  have HT := Lib.hid hT
  clear hS hk hT
  go_enter Tryz.func20, Tryz.ntmps20
  go_wp2_with (first
    | (go_at_call 46; ((with_reducible refine (is_any _ _ c0).mono ?_); rintro e w' ⟨rfl, rfl⟩))
    | (go_at_call 47; ((with_reducible refine (copy_any _ X TT nb T HS.out HT.out hwt).mono ?_); rintro e w1 ⟨b', rfl, hb', hs1, hb1⟩; have hk1 := HK.out.below hb1; obtain ⟨d0, d1, d2, d3, d4⟩ := hk1.cells; have f3 := hk1.free 3; have f4 := hk1.free 4; have HK1 := Lib.hid hk1; have HS1 := Lib.hid hs1; have HB1 := Lib.hid hb1; clear hk1 hs1 hb1)))
  go_ret
  exact ⟨rfl, b', w1, HS1.out, HB1.out, hb', (HK1.out.set3 b').set4 _, rfl, rfl, rfl, by simp [World.setCell], fun i _ hi => (Below.heap_setCell _ _ _ _ hi).trans (Below.heap_setCell _ _ _ _ hi)⟩

theorem Dir_ne_TS {w : World} {d room nb sb : Nat} {v : Value} (h : BlkD w d room nb sb v) : ¬ TS w d := by
  unfold BlkD at h
  rintro (⟨_, _, he⟩ | ⟨_, he⟩ | ⟨_, he⟩) <;> rw [h] at he <;> simp at he

/-- A step that leaves a directory new tables, and no open operation. -/
theorem SysD.fresh {w w' : World} {X Y : Nat → Prop} {TT TT' : Nat → Option Tb} {role role' : Nat → Nat × Bool} {ga : Nat → Nat} {D : Nat → Option FS} (h : SysD w X TT role ga D) {d : Nat} {s s' : FS} {nb sb : Nat} {v : Value} (hd : DirOk w X TT role ga d s nb sb v)
    (hX : ∀ i, X i → Y i) (hT : SysT w' Y TT') (hTT : ∀ b, b < w.heap.size → (role b).1 ≠ d → TT' b = TT b) (hr : ∀ i, i < w.heap.size → role' i = role i)
    (ho : Only (fun i => i = d ∨ (X i ∧ TS w i)) w w') {nb' sb' : Nat} (hok : s'.Ok) (hop : s'.op = []) (hb : BlkD w' d s'.room nb' sb' (.slice none 0 0)) (h1 : TT' nb' = some s'.now) (h2 : TT' sb' = some s'.safe) (h3 : role' nb' = (d, true)) (h4 : role' sb' = (d, false)) :
    Sys w' Y (upd D d s') := by
  refine ⟨TT', role', ga, h.turn d s' hT hTT hX (fun i cs t hXi hi ht => ?_) hr (fun _ _ => rfl) ⟨hX _ hd.x, hok, hb, h1, h2, h3, h4, ?_⟩⟩
  · refine (ho.block i (lt_of_block hi) fun e => ?_).trans hi
    rcases e with rfl | ⟨_, e⟩
    · have hb0 := hd.blk
      unfold BlkD at hb0
      rw [hi] at hb0
      simp at hb0
      rcases ht with ⟨_, ht⟩ | ht | ht | ⟨ht, _⟩
      · exact ht rfl
      all_goals (rw [ht] at hb0; exact absurd hb0.2 (by decide))
    · rcases e with ⟨_, _, he⟩ | ⟨_, he⟩ | ⟨_, he⟩ <;> rw [hi] at he <;> simp at he <;> rcases ht with ⟨ht, _⟩ | ht | ht | ⟨ht, _⟩ <;> rw [ht] at he <;> exact absurd he.2 (by decide)
  · rw [hop]
    exact ⟨[], ⟨rfl, .inl ⟨rfl, rfl⟩⟩, .nil, fun g hg => by simp [Value.ownBlock] at hg⟩

theorem sync_any (w : World) (X : Nat → Prop) (D : Nat → Option FS) (d : Nat) (s : FS) (hS : Sys w X D) (hd : D d = some s) (hwt : s.wt ≤ 1099511627776) :
    Calls Tryz.prog 20 #[.pointer (some ⟨d, 0, none⟩)] w (Does X (upd D d s.sync) (.int .i64 0) w) := by
  obtain ⟨TT, role, ga, h⟩ := hS
  obtain ⟨nb, sb, v, hk⟩ := h.2 d s hd
  have hok := hk.ok
  refine (sync_raw w X TT s.now d s.room nb sb v h.1 hk.blk hk.now (by have := hok.wt_now; omega)).mono fun e w' ⟨he, b', w1, h1, h2, h3, h4, h5⟩ => ?_
  have hs1 := h2.size
  have hs2 := h5.size
  have hdl := lt_of_block hk.blk
  have hnl := (h.1.lt hk.now).1
  have ho : Only (fun i => i = d ∨ (X i ∧ TS w i)) w w' := Only.trans (Only.of_below h2) (h5.mono (S' := fun i => i = d ∨ (X i ∧ TS w i)) fun i _ hi => .inl hi) fun i _ hi => hi
  refine ⟨he, h.fresh (role' := put1 role b' (d, false)) (TT' := upd TT b' (strip s.now)) (nb' := nb) (sb' := b') hk (fun i hi => ext_old hi) ?_ (fun b hb _ => upd_other _ _ (by omega)) (fun i hi => put1_other _ _ (by omega)) ho hok.sync rfl h4 ?_ ?_ ?_ ?_, ?_⟩
  · refine (h1.keptT fun i hi _ ht => h5.block i hi fun e => ?_).more fun i hi => ?_
    · subst e
      exact Dir_ne_TS (hk.blk.below h2) ht
    · rcases hi with hi | ⟨i1, i2⟩
      · exact .inl hi
      · exact .inr ⟨i1, by omega⟩
  · rw [upd_other _ _ (by omega), FS.sync_now]; exact hk.now
  · rw [upd_same, strip_sound hok.sound_now]; rfl
  · rw [put1_other _ _ (by omega)]; exact hk.rn
  · exact put1_same _ _ _
  · exact ho.mono fun i _ hi => by
      rcases hi with rfl | hi
      · exact hk.x
      · exact hi.1
end Go.Proofs.YtmaohncddjhgeaaGreat.gn
end
section
set_option linter.unusedVariables false
set_option maxRecDepth 100000
namespace Go.Proofs.YtmaohncddjhgeaaGreat.fi
def FS.new (r : Int) : FS := ⟨(min (max r 0) 16777216).toNat, [], []⟩
theorem FS.new_ok (r : Int) : (FS.new r).Ok := ⟨(by unfold FS.new; simp only; omega), .nil, (fun p hp => by cases hp), trivial⟩
end Go.Proofs.YtmaohncddjhgeaaGreat.fi

namespace Go.Proofs.YtmaohncddjhgeaaGreat.gn
open Go.RowKit
open Go.Proofs.YtmaohncddjhgeaaGreat.fi

set_option maxHeartbeats 4000000 in
theorem object_any (w : World) (x v : Value) (room nb sb : Nat) (hx : x.oneCell' = true) (hv : v.oneCell' = true) :
    Calls Tryz.prog 27 #[.agg #[x, .int .i64 (room : Int), .map (some nb), .map (some sb), v]] w fun e w' => e = .returned (.pointer (some ⟨w.heap.size, 0, none⟩)) ∧ BlkD w' w.heap.size room nb sb v ∧ Below w.heap.size w w' := by
  have hb : Below w.heap.size w (w.alloc (.cells #[.pointer (some ⟨w.heap.size, 0, none⟩), .int .i64 (room : Int), .map (some nb), .map (some sb), v] 69)) := (Below.refl _ w).alloc (Nat.le_refl _) _
  have HB := Lib.hid hb
  clear hb
  go_enter Tryz.func27, Tryz.ntmps27
  go_wp2
  go_ret
  exact ⟨rfl, heap_alloc_new w _, HB.out⟩

/-- A directory more. -/
def Makes (X : Nat → Prop) (D : Nat → Option FS) (s : FS) (w : World) (e : Ending) (w' : World) : Prop :=
  ∃ d, e = .returned (.pointer (some ⟨d, 0, none⟩)) ∧ w.heap.size ≤ d ∧ Sys w' (ext X w w') (upd D d s) ∧ Below w.heap.size w w'

theorem SysD.made {w w' : World} {X : Nat → Prop} {TT TT' : Nat → Option Tb} {role : Nat → Nat × Bool} {ga : Nat → Nat} {D : Nat → Option FS} (h : SysD w X TT role ga D) (hb : Below w.heap.size w w') (hT : SysT w' (ext X w w') TT') (hTT : ∀ b, b < w.heap.size → TT' b = TT b)
    {d nb sb : Nat} {v : Value} {s : FS} (hd : w.heap.size ≤ d) (hn : w.heap.size ≤ nb) (hs : w.heap.size ≤ sb) (hne : nb ≠ sb) (hok : s.Ok) (hblk : BlkD w' d s.room nb sb v) (h1 : TT' nb = some s.now) (h2 : TT' sb = some s.safe)
    {cs : List (Value × Value)} (hrow : w'.ownsRow 0 88 2 v s.op.length (flatC cs)) (hcs : Clos w' (ext X w w') cs s.op) (hnew : ∀ g, v.ownBlock = some g → w.heap.size ≤ g) : Sys w' (ext X w w') (upd D d s) := by
  refine ⟨TT', put1 (put1 role nb (d, true)) sb (d, false), fun i => if i < w.heap.size then ga i else d, h.turn d s hT (fun b hb _ => hTT b hb) (fun i hi => ext_old hi) (fun i cs t _ hi _ => (hb.block i (lt_of_block hi)).trans hi) (fun i hi => ?_) (fun i hi => if_pos hi)
    (nb := nb) (sb := sb) (v := v) ⟨ext_new hd (lt_of_block hblk), hok, hblk, h1, h2, ?_, put1_same _ _ _, cs, hrow, hcs, fun g hg => ⟨ext_new (hnew g hg) (hrow.lt g hg).2, if_neg (by have := hnew g hg; omega)⟩⟩⟩
  · rw [put1_other _ _ (by omega), put1_other _ _ (by omega)]
  · rw [put1_other _ _ hne, put1_same]

set_option maxHeartbeats 4000000 in
theorem new_any (w : World) (X : Nat → Prop) (D : Nat → Option FS) (hS : Sys w X D) (r : Int) :
    Calls Tryz.prog 7 #[.int .i64 r] w (Makes X D (FS.new r) w) := by
  obtain ⟨TT, role, ga, h⟩ := hS
  obtain ⟨q, hq⟩ : ∃ q : Nat, q = (FS.new r).room := ⟨_, rfl⟩
  have hqr : (q : Int) = min (max r 0) 16777216 := by
    rw [hq]
    unfold FS.new
    simp only
    omega
  have hz : (w.alloc (.map #[] 0)).heap.size = w.heap.size + 1 := by simp
  have hz2 : ((w.alloc (.map #[] 0)).alloc (.map #[] 0)).heap.size = w.heap.size + 1 + 1 := by simp
  have hm1 := SysT.made h.1
  have hm2 := SysT.made hm1
  rw [hz] at hm2
  have hb2 : Below w.heap.size w ((w.alloc (.map #[] 0)).alloc (.map #[] 0)) := ((Below.refl _ w).alloc (Nat.le_refl _) _).alloc (by rw [hz]; omega) _
  have hmm := @run_makeMap Tryz.prog
  have HO := Lib.hid (object_any ((w.alloc (.map #[] 0)).alloc (.map #[] 0)) (.pointer none) (.slice none 0 0) q w.heap.size (w.heap.size + 1) rfl rfl)
  have HH := Lib.hid h
  have HM := Lib.hid hm2
  have HB := Lib.hid hb2
  have HZ := Lib.hid hz2
  have HQ := Lib.hid hq
  clear h hm1 hm2 hb2 hz2 hq
  have fin : Hid (∀ e w', e = .returned (.pointer (some ⟨w.heap.size + 1 + 1, 0, none⟩)) → BlkD w' (w.heap.size + 1 + 1) q w.heap.size (w.heap.size + 1) (.slice none 0 0) → Below ((w.alloc (.map #[] 0)).alloc (.map #[] 0)).heap.size ((w.alloc (.map #[] 0)).alloc (.map #[] 0)) w' → Makes X D (FS.new r) w e w') := fun e w' he hk hb => by
    have hb3 := HB.out.trans (hb.mono HB.out.size)
    have hsz := hb.size
    rw [HZ.out] at hsz
    refine ⟨_, he, by omega, HH.out.made hb3 ((HM.out.below hb).more fun i hi => ?_) (fun b hb => ?_) (by omega) (Nat.le_refl _) (Nat.le_succ _) (by omega) (FS.new_ok r) (by rw [HQ.out] at hk; exact hk) ?_ ?_ (cs := []) ⟨rfl, .inl ⟨rfl, rfl⟩⟩ .nil (fun g hg => by simp [Value.ownBlock] at hg), hb3⟩
    · rcases hi with (hi | ⟨i1, i2⟩) | ⟨i1, i2⟩
      · exact .inl hi
      · rw [hz] at i2
        exact .inr ⟨i1, by omega⟩
      · rw [HZ.out] at i2
        rw [hz] at i1
        exact .inr ⟨by omega, by omega⟩
    · rw [upd_other _ _ (by omega), upd_other _ _ (by omega)]
    · rw [upd_other _ _ (by omega), upd_same]; rfl
    · rw [upd_same]; rfl
  rw [hqr] at HO
  clear hqr
  go_enter Tryz.func7, Tryz.ntmps7
  go_wp2_with (go_at_call 27; ((with_reducible refine HO.out.mono ?_); rintro e w' ⟨rfl, h3, h4⟩; rw [HZ.out] at h3; have H3 := Lib.hid h3; have H4 := Lib.hid h4; clear h3 h4))
  go_ret
  exact fin.out _ _ (by simp) H3.out H4.out
end Go.Proofs.YtmaohncddjhgeaaGreat.gn
end
