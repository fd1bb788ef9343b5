/- The contracts of the operations: Make, Remove. -/
import Derived.Test.YtpbgckpjgfjmgaaFiO
import Derived.Test.YtpbgckpjgfjmgaaGenClone
set_option linter.unusedVariables false
set_option maxRecDepth 100000
namespace Go.Proofs.Ytpbgckpjgfjmgaa.fi
def FS.make (s : FS) (n : Nm) : Int × FS :=
  if s.look n = 0 then (8, s) else if s.look n ≠ 7 then (s.look n, s) else if 16 ≤ s.now.length then (6, s) else (0, s.done (.make n))
def FS.app (s : FS) (n : Nm) (b : List UInt8) : Int × FS :=
  if s.look n ≠ 0 then (s.look n, s) else if s.left < (b.length : Int) then (6, s) else (0, s.done (.app n b))
def FS.cut (s : FS) (n : Nm) (k : Int) : Int × FS :=
  if s.look n = 7 ∧ k < 0 then (2, s) else if s.look n ≠ 0 then (s.look n, s) else if k < 0 ∨ ((s.bytes n).length : Int) < k then (2, s) else (0, s.done (.cut n k.toNat))
def FS.ren (s : FS) (a b : Nm) : Int × FS :=
  if !(valid a && valid b) then (2, s) else if s.look a ≠ 0 then (s.look a, s) else (0, s.done (.ren a b))
def FS.rem (s : FS) (n : Nm) : Int × FS :=
  if s.look n ≠ 0 then (s.look n, s) else (0, s.done (.rem n))
theorem look_cases (s : FS) (n : Nm) : s.look n = 0 ∨ s.look n = 2 ∨ s.look n = 7 := by
  unfold FS.look
  split
  · split
    · exact .inl rfl
    · exact .inr (.inr rfl)
  · exact .inr (.inl rfl)
theorem look_seven {s : FS} {n : Nm} (h : s.look n = 7) : valid n = true := by
  unfold FS.look at h
  split at h
  · assumption
  · cases h
end Go.Proofs.Ytpbgckpjgfjmgaa.fi

namespace Go.Proofs.Ytpbgckpjgfjmgaa.gn
open Go.RowKit
open Go.Proofs.Ytpbgckpjgfjmgaa.fi

theorem Does.same {w w' : World} {X : Nat → Prop} {D : Nat → Option FS} {d : Nat} {s : FS} {v : Value} (hS : Sys w X D) (hd : D d = some s) (hb : Below w.heap.size w w') : Does X (upd D d s) v w (.returned v) w' :=
  ⟨rfl, by rw [upd_self hd]; exact (hS.below hb).more fun i hi => ext_old hi, Only.of_below hb⟩
theorem Does.pre {w w0 w' : World} {X : Nat → Prop} {D : Nat → Option FS} {v : Value} {e : Ending} (hb : Below w.heap.size w w0) (h : Does (ext X w w0) D v w0 e w') : Does X D v w e w' := by
  refine ⟨h.1, h.2.1.more fun i hi => ext_ext hb.size h.2.2.size hi, ?_⟩
  refine Only.trans (Only.of_below hb) h.2.2 fun i hi hx => ?_
  rcases hx with hx | ⟨hx, _⟩
  · exact hx
  · omega
theorem find_no2 (w : World) (X : Nat → Prop) (D : Nat → Option FS) (d : Nat) (s : FS) (hS : Sys w X D) (hd : D d = some s) (n : Nm) (hl : s.look n ≠ 0) :
    Calls Try.prog 28 #[.pointer (some ⟨d, 0, none⟩), .string (str n)] w (Asks (.tuple #[.pointer none, .int .i64 (s.look n)]) w) := by
  obtain ⟨TT, role, ga, h1, h2⟩ := hS
  obtain ⟨nb, sb, v, h⟩ := h2 d s hd
  exact find_no w X TT role ga d s nb sb v h1 h n hl
theorem find_yes2 (w : World) (X : Nat → Prop) (D : Nat → Option FS) (d : Nat) (s : FS) (hS : Sys w X D) (hd : D d = some s) (n : Nm) (hl : s.look n = 0) :
    Calls Try.prog 28 #[.pointer (some ⟨d, 0, none⟩), .string (str n)] w fun e w' => ∃ p, e = .returned (.tuple #[.pointer (some ⟨p, 0, none⟩), .int .i64 0]) ∧ Below w.heap.size w w' ∧ Found n s w p := by
  obtain ⟨TT, role, ga, h1, h2⟩ := hS
  obtain ⟨nb, sb, v, h⟩ := h2 d s hd
  exact find_yes w X TT role ga d s nb sb v h1 h n hl
/-- The table of the files as they are. -/
theorem Sys.nowTab {w : World} {X : Nat → Prop} {D : Nat → Option FS} {d : Nat} {s : FS} (hS : Sys w X D) (hd : D d = some s) : ∃ room nb sb v L, BlkD w d room nb sb v ∧ Tab w nb L ∧ L.length = s.now.length := by
  obtain ⟨TT, role, ga, h1, h2⟩ := hS
  obtain ⟨nb, sb, v, h⟩ := h2 d s hd
  obtain ⟨G, hG⟩ := h1
  exact ⟨_, nb, sb, v, G.tab nb, h.blk, hG.tab h.now, hG.len h.now⟩
theorem BoxS.free {w : World} {b : Nat} {l : List UInt8} (h : BoxS w b l) : w.frozen? ⟨b, 0, none⟩ = false := free_of_one h
theorem BoxS.set_ {w : World} {b : Nat} {l : List UInt8} (h : BoxS w b l) (l' : List UInt8) : BoxS (w.setCell ⟨b, 0, none⟩ (.string (str l'))) b l' := one_setCell h
theorem BoxS.far {w : World} {b : Nat} {l : List UInt8} (h : BoxS w b l) {p : Addr} (hp : b ≠ p.block) (u : Value) : BoxS (w.setCell p u) b l := (Below.heap_setCell w p u b hp).trans h
theorem ext_new {X : Nat → Prop} {w w' : World} {i : Nat} (h1 : w.heap.size ≤ i) (h2 : i < w'.heap.size) : ext X w w' i := .inr ⟨h1, h2⟩
theorem BoxS.below {w w' : World} {b : Nat} {l : List UInt8} (h : BoxS w b l) (hb : Below w.heap.size w w') : BoxS w' b l := (hb.block b (lt_of_block h)).trans h
theorem BoxI.below {w w' : World} {b : Nat} {n : Int} (h : BoxI w b n) (hb : Below w.heap.size w w') : BoxI w' b n := (hb.block b (lt_of_block h)).trans h
theorem now_len {s : FS} (hok : s.Ok) (hwt : s.wt ≤ 1099511627776) : s.now.length < maxLen := by
  have h1 := wt_len s.now
  have h2 := hok.wt_now
  unfold maxLen
  omega
theorem len_max {n : Nm} (h : n.length ≤ 32) : n.length ≤ maxLen := by unfold maxLen; omega

theorem perform_make (w w3 : World) (X : Nat → Prop) (D : Nat → Option FS) (d : Nat) (s : FS) (hS : Sys w X D) (hd : D d = some s) (hwt : s.wt ≤ 1099511627776) (hb : Below w.heap.size w w3) (bn : Nat) (n : Nm) (hx : BoxS w3 bn n) (hnew : w.heap.size ≤ bn) (hn : n.length ≤ 32) :
    Calls Try.prog 30 #[.pointer (some ⟨d, 0, none⟩), .agg #[.func (.func 31) #[] #[.pointer (some ⟨bn, 0, none⟩)], .nilFunc]] w3 (Does X (upd D d (s.done (.make n))) (.int .i64 0) w) :=
  (perform1_any _ _ .nilFunc (fun _ _ => by kernel_rfl) rfl w3 (ext X w w3) D d s ((hS.below hb).more fun i hi => ext_old hi) hd (.make n) trivial ⟨hn, bn, rfl, hx, ext_new hnew (lt_of_block hx)⟩ hwt
    fun TT b W h1 h2 h3 => make1_any W _ TT b s.now h1 h2 bn n (hx.below h3) (len_max hn) (now_len (hS.ok hd) hwt)).mono fun e w' h => h.pre hb
theorem perform_rem (w w3 : World) (X : Nat → Prop) (D : Nat → Option FS) (d : Nat) (s : FS) (hS : Sys w X D) (hd : D d = some s) (hwt : s.wt ≤ 1099511627776) (hb : Below w.heap.size w w3) (bn : Nat) (n : Nm) (hx : BoxS w3 bn n) (hnew : w.heap.size ≤ bn) (hn : n.length ≤ 32) :
    Calls Try.prog 30 #[.pointer (some ⟨d, 0, none⟩), .agg #[.func (.func 69) #[] #[.pointer (some ⟨bn, 0, none⟩)], .nilFunc]] w3 (Does X (upd D d (s.done (.rem n))) (.int .i64 0) w) :=
  (perform1_any _ _ .nilFunc (fun _ _ => by kernel_rfl) rfl w3 (ext X w w3) D d s ((hS.below hb).more fun i hi => ext_old hi) hd (.rem n) trivial ⟨hn, bn, rfl, hx, ext_new hnew (lt_of_block hx)⟩ hwt
    fun TT b W h1 h2 h3 => remove1_any W _ TT b s.now h1 h2 bn n (hx.below h3) (len_max hn)).mono fun e w' h => h.pre hb
theorem perform_ren (w w3 : World) (X : Nat → Prop) (D : Nat → Option FS) (d : Nat) (s : FS) (hS : Sys w X D) (hd : D d = some s) (hwt : s.wt ≤ 1099511627776) (hb : Below w.heap.size w w3) (bn bm : Nat) (n m : Nm) (hx : BoxS w3 bn n) (hnew : w.heap.size ≤ bn) (hn : n.length ≤ 32) (hx2 : BoxS w3 bm m) (hnew2 : w.heap.size ≤ bm) (hm : m.length ≤ 32) :
    Calls Try.prog 30 #[.pointer (some ⟨d, 0, none⟩), .agg #[.func (.func 63) #[] #[.pointer (some ⟨bn, 0, none⟩), .pointer (some ⟨bm, 0, none⟩)], .nilFunc]] w3 (Does X (upd D d (s.done (.ren n m))) (.int .i64 0) w) :=
  (perform2_any _ _ _ .nilFunc (fun _ _ => by kernel_rfl) rfl w3 (ext X w w3) D d s ((hS.below hb).more fun i hi => ext_old hi) hd (.ren n m) trivial ⟨hn, hm, bn, bm, rfl, hx, hx2, ext_new hnew (lt_of_block hx), ext_new hnew2 (lt_of_block hx2)⟩ hwt
    fun TT b W h1 h2 h3 => rename1_any W _ TT b s.now h1 h2 bn bm n m (hx.below h3) (hx2.below h3) (len_max hn) (len_max hm) (now_len (hS.ok hd) hwt)).mono fun e w' h => h.pre hb
theorem perform_app (w w3 : World) (X : Nat → Prop) (D : Nat → Option FS) (d : Nat) (s : FS) (hS : Sys w X D) (hd : D d = some s) (hwt : s.wt ≤ 549755813888) (hb : Below w.heap.size w w3) (bn bm : Nat) (n : Nm) (t : List UInt8) (hx : BoxS w3 bn n) (hnew : w.heap.size ≤ bn) (hn : n.length ≤ 32) (hx2 : BoxS w3 bm t) (hnew2 : w.heap.size ≤ bm) (ht : t.length ≤ 549755813888) :
    Calls Try.prog 30 #[.pointer (some ⟨d, 0, none⟩), .agg #[.func (.func 33) #[] #[.pointer (some ⟨bn, 0, none⟩), .pointer (some ⟨bm, 0, none⟩)], .func (.func 36) #[] #[.pointer (some ⟨bn, 0, none⟩), .pointer (some ⟨bm, 0, none⟩)]]] w3 (Does X (upd D d (s.done (.app n t))) (.int .i64 0) w) :=
  (perform2_any _ _ _ _ (fun _ _ => by kernel_rfl) rfl w3 (ext X w w3) D d s ((hS.below hb).more fun i hi => ext_old hi) hd (.app n t) trivial ⟨hn, bn, bm, rfl, hx, hx2, ext_new hnew (lt_of_block hx), ext_new hnew2 (lt_of_block hx2)⟩ (by omega)
    fun TT b W h1 h2 h3 => app1_any W _ TT b s.now h1 h2 bn bm n t (hx.below h3) (hx2.below h3) (len_max hn) (by have := (hS.ok hd).wt_now; omega)).mono fun e w' h => h.pre hb
set_option maxHeartbeats 8000000 in
set_option maxRecDepth 100000 in
theorem make_any (w : World) (X : Nat → Prop) (D : Nat → Option FS) (d : Nat) (s : FS) (hS : Sys w X D) (hd : D d = some s) (hwt : s.wt ≤ 1099511627776) (n : Nm) (hn : n.length ≤ 281474976710656) :
    Calls Try.prog 13 #[.pointer (some ⟨d, 0, none⟩), .string (str n)] w (Does X (upd D d (s.make n).2) (.int .i64 (s.make n).1) w) := by
  have hbel : Below w.heap.size w (w.alloc (.cells #[.string (str n)] 9)) := (Below.refl _ w).alloc (Nat.le_refl _) _
  have hbx : BoxS (w.alloc (.cells #[.string (str n)] 9)) w.heap.size n := heap_alloc_new w _
  have b0 := cell_of_one hbx
  have hS0 := hS.below hbel
  have HS := Lib.hid hS
  have HB := Lib.hid hbel
  have HX := Lib.hid hbx
  rcases look_cases s n with hl | hl | hl
  · have he : s.make n = (8, s) := by unfold FS.make; rw [if_pos hl]
    rw [he]
    have HF := Lib.hid (find_yes2 _ X D d s hS0 hd n hl)
    have HD := Lib.hid hd
    clear hS hS0 hbel hbx hl he hd
    go_enter Try.func13, Try.ntmps13
    go_wp2_with (go_at_call 28; ((with_reducible refine HF.out.mono ?_); rintro e w1 ⟨p, rfl, hb1, _⟩))
    go_ret
    exact Does.same HS.out HD.out (HB.out.trans (hb1.mono HB.out.size))
  · have he : s.make n = (2, s) := by unfold FS.make; rw [if_neg (by rw [hl]; decide), if_pos (by rw [hl]; decide), hl]
    rw [he]
    have hfn := find_no2 _ X D d s hS0 hd n (by rw [hl]; decide)
    rw [hl] at hfn
    have HF := Lib.hid hfn
    have HD := Lib.hid hd
    clear hS hS0 hbel hbx hl he hd hfn
    go_enter Try.func13, Try.ntmps13
    go_wp2_with (go_at_call 28; ((with_reducible refine HF.out.mono ?_); rintro e w1 ⟨rfl, hb1⟩))
    go_ret
    exact Does.same HS.out HD.out (HB.out.trans (hb1.mono HB.out.size))
  · have hfn := find_no2 _ X D d s hS0 hd n (by rw [hl]; decide)
    rw [hl] at hfn
    have HF := Lib.hid hfn
    have HD := Lib.hid hd
    obtain ⟨room, nb, sb, v, L, hk, ht, hL⟩ := hS0.nowTab hd
    have HK := Lib.hid hk
    have HT := Lib.hid ht
    have hLw : L.length ≤ 1099511627776 := by have h1 := wt_len s.now; have h2 := (hS.ok hd).wt_now; omega
    by_cases h16 : 16 ≤ s.now.length
    · have he : s.make n = (6, s) := by unfold FS.make; rw [if_neg (by rw [hl]; decide), if_neg (by rw [hl]; decide), if_pos h16]
      rw [he]
      have h16' : (16 : Int) ≤ (L.length : Int) := by omega
      clear hS hS0 hbel hbx hl he hd hfn hk ht h16 hL
      go_enter Try.func13, Try.ntmps13
      go_wp2_with (first
        | (go_at_call 28; ((with_reducible refine HF.out.mono ?_); rintro e w1 ⟨rfl, hb1⟩; obtain ⟨c0, c1, c2, c3, c4⟩ := (show BlkD w1 d room nb sb v from (hb1.block d (lt_of_block HK.out)).trans HK.out).cells; have ht1 : Tab w1 nb L := HT.out.kept (hb1.block nb HT.out.exact.lt); have HB1 := Lib.hid hb1; clear hb1))
        | (at_len; refine wpList_len_own _ rfl _ 52 rfl 9 70 Try.underlying52 _ nb _ _ rfl ht1.exact ?_; rw [dat_size]))
      go_ret
      exact Does.same HS.out HD.out (HB.out.trans (HB1.out.mono HB.out.size))
    · have he : s.make n = (0, s.done (.make n)) := by unfold FS.make; rw [if_neg (by rw [hl]; decide), if_neg (by rw [hl]; decide), if_neg h16]
      rw [he]
      have h16' : ¬ (16 : Int) ≤ (L.length : Int) := by omega
      have hv := valid_len (look_seven hl)
      have hnz : (str n).size ≤ 281474976710656 := by rw [str_size]; exact hn
      clear hS hS0 hbel hbx hl he hd hfn hk ht h16 hL
      go_enter Try.func13, Try.ntmps13
      go_wp2_with (first
        | (go_at_call 28; ((with_reducible refine HF.out.mono ?_); rintro e w1 ⟨rfl, hb1⟩; obtain ⟨c0, c1, c2, c3, c4⟩ := (show BlkD w1 d room nb sb v from (hb1.block d (lt_of_block HK.out)).trans HK.out).cells; have ht1 : Tab w1 nb L := HT.out.kept (hb1.block nb HT.out.exact.lt); have hx1 := HX.out.below hb1; have b1 := cell_of_one hx1; have HX1 := Lib.hid hx1; have HB1 := Lib.hid hb1; clear hb1 hx1))
        | (at_len; refine wpList_len_own _ rfl _ 52 rfl 9 70 Try.underlying52 _ nb _ _ rfl ht1.exact ?_; rw [dat_size])
        | (go_at_call 29; ((with_reducible refine (clone_any (str n) _ hnz).mono ?_); rintro e w2 ⟨rfl, hb2⟩; have hx2 := HX1.out.below hb2; have b2 := cell_of_one hx2; have b3 := hx2.free; have h3 : Below w.heap.size w (w2.setCell ⟨w.heap.size, 0, none⟩ (.string (str n))) := ((HB.out.trans (HB1.out.mono HB.out.size)).trans (hb2.mono (Nat.le_trans HB.out.size HB1.out.size))).setCell (Nat.le_refl _) _; have HP := Lib.hid (perform_make w _ X D d s HS.out HD.out hwt h3 w.heap.size n (hx2.set_ n) (Nat.le_refl _) hv); clear hb2 hx2 h3))
        | (go_at_call 30; ((with_reducible refine HP.out.mono ?_); rintro e w4 ⟨rfl, h4, h5⟩; have H4 := Lib.hid h4; have H5 := Lib.hid h5; clear h4 h5)))
      go_ret
      exact ⟨rfl, H4.out, H5.out⟩
end Go.Proofs.Ytpbgckpjgfjmgaa.gn
