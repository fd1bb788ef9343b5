/- The contract of the statements' own add: the bytes with an item behind them, and the document's bytes of that item. -/
import Derived.Test.YtjfachkonnfldaaPackG
import Derived.Deep.RegionHeld3
import Derived.Handy
set_option linter.unusedVariables false
namespace Go.Proofs.Ytjfachkonnfldaa
open Go.RowKit

theorem bcell' {W w1 : World} (hb : Below W.heap.size W w1) : ∀ b o, b < W.heap.size → w1.cell? ⟨b, o, none⟩ = W.cell? ⟨b, o, none⟩ :=
  fun b o h => hb.cell (p := ⟨b, o, none⟩) h

/-- The document's bytes of an item. -/
def itemEnc (what n : Nat) (s : ByteArray) : List UInt8 :=
  if what % 4 = 0 then Lib.uvarint n else if what % 4 = 1 then Lib.uvarint (Lib.zigzag (IntKind.i64.wrap n)) else if what % 4 = 2 then txt s else flg ((n : Int).tmod 2 == 1)

theorem wrap64_bd (n : Nat) : -9223372036854775808 ≤ IntKind.i64.wrap (n : Int) ∧ IntKind.i64.wrap (n : Int) < 9223372036854775808 := by rw [IntKind.wrap_i64]; omega

theorem Bs_alloc {w : World} {B : Nat} {v : Value} {l : List UInt8} (h : Bs w B v l) (o : Obj) : Bs (w.alloc o) B v l := World.ownsRow.alloc h o
theorem Bs_drew {w : World} {B : Nat} {v : Value} {l : List UInt8} (h : Bs w B v l) : Bs w.drew B v l := h
theorem Bs_base {w : World} {B C : Nat} {v : Value} {l : List UInt8} (h : Bs w B v l) (hC : C ≤ B) : Bs w C v l := by
  refine ⟨h.1, ?_⟩
  rcases h.2 with hn | ⟨g, cap, cur, rfl, hb, rest⟩
  · exact .inl hn
  · exact .inr ⟨g, cap, cur, rfl, Nat.le_trans hC hb, rest⟩

def AddPost (bs en : List UInt8) (w : World) (e : Ending) (w' : World) : Prop :=
  ∃ v', e = .returned (.tuple #[v', .string (str en)]) ∧ Bs w' w.heap.size v' (bs ++ en) ∧ Below w.heap.size w w'

theorem add_close {bs en : List UInt8} {w X w1 w2 : World} {v1 : Value} (hX : Below w.heap.size w X) (hB : Bs w1 X.heap.size v1 (bs ++ en)) (h1 : Below X.heap.size X w1) (h2 : Below w1.heap.size w1 w2) :
    AddPost bs en w (.returned (.tuple #[v1, .string (str en)])) w2 :=
  ⟨v1, rfl, Bs_base (Below.bs h2 hB (fun k hk => (World.ownsRow.lt hB k hk).2)) hX.size, (hX.trans (h1.mono hX.size)).trans (h2.mono (Nat.le_trans hX.size h1.size))⟩

theorem txt_le (x : ByteArray) (h : x.size ≤ 300 := by assumption) : (txt x).length ≤ x.size + 10 := by
  have h1 := Lib.uvarint_length64 (x := x.size) (by omega)
  have el : x.data.toList.length = x.size := by rw [Array.length_toList]; rfl
  unfold txt
  rw [List.length_append, el]
  omega

theorem itemNum (bs : List UInt8) (x : Nat) (b0 : Nat) (bv : Value) (bl : Nat) (hx : x < 18446744073709551616) (hlim : bs.length ≤ 1000000) (w : World) (hs : Bs w b0 bv bs) (hc : w.cell? ⟨bl, 0, none⟩ = some (.int .u64 (x : Int))) :
    Calls Try.prog 16 #[bv, .slice (some ⟨bl, 0, none⟩) 1 1] w fun e w' => ∃ v', e = .returned v' ∧ Bs w' w.heap.size v' (bs ++ Lib.uvarint x) ∧ Below w.heap.size w w' := by
  have h := packNum_any bs [x] (by intro y hy; simp at hy; subst hy; exact hx) b0 bv bl 0 1 w hs (by
    intro j y hy
    match j, hy with
    | 0, hy => simp at hy; subst hy; exact hc
    | j + 1, hy => simp at hy) (World.block_lt_of_cell? w _ hc) (by have := Lib.uvarint_length64 hx; simp; omega)
  simpa using h

set_option maxHeartbeats 1600000 in
set_option maxRecDepth 100000 in
theorem add0 (bs : List UInt8) (b0 : Nat) (bv : Value) (what n : Nat) (s : ByteArray) (hw : what < 256) (hk : what % 4 = 0) (hn : n < 18446744073709551616) (hsz : s.size ≤ 300) (hlim : bs.length ≤ 1000000) (w : World) (hs : Bs w b0 bv bs) :
    Calls Try.prog 7 #[bv, .agg #[.int .u8 (what : Int), .int .u64 (n : Int), .string s]] w (AddPost bs (itemEnc what n s) w) := by
  have he : itemEnc what n s = Lib.uvarint n := by unfold itemEnc; rw [if_pos hk]
  rw [he]
  have t0 : ((what : Int) % 4 == 0) = true := beq_iff_eq.2 (by omega)
  have t1 : ((what : Int) % 4 == 1) = false := beq_eq_false_iff_ne.2 (by omega)
  have t2 : ((what : Int) % 4 == 2) = false := beq_eq_false_iff_ne.2 (by omega)
  have HS := Lib.hid hs
  have HL := Lib.hid (hn)
  clear hs hk he
  go_enter Try.func7, Try.ntmps7
  go_wp2_with fail
  obtain ⟨W, hW⟩ : ∃ W, W = w.alloc (.cells #[.int .u8 (what : Int), .int .u64 (n : Int), .string s] 27) := ⟨_, rfl⟩
  have hc1 : W.cell? ⟨w.heap.size, 1, none⟩ = some (.int .u64 (n : Int)) := by rw [hW, World.cell?_alloc_at _ _ _ _ rfl]; rfl
  have hz : w.heap.size < W.heap.size := by rw [hW]; simp
  have hbW : Below w.heap.size w W := by rw [hW]; exact (Below.refl _ _).alloc (Nat.le_refl _) _
  have HSW : Hid (Bs W b0 bv bs) := by rw [hW]; exact Bs_alloc HS.out _
  have HBW := Lib.hid hbW
  rw [← hW]
  clear hW hbW HS
  go_region_held3 (fun w' => w'.cell? ⟨w.heap.size, 1, none⟩ = some (.int .u64 (n : Int))) (go_keep) (first
    | (go_at_call 16; refine (itemNum bs n b0 bv _ HL.out hlim _ ?_ ?_).mono ?_; (focus (repeat (first | exact HSW.out | apply Bs_alloc | apply Bs_drew))); (focus (first | (go_cell; done) | (simp; done))); rintro e w1 ⟨v1, rfl, hB1, hb1⟩; have hS1 : w1.cell? ⟨w.heap.size, 1, none⟩ = some (.int .u64 (n : Int)) := by { rw [bcell' hb1 _ _ (by simp; omega)]; (first | (go_cell; done) | (simp [hc1]; done)) }; have hz1 : w.heap.size < w1.heap.size := by { have := hb1.size; simp at this; omega })
    | (go_at_call 18; refine (refNum_any n HL.out _).mono ?_; rintro e w2 ⟨rfl, hb2⟩; have hS2 : w2.cell? ⟨w.heap.size, 1, none⟩ = some (.int .u64 (n : Int)) := by { rw [bcell' hb2 _ _ (by first | exact hz1 | (simp; omega))]; exact hS1 }))
  all_goals go_wp2_with fail
  all_goals go_ret2
  all_goals exact add_close ((HBW.out.alloc (Nat.le_of_lt hz) _).drew) hB1 hb1 hb2

theorem itemInt (bs : List UInt8) (x : Int) (b0 : Nat) (bv : Value) (bl : Nat) (hx : -9223372036854775808 ≤ x ∧ x < 9223372036854775808) (hlim : bs.length ≤ 1000000) (w : World) (hs : Bs w b0 bv bs) (hc : w.cell? ⟨bl, 0, none⟩ = some (.int .i64 x)) :
    Calls Try.prog 17 #[bv, .slice (some ⟨bl, 0, none⟩) 1 1] w fun e w' => ∃ v', e = .returned v' ∧ Bs w' w.heap.size v' (bs ++ Lib.uvarint (Lib.zigzag x)) ∧ Below w.heap.size w w' := by
  have h := packInt_any bs [x] (by intro y hy; simp at hy; subst hy; exact hx) b0 bv bl 0 1 w hs (by
    intro j y hy
    match j, hy with
    | 0, hy => simp at hy; subst hy; exact hc
    | j + 1, hy => simp at hy) (World.block_lt_of_cell? w _ hc) (by have := zig_len x hx.1 hx.2; simp; omega)
  simpa using h

set_option maxHeartbeats 1600000 in
set_option maxRecDepth 100000 in
theorem add1 (bs : List UInt8) (b0 : Nat) (bv : Value) (what n : Nat) (s : ByteArray) (hw : what < 256) (hk : what % 4 = 1) (hn : n < 18446744073709551616) (hsz : s.size ≤ 300) (hlim : bs.length ≤ 1000000) (w : World) (hs : Bs w b0 bv bs) :
    Calls Try.prog 7 #[bv, .agg #[.int .u8 (what : Int), .int .u64 (n : Int), .string s]] w (AddPost bs (itemEnc what n s) w) := by
  have he : itemEnc what n s = Lib.uvarint (Lib.zigzag (IntKind.i64.wrap n)) := by unfold itemEnc; rw [if_neg (by omega), if_pos hk]
  rw [he]
  have t0 : ((what : Int) % 4 == 0) = false := beq_eq_false_iff_ne.2 (by omega)
  have t1 : ((what : Int) % 4 == 1) = true := beq_iff_eq.2 (by omega)
  have t2 : ((what : Int) % 4 == 2) = false := beq_eq_false_iff_ne.2 (by omega)
  have HS := Lib.hid hs
  have HL := Lib.hid (wrap64_bd n)
  clear hs hk he
  go_enter Try.func7, Try.ntmps7
  go_wp2_with fail
  obtain ⟨W, hW⟩ : ∃ W, W = w.alloc (.cells #[.int .u8 (what : Int), .int .u64 (n : Int), .string s] 27) := ⟨_, rfl⟩
  have hc1 : W.cell? ⟨w.heap.size, 1, none⟩ = some (.int .u64 (n : Int)) := by rw [hW, World.cell?_alloc_at _ _ _ _ rfl]; rfl
  have hz : w.heap.size < W.heap.size := by rw [hW]; simp
  have hbW : Below w.heap.size w W := by rw [hW]; exact (Below.refl _ _).alloc (Nat.le_refl _) _
  have HSW : Hid (Bs W b0 bv bs) := by rw [hW]; exact Bs_alloc HS.out _
  have HBW := Lib.hid hbW
  rw [← hW]
  clear hW hbW HS
  go_region_held3 (fun w' => w'.cell? ⟨w.heap.size, 1, none⟩ = some (.int .u64 (n : Int))) (go_keep) (first
    | (go_at_call 17; refine (itemInt bs (IntKind.i64.wrap (n : Int)) b0 bv _ HL.out hlim _ ?_ ?_).mono ?_; (focus (repeat (first | exact HSW.out | apply Bs_alloc | apply Bs_drew))); (focus (first | (go_cell; done) | (simp; done))); rintro e w1 ⟨v1, rfl, hB1, hb1⟩; have hS1 : w1.cell? ⟨w.heap.size, 1, none⟩ = some (.int .u64 (n : Int)) := by { rw [bcell' hb1 _ _ (by simp; omega)]; (first | (go_cell; done) | (simp [hc1]; done)) }; have hz1 : w.heap.size < w1.heap.size := by { have := hb1.size; simp at this; omega })
    | (go_at_call 19; refine (refInt_any (IntKind.i64.wrap (n : Int)) HL.out.1 HL.out.2 _).mono ?_; rintro e w2 ⟨rfl, hb2⟩; have hS2 : w2.cell? ⟨w.heap.size, 1, none⟩ = some (.int .u64 (n : Int)) := by { rw [bcell' hb2 _ _ (by first | exact hz1 | (simp; omega))]; exact hS1 }))
  all_goals go_wp2_with fail
  all_goals go_ret2
  all_goals exact add_close ((HBW.out.alloc (Nat.le_of_lt hz) _).drew) hB1 hb1 hb2

theorem itemText (bs : List UInt8) (x : ByteArray) (b0 : Nat) (bv : Value) (bl : Nat) (hx : x.size ≤ 300) (hlim : bs.length ≤ 1000000) (w : World) (hs : Bs w b0 bv bs) (hc : w.cell? ⟨bl, 0, none⟩ = some (.string x)) :
    Calls Try.prog 20 #[bv, .slice (some ⟨bl, 0, none⟩) 1 1] w fun e w' => ∃ v', e = .returned v' ∧ Bs w' w.heap.size v' (bs ++ txt x) ∧ Below w.heap.size w w' := by
  have h := packText_any bs [x] (by intro y hy; simp at hy; subst hy; unfold maxLen; omega) b0 bv bl 0 1 w hs (by
    intro j y hy
    match j, hy with
    | 0, hy => simp at hy; subst hy; exact hc
    | j + 1, hy => simp at hy) (World.block_lt_of_cell? w _ hc) (by have h1 := txt_le x; simp; omega)
  simpa using h

set_option maxHeartbeats 1600000 in
set_option maxRecDepth 100000 in
theorem add2 (bs : List UInt8) (b0 : Nat) (bv : Value) (what n : Nat) (s : ByteArray) (hw : what < 256) (hk : what % 4 = 2) (hn : n < 18446744073709551616) (hsz : s.size ≤ 300) (hlim : bs.length ≤ 1000000) (w : World) (hs : Bs w b0 bv bs) :
    Calls Try.prog 7 #[bv, .agg #[.int .u8 (what : Int), .int .u64 (n : Int), .string s]] w (AddPost bs (itemEnc what n s) w) := by
  have he : itemEnc what n s = txt s := by unfold itemEnc; rw [if_neg (by omega), if_neg (by omega), if_pos hk]
  rw [he]
  have t0 : ((what : Int) % 4 == 0) = false := beq_eq_false_iff_ne.2 (by omega)
  have t1 : ((what : Int) % 4 == 1) = false := beq_eq_false_iff_ne.2 (by omega)
  have t2 : ((what : Int) % 4 == 2) = true := beq_iff_eq.2 (by omega)
  have HS := Lib.hid hs
  have HL := Lib.hid (hsz)
  clear hs hk he
  go_enter Try.func7, Try.ntmps7
  go_wp2_with fail
  obtain ⟨W, hW⟩ : ∃ W, W = w.alloc (.cells #[.int .u8 (what : Int), .int .u64 (n : Int), .string s] 27) := ⟨_, rfl⟩
  have hc1 : W.cell? ⟨w.heap.size, 2, none⟩ = some (.string s) := by rw [hW, World.cell?_alloc_at _ _ _ _ rfl]; rfl
  have hz : w.heap.size < W.heap.size := by rw [hW]; simp
  have hbW : Below w.heap.size w W := by rw [hW]; exact (Below.refl _ _).alloc (Nat.le_refl _) _
  have HSW : Hid (Bs W b0 bv bs) := by rw [hW]; exact Bs_alloc HS.out _
  have HBW := Lib.hid hbW
  rw [← hW]
  clear hW hbW HS
  go_region_held3 (fun w' => w'.cell? ⟨w.heap.size, 2, none⟩ = some (.string s)) (go_keep) (first
    | (go_at_call 20; refine (itemText bs s b0 bv _ HL.out hlim _ ?_ ?_).mono ?_; (focus (repeat (first | exact HSW.out | apply Bs_alloc | apply Bs_drew))); (focus (first | (go_cell; done) | (simp; done))); rintro e w1 ⟨v1, rfl, hB1, hb1⟩; have hS1 : w1.cell? ⟨w.heap.size, 2, none⟩ = some (.string s) := by { rw [bcell' hb1 _ _ (by simp; omega)]; (first | (go_cell; done) | (simp [hc1]; done)) }; have hz1 : w.heap.size < w1.heap.size := by { have := hb1.size; simp at this; omega })
    | (go_at_call 21; refine (refText_any s (Nat.le_trans HL.out (by decide)) _).mono ?_; rintro e w2 ⟨rfl, hb2⟩; have hS2 : w2.cell? ⟨w.heap.size, 2, none⟩ = some (.string s) := by { rw [bcell' hb2 _ _ (by first | exact hz1 | (simp; omega))]; exact hS1 }))
  all_goals go_wp2_with fail
  all_goals go_ret2
  all_goals exact add_close ((HBW.out.alloc (Nat.le_of_lt hz) _).drew) hB1 hb1 hb2

theorem itemFlag (bs : List UInt8) (x : Bool) (b0 : Nat) (bv : Value) (bl : Nat) (hx : True) (hlim : bs.length ≤ 1000000) (w : World) (hs : Bs w b0 bv bs) (hc : w.cell? ⟨bl, 0, none⟩ = some (.bool x)) :
    Calls Try.prog 22 #[bv, .slice (some ⟨bl, 0, none⟩) 1 1] w fun e w' => ∃ v', e = .returned v' ∧ Bs w' w.heap.size v' (bs ++ flg x) ∧ Below w.heap.size w w' := by
  have h := packFlag_any bs [x] (by intro y hy; simp at hy; subst hy; trivial) b0 bv bl 0 1 w hs (by
    intro j y hy
    match j, hy with
    | 0, hy => simp at hy; subst hy; exact hc
    | j + 1, hy => simp at hy) (World.block_lt_of_cell? w _ hc) (by simp [flg]; omega)
  simpa using h

set_option maxHeartbeats 1600000 in
set_option maxRecDepth 100000 in
theorem add3 (bs : List UInt8) (b0 : Nat) (bv : Value) (what n : Nat) (s : ByteArray) (hw : what < 256) (hk : what % 4 = 3) (hn : n < 18446744073709551616) (hsz : s.size ≤ 300) (hlim : bs.length ≤ 1000000) (w : World) (hs : Bs w b0 bv bs) :
    Calls Try.prog 7 #[bv, .agg #[.int .u8 (what : Int), .int .u64 (n : Int), .string s]] w (AddPost bs (itemEnc what n s) w) := by
  have he : itemEnc what n s = flg ((n : Int).tmod 2 == 1) := by unfold itemEnc; rw [if_neg (by omega), if_neg (by omega), if_neg (by omega)]
  rw [he]
  have t0 : ((what : Int) % 4 == 0) = false := beq_eq_false_iff_ne.2 (by omega)
  have t1 : ((what : Int) % 4 == 1) = false := beq_eq_false_iff_ne.2 (by omega)
  have t2 : ((what : Int) % 4 == 2) = false := beq_eq_false_iff_ne.2 (by omega)
  have HS := Lib.hid hs
  have HL := Lib.hid (True.intro)
  clear hs hk he
  go_enter Try.func7, Try.ntmps7
  go_wp2_with fail
  obtain ⟨W, hW⟩ : ∃ W, W = w.alloc (.cells #[.int .u8 (what : Int), .int .u64 (n : Int), .string s] 27) := ⟨_, rfl⟩
  have hc1 : W.cell? ⟨w.heap.size, 1, none⟩ = some (.int .u64 (n : Int)) := by rw [hW, World.cell?_alloc_at _ _ _ _ rfl]; rfl
  have hz : w.heap.size < W.heap.size := by rw [hW]; simp
  have hbW : Below w.heap.size w W := by rw [hW]; exact (Below.refl _ _).alloc (Nat.le_refl _) _
  have HSW : Hid (Bs W b0 bv bs) := by rw [hW]; exact Bs_alloc HS.out _
  have HBW := Lib.hid hbW
  rw [← hW]
  clear hW hbW HS
  go_region_held3 (fun w' => w'.cell? ⟨w.heap.size, 1, none⟩ = some (.int .u64 (n : Int))) (go_keep) (first
    | (go_at_call 22; refine (itemFlag bs ((n : Int).tmod 2 == 1) b0 bv _ HL.out hlim _ ?_ ?_).mono ?_; (focus (repeat (first | exact HSW.out | apply Bs_alloc | apply Bs_drew))); (focus (first | (go_cell; done) | (simp; done))); rintro e w1 ⟨v1, rfl, hB1, hb1⟩; have hS1 : w1.cell? ⟨w.heap.size, 1, none⟩ = some (.int .u64 (n : Int)) := by { rw [bcell' hb1 _ _ (by simp; omega)]; (first | (go_cell; done) | (simp [hc1]; done)) }; have hz1 : w.heap.size < w1.heap.size := by { have := hb1.size; simp at this; omega })
    | (go_at_call 23; refine (refFlag_any ((n : Int).tmod 2 == 1) _).mono ?_; rintro e w2 ⟨rfl, hb2⟩; have hS2 : w2.cell? ⟨w.heap.size, 1, none⟩ = some (.int .u64 (n : Int)) := by { rw [bcell' hb2 _ _ (by first | exact hz1 | (simp; omega))]; exact hS1 }))
  all_goals go_wp2_with fail
  all_goals go_ret2
  all_goals exact add_close ((HBW.out.alloc (Nat.le_of_lt hz) _).drew) hB1 hb1 hb2

end Go.Proofs.Ytjfachkonnfldaa
