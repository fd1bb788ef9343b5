/- The contracts of Part and Put. -/
import Derived.Test.YtmaohncddjhgeaaGreatMSnA
import Derived.Test.YtmaohncddjhgeaaGreatMFrP
section
set_option linter.unusedVariables false
set_option linter.unusedSectionVars false
namespace Go.Proofs.YtmaohncddjhgeaaGreat.fi
open Go.Proofs.YtmaohncddjhgeaaGreat.gn (frame frame_len)
theorem take_drop_step {α : Type} {l : List α} {m i : Nat} {f : α} (h : i < m) (hl : l[i]? = some f) : (l.take m).drop i = f :: (l.take m).drop (i + 1) := by
  have hlt : i < l.length := (List.getElem?_eq_some_iff.1 hl).1
  have h2 : i < (l.take m).length := by rw [List.length_take]; omega
  rw [List.drop_eq_getElem_cons h2, List.getElem_take]
  rw [(List.getElem?_eq_some_iff.1 hl).2]
/-- What a Part answers. -/
def FS.snapD (s : FS) (n : Nm) (b : List UInt8) (k : Nat) : Bool := decide ((s.snap n b k).1 = 0) && decide (5 ≤ k)
end Go.Proofs.YtmaohncddjhgeaaGreat.fi

namespace Go.Proofs.YtmaohncddjhgeaaGreat.gn
open Go.RowKit
open Go.Proofs.YtmaohncddjhgeaaGreat.fi

set_option maxRecDepth 100000
set_option maxHeartbeats 2000000

/-- What the steps before the k-th can add to a directory's weight. -/
def bw (k : Nat) : Nat := if k = 0 then 0 else 280000 + k
/-- Between two steps of a Part. -/
structure SnI (Z : Nat → Prop) (w1 : World) (D : Nat → Option FS) (J : Nat → Option Jn) (d : Nat) (s : FS) (L : List (FS → Int × FS)) (k : Nat) (wr : World) : Prop where
  is : ∃ sk, Hold Z wr (upd D d sk) J ∧ runs (L.drop k) sk = runs L s ∧ sk.wt ≤ s.wt + bw k
  only : Only (Off Z) w1 wr
def SnF (Z : Nat → Prop) (w1 : World) (D : Nat → Option FS) (J : Nat → Option Jn) (d : Nat) (s : FS) (L : List (FS → Int × FS)) (q : Int) (wr : World) : Prop :=
  q = (runs L s).1 ∧ Hold Z wr (upd D d (runs L s).2) J ∧ Only (Off Z) w1 wr
theorem sn_step {Z : Nat → Prop} {w1 wr w' : World} {D : Nat → Option FS} {J : Nat → Option Jn} {d : Nat} {s sk : FS} {L : List (FS → Int × FS)} {k : Nat} (hr : runs (L.drop k) sk = runs L s) (hw : sk.wt ≤ s.wt + bw k)
    (ho : Only (Off Z) w1 wr) (f : FS → Int × FS) (hf : L.drop k = f :: L.drop (k + 1)) (hfw : (f sk).2.wt ≤ s.wt + bw (k + 1)) {e : Ending} (h : Went Z (upd (upd D d sk) d (f sk).2) J (.int .i64 (f sk).1) wr e w') :
    Stp (SnI Z w1 D J d s L (k + 1)) (SnF Z w1 D J d s L) e w' := by
  obtain ⟨rfl, h1, h2⟩ := h
  rw [upd_upd] at h1
  have h3 : Only (Off Z) w1 w' := ho.trans h2 fun i _ hi => hi
  rw [hf, runs_cons] at hr
  by_cases hq : (f sk).1 = 0
  · rw [if_pos hq] at hr
    rw [hq]
    exact .inl ⟨rfl, ⟨(f sk).2, h1, hr, hfw⟩, h3⟩
  · rw [if_neg hq] at hr
    exact .inr ⟨_, hq, rfl, by rw [← hr], by rw [← hr]; exact h1, h3⟩

/-- The steps of a Part, each with its contract. -/
structure Fiv (P : World → Prop) (I : Nat → World → Prop) (F : Int → World → Prop) (m p q r : Nat) : Prop where
  s1 : 0 < m → ∀ wr, I 0 wr → Calls Tryz.prog 94 #[.pointer (some ⟨p, 0, none⟩), .pointer (some ⟨q, 0, none⟩), .pointer (some ⟨r, 0, none⟩)] wr (Stp (I 1) F)
  s2 : 1 < m → ∀ wr, I 1 wr → Calls Tryz.prog 98 #[.pointer (some ⟨p, 0, none⟩)] wr (Stp (I 2) F)
  s3 : 2 < m → ∀ wr, I 2 wr → Calls Tryz.prog 99 #[.pointer (some ⟨p, 0, none⟩), .pointer (some ⟨q, 0, none⟩)] wr (Stp (I 3) F)
  s4 : 3 < m → ∀ wr, I 3 wr → Calls Tryz.prog 101 #[.pointer (some ⟨p, 0, none⟩)] wr (Stp (I 4) F)
  s5 : 4 < m → ∀ wr, I 4 wr → Calls Tryz.prog 102 #[] wr (Stp (I 5) F)
  at_ : ∀ i wr, I i wr → P wr

theorem fiv_any {Z : Nat → Prop} {w1 : World} {D : Nat → Option FS} {J : Nat → Option Jn} {d : Nat} {s : FS} (hwt : s.wt ≤ 137438953472) {n : Nm} {t : List UInt8} (hn : n.length ≤ 100000) (ht : t.length ≤ 262200) {p q r A m : Nat} (hb : Bxs w1 p q r d n t) (zp : Z p) (zq : Z q) (zr : Z r) (zA : Z A)
    (hA : w1.heap[A]? = some (.cells (fiveF p q r) 115 (0, 0))) :
    Fiv (fun wr => wr.heap[A]? = some (.cells (fiveF p q r) 115 (0, 0))) (SnI Z w1 D J d s ((snapL n t).take m)) (SnF Z w1 D J d s ((snapL n t).take m)) m p q r := by
  have keep : ∀ {k : Nat} {wr : World}, SnI Z w1 D J d s ((snapL n t).take m) k wr → Bxs wr p q r d n t := fun hi =>
    hb.kept hi.only (fun hh => hh zp) (fun hh => hh zq) (fun hh => hh zr)
  have b0 : bw 0 = 0 := rfl
  have b1 : bw 1 = 280001 := rfl
  have b2 : bw 2 = 280002 := rfl
  have b3 : bw 3 = 280003 := rfl
  have b4 : bw 4 = 280004 := rfl
  have b5 : bw 5 = 280005 := rfl
  refine ⟨fun hm wr hi => ?_, fun hm wr hi => ?_, fun hm wr hi => ?_, fun hm wr hi => ?_, fun hm wr hi => ?_, fun i wr hi => hi.only.off hA zA⟩
  · obtain ⟨sk, h1, h2, h3⟩ := hi.is
    exact (sn1 h1 (upd_same _ _ _) (by omega) hn (by omega) (keep hi) zq zr).mono fun e w' hw => sn_step h2 h3 hi.only (fun s => s.puts (n ++ [126]) t) (fi.take_drop_step hm rfl) (by have := puts_wt sk (n ++ [126]) t; show (sk.puts (n ++ [126]) t).2.wt ≤ _; show _ ≤ s.wt + bw 1; omega) hw
  · obtain ⟨sk, h1, h2, h3⟩ := hi.is
    exact (sn2 h1 (upd_same _ _ _) (by omega) hn (by omega) (keep hi)).mono fun e w' hw => sn_step h2 h3 hi.only (fun s => (0, s.sync)) (fi.take_drop_step hm rfl) (by have := FS.sync_wt (h1.ok (upd_same _ _ _)); show sk.sync.wt ≤ _; show _ ≤ s.wt + bw 2; omega) hw
  · obtain ⟨sk, h1, h2, h3⟩ := hi.is
    exact (sn3 h1 (upd_same _ _ _) (by omega) hn (by omega) (keep hi)).mono fun e w' hw => sn_step h2 h3 hi.only (fun s => s.ren (n ++ [126]) n) (fi.take_drop_step hm rfl) (by have := ren_wt sk (n ++ [126]) n; show (sk.ren (n ++ [126]) n).2.wt ≤ _; show _ ≤ s.wt + bw 3; omega) hw
  · obtain ⟨sk, h1, h2, h3⟩ := hi.is
    exact (sn4 h1 (upd_same _ _ _) (by omega) hn (by omega) (keep hi)).mono fun e w' hw => sn_step h2 h3 hi.only (fun s => (0, s.sync)) (fi.take_drop_step hm rfl) (by have := FS.sync_wt (h1.ok (upd_same _ _ _)); show sk.sync.wt ≤ _; show _ ≤ s.wt + bw 4; omega) hw
  · obtain ⟨sk, h1, h2, h3⟩ := hi.is
    exact (sn5 h1 (upd_same _ _ _) (by omega) hn (by omega) (keep hi)).mono fun e w' hw => sn_step h2 h3 hi.only (fun s => (0, s)) (fi.take_drop_step hm rfl) (by show sk.wt ≤ _; show _ ≤ s.wt + bw 5; omega) hw

theorem fiveF_at {wr : World} {A p q r : Nat} (h : wr.heap[A]? = some (.cells (fiveF p q r) 115 (0, 0))) :
    wr.cell? ⟨A, 0, none⟩ = some (.func (.func 94) #[] #[.pointer (some ⟨p, 0, none⟩), .pointer (some ⟨q, 0, none⟩), .pointer (some ⟨r, 0, none⟩)]) ∧ wr.cell? ⟨A, 1, none⟩ = some (.func (.func 98) #[] #[.pointer (some ⟨p, 0, none⟩)]) ∧
    wr.cell? ⟨A, 2, none⟩ = some (.func (.func 99) #[] #[.pointer (some ⟨p, 0, none⟩), .pointer (some ⟨q, 0, none⟩)]) ∧ wr.cell? ⟨A, 3, none⟩ = some (.func (.func 101) #[] #[.pointer (some ⟨p, 0, none⟩)]) ∧
    wr.cell? ⟨A, 4, none⟩ = some (.func (.func 102) #[] #[]) :=
  ⟨by rw [cell_of_row _ _ 0 _ _ _ h]; rfl, by rw [cell_of_row _ _ 1 _ _ _ h]; rfl, by rw [cell_of_row _ _ 2 _ _ _ h]; rfl, by rw [cell_of_row _ _ 3 _ _ _ h]; rfl, by rw [cell_of_row _ _ 4 _ _ _ h]; rfl⟩

theorem five_slice (m : Nat) (hm : m ≤ 5) (b : Nat) (W : World) : (Instr.sliceAt 115 (.pointer (some ⟨b, 0, none⟩)) none (some (.int .i64 (m : Int))) none).run Tryz.prog W = .ok (.slice (some ⟨b, 0, none⟩) m 5) W := by
  have hl : Tryz.prog.arrayLen 115 = 5 := by kernel_rfl
  rw [run_sliceAt_array_h W _ _ Tryz.underlying115 .i64 (m : Int) (by omega) (by rw [hl]; omega), hl]
  have hs : ∀ W, (sizeOf (Tryz.prog.elem 115)).run Tryz.prog W = .ok 1 W := fun W => rfl
  rw [hs]
  have ha : (⟨b, 0, none⟩ : Addr).add 0 = ⟨b, 0, none⟩ := by unfold Addr.add; split <;> simp_all
  simp [slicedAt, Result.andThen, ha]

theorem part_any {Z : Nat → Prop} {w : World} {D : Nat → Option FS} {J : Nat → Option Jn} (h : Hold Z w D J) {d : Nat} {s : FS} (hd : D d = some s) (hwt : s.wt ≤ 137438953472) (n : Nm) (hn : n.length ≤ 100000) (hk : sck n = 0) (t : List UInt8) (ht : t.length ≤ 262144) (k : Nat) {x : Int} (hx : x = (k : Int)) :
    Calls Tryz.prog 54 #[.pointer (some ⟨d, 0, none⟩), .string (str n), .string (str t), .int .i64 x] w (Went Z (upd D d (s.snap n (frame t) k).2) J (.tuple #[.bool (s.snapD n (frame t) k), .int .i64 (s.snap n (frame t) k).1]) w) := by
  subst hx
  obtain ⟨m, hm⟩ : ∃ m, m = min k 5 := ⟨_, rfl⟩
  have hmin : min (k : Int) 5 = (m : Int) := by omega
  have hm5 : m ≤ 5 := by omega
  have hT : (snapL n (frame t)).take k = (snapL n (frame t)).take m := by
    rw [hm, Nat.min_def]
    split
    · rfl
    · rw [List.take_of_length_le (show (snapL n (frame t)).length ≤ k by show 5 ≤ k; omega), List.take_of_length_le (show (snapL n (frame t)).length ≤ 5 from Nat.le_refl 5)]
  have hge : decide ((5 : Int) ≤ (k : Int)) = decide (5 ≤ k) := decide_eq_decide.2 (by omega)
  have HCK := Lib.hid (scheck_any h hd n (by omega))
  rw [hk] at HCK
  have HH := Lib.hid h
  have HD := Lib.hid hd
  have hfl := frame_len t
  have HPU := Lib.hid (fun wx => putting_any wx d n (frame t))
  have HF := Lib.hid (fun (wx : World) => put_any (.slice (some ⟨wx.heap.size, 0, none⟩) 1 1) [t] (wx.alloc (.cells #[.string (str t)] 9)) (strs_new wx t (by unfold maxLen; omega)) (by intro s hs; simp at hs; subst hs; exact ht) (by rw [cost_one]; omega))
  rw [frames_one] at HF
  have HV := Lib.hid (fun (Z : Nat → Prop) (w1 : World) (p q r A : Nat) (hb : Bxs w1 p q r d n (frame t)) (zp : Z p) (zq : Z q) (zr : Z r) (zA : Z A) hA => fiv_any (Z := Z) (w1 := w1) (D := D) (J := J) (d := d) (s := s) hwt hn (by omega) (m := m) hb zp zq zr zA hA)
  have HS : Hid (s.snap n (frame t) k = runs ((snapL n (frame t)).take m) s) := Lib.hid (by unfold FS.snap; rw [hT])
  unfold FS.snapD
  have hL : Hid (((snapL n (frame t)).take m).length = m) := Lib.hid (by rw [List.length_take]; show min m 5 = m; omega)
  have hsl := five_slice m hm5
  clear hT hm h hd
  go_enter Tryz.func54, Tryz.ntmps54
  go_wp2_with fail
  refine HCK.out.mono ?_
  rintro e w1 ⟨rfl, hb1⟩
  have HB1 := Lib.hid hb1
  clear hb1
  go_wp2_with fail
  refine (HF.out w1).mono ?_
  rintro e w2 ⟨rfl, hb2⟩
  have HB2 := Lib.hid ((HB1.out.alloc HB1.out.size _).trans (hb2.mono (by have := HB1.out.size; simp; omega)))
  clear hb2
  go_wp2_with fail
  refine (HPU.out w2).mono ?_
  rintro e w3 ⟨p, q, r, rfl, hb3, hbx, hp, hq, hr⟩
  have hs2 := HB2.out.size
  have hs3 := hb3.size
  have HB3 := Lib.hid (HB2.out.trans (hb3.mono hs2))
  have HBX := Lib.hid hbx
  clear hb3 hbx
  go_wp2_with (refine wpList_store_row rfl _ _ _ rfl w3.heap.size (fiveF p q r) rfl rfl _ _ (heap_alloc_new w3 _) (by kernel_rfl) rfl (by kernel_rfl) ?_)
  have hg3 : ((w3.alloc (.cells #[.nilFunc, .nilFunc, .nilFunc, .nilFunc, .nilFunc] 115)).setRow w3.heap.size (fiveF p q r)).heap[w3.heap.size]? = some (.cells (fiveF p q r) 115 (0, 0)) := setRow_heap _ _ _ _ _ _ (heap_alloc_new w3 _)
  have hb4 : Below w.heap.size w ((w3.alloc (.cells #[.nilFunc, .nilFunc, .nilFunc, .nilFunc, .nilFunc] 115)).setRow w3.heap.size (fiveF p q r)) := below_setRow (HB3.out.alloc HB3.out.size _) (HB3.out.size) _
  have hstart : SnI (news Z w ((w3.alloc (.cells #[.nilFunc, .nilFunc, .nilFunc, .nilFunc, .nilFunc] 115)).setRow w3.heap.size (fiveF p q r))) ((w3.alloc (.cells #[.nilFunc, .nilFunc, .nilFunc, .nilFunc, .nilFunc] 115)).setRow w3.heap.size (fiveF p q r)) D J d s ((snapL n (frame t)).take m) 0 ((w3.alloc (.cells #[.nilFunc, .nilFunc, .nilFunc, .nilFunc, .nilFunc] 115)).setRow w3.heap.size (fiveF p q r)) :=
    ⟨⟨s, by rw [upd_self HD.out]; exact HH.out.grow hb4, rfl, Nat.le_add_right _ _⟩, Only.refl _ _⟩
  have hbx4 : Bxs ((w3.alloc (.cells #[.nilFunc, .nilFunc, .nilFunc, .nilFunc, .nilFunc] 115)).setRow w3.heap.size (fiveF p q r)) p q r d n (frame t) := by
    have e : ∀ i, i < w3.heap.size → ((w3.alloc (.cells #[.nilFunc, .nilFunc, .nilFunc, .nilFunc, .nilFunc] 115)).setRow w3.heap.size (fiveF p q r)).heap[i]? = w3.heap[i]? := fun i hi =>
      (below_setRow ((Below.refl _ w3).alloc (Nat.le_refl _) _) (Nat.le_refl _) (fiveF p q r)).block i hi
    exact ⟨(e _ HBX.out.p.lt).trans HBX.out.p, (e _ HBX.out.q.lt).trans HBX.out.q, (e _ HBX.out.r.lt).trans HBX.out.r⟩
  generalize (w3.alloc (.cells #[.nilFunc, .nilFunc, .nilFunc, .nilFunc, .nilFunc] 115)).setRow w3.heap.size (fiveF p q r) = w4 at *
  have HFV := Lib.hid (HV.out (news Z w w4) w4 p q r w3.heap.size hbx4 (.inr ⟨by omega, hbx4.p.lt⟩) (.inr ⟨by omega, hbx4.q.lt⟩) (.inr ⟨by omega, hbx4.r.lt⟩) (.inr ⟨by omega, lt_of_block hg3⟩) hg3)
  have HST := Lib.hid hstart
  have FIN : Hid ((∀ wr, SnI (news Z w w4) w4 D J d s ((snapL n (frame t)).take m) m wr → Went Z (upd D d (s.snap n (frame t) k).2) J (.tuple #[.bool (decide (5 ≤ k)), .int .i64 0]) w (.returned (.tuple #[.bool (decide (5 ≤ k)), .int .i64 0])) wr ∧ (s.snap n (frame t) k).1 = 0) ∧
      ∀ q', q' ≠ 0 → ∀ wr, SnF (news Z w w4) w4 D J d s ((snapL n (frame t)).take m) q' wr → Went Z (upd D d (s.snap n (frame t) k).2) J (.tuple #[.bool (decide ((s.snap n (frame t) k).1 = 0) && decide (5 ≤ k)), .int .i64 (s.snap n (frame t) k).1]) w (.returned (.tuple #[.bool false, .int .i64 q'])) wr) := by
    have fin : ∀ wr : World, Only (Off (news Z w w4)) w4 wr → Only (Off Z) w wr := fun wr ho => (Only.of_below (S := Off Z) hb4).trans ho fun i hi hh h' => hh (.inl h')
    have les : ∀ i, Z i → news Z w w4 i := fun i hi => .inl hi
    refine Lib.hid ⟨fun wr hi => ?_, fun q' hq' wr hf => ?_⟩
    · obtain ⟨sk, h1, h2, h3⟩ := hi.is
      rw [List.drop_of_length_le (by rw [hL.out]; omega)] at h2
      rw [HS.out, ← h2]
      exact ⟨⟨rfl, h1.less les, fin _ hi.only⟩, rfl⟩
    · obtain ⟨h1, h2, h3⟩ := hf
      rw [HS.out, ← h1]
      have : decide (q' = 0) = false := decide_eq_false hq'
      rw [this]
      exact ⟨rfl, h2.less les, fin _ h3⟩
  have HZ : Hid (w3.heap.size < w4.heap.size) := Lib.hid (lt_of_block hg3)
  generalize w3.heap.size = A at *
  have HG : Hid (∀ i wr, SnI (news Z w w4) w4 D J d s ((snapL n (frame t)).take m) i wr → wr.heap[A]? = some (.cells (fiveF p q r) 115 (0, 0))) := Lib.hid fun i wr hi => HFV.out.at_ i wr hi
  clear hg3 hb4 hstart hbx4 hp hq hr hs2 hs3 HV HF HPU
  generalize (snapL n (frame t)).take m = L at *
  clear hsl hmin
  go_loopw [42] (fun v42 wr => ∃ i : Nat, i ≤ m ∧ v42 = .int .i64 (i : Int) ∧ SnI (news Z w w4) w4 D J d s L i wr) (fun v42 _ => m - (intOf v42).toNat)
  case atStart => exact ⟨0, by omega, rfl, HST.out⟩
  case round =>
    obtain ⟨i, hi, rfl, hI⟩ := hrel
    obtain ⟨a0, a1, a2, a3, a4⟩ := fiveF_at (HG.out i _ hI)
    have HI := Lib.hid hI
    clear hI HST
    by_cases hlt : i < m
    · obtain rfl | rfl | rfl | rfl | rfl : i = 0 ∨ i = 1 ∨ i = 2 ∨ i = 3 ∨ i = 4 := by omega
      · go_wp2_with fail
        refine (HFV.out.s1 hlt _ HI.out).mono ?_
        rintro e w5 (⟨rfl, h1⟩ | ⟨q', hq', rfl, h1⟩)
        · clear a0 a1 a2 a3 a4
          have H1 := Lib.hid h1
          clear h1
          go_wp2
          go_roundw
          case rel => exact ⟨1, by omega, by go_num, H1.out⟩
          case measure => simp [intOf]; omega
        · clear a0 a1 a2 a3 a4
          have H1 := Lib.hid h1
          have hq2 := bne_of hq'
          clear h1
          go_wp2
          go_ret2
          exact FIN.out.2 q' hq' _ H1.out
      · go_wp2_with fail
        refine (HFV.out.s2 hlt _ HI.out).mono ?_
        rintro e w5 (⟨rfl, h1⟩ | ⟨q', hq', rfl, h1⟩)
        · clear a0 a1 a2 a3 a4
          have H1 := Lib.hid h1
          clear h1
          go_wp2
          go_roundw
          case rel => exact ⟨2, by omega, by go_num, H1.out⟩
          case measure => simp [intOf]; omega
        · clear a0 a1 a2 a3 a4
          have H1 := Lib.hid h1
          have hq2 := bne_of hq'
          clear h1
          go_wp2
          go_ret2
          exact FIN.out.2 q' hq' _ H1.out
      · go_wp2_with fail
        refine (HFV.out.s3 hlt _ HI.out).mono ?_
        rintro e w5 (⟨rfl, h1⟩ | ⟨q', hq', rfl, h1⟩)
        · clear a0 a1 a2 a3 a4
          have H1 := Lib.hid h1
          clear h1
          go_wp2
          go_roundw
          case rel => exact ⟨3, by omega, by go_num, H1.out⟩
          case measure => simp [intOf]; omega
        · clear a0 a1 a2 a3 a4
          have H1 := Lib.hid h1
          have hq2 := bne_of hq'
          clear h1
          go_wp2
          go_ret2
          exact FIN.out.2 q' hq' _ H1.out
      · go_wp2_with fail
        refine (HFV.out.s4 hlt _ HI.out).mono ?_
        rintro e w5 (⟨rfl, h1⟩ | ⟨q', hq', rfl, h1⟩)
        · clear a0 a1 a2 a3 a4
          have H1 := Lib.hid h1
          clear h1
          go_wp2
          go_roundw
          case rel => exact ⟨4, by omega, by go_num, H1.out⟩
          case measure => simp [intOf]; omega
        · clear a0 a1 a2 a3 a4
          have H1 := Lib.hid h1
          have hq2 := bne_of hq'
          clear h1
          go_wp2
          go_ret2
          exact FIN.out.2 q' hq' _ H1.out
      · go_wp2_with fail
        refine (HFV.out.s5 hlt _ HI.out).mono ?_
        rintro e w5 (⟨rfl, h1⟩ | ⟨q', hq', rfl, h1⟩)
        · clear a0 a1 a2 a3 a4
          have H1 := Lib.hid h1
          clear h1
          go_wp2
          go_roundw
          case rel => exact ⟨5, by omega, by go_num, H1.out⟩
          case measure => simp [intOf]; omega
        · clear a0 a1 a2 a3 a4
          have H1 := Lib.hid h1
          have hq2 := bne_of hq'
          clear h1
          go_wp2
          go_ret2
          exact FIN.out.2 q' hq' _ H1.out
    · have hie : i = m := by omega
      subst hie
      obtain ⟨f1, f2⟩ := FIN.out.1 _ HI.out
      have F1 := Lib.hid f1
      have F2 := Lib.hid f2
      clear f1 f2 a0 a1 a2 a3 a4
      go_wp2
      go_ret2
      refine ⟨?_, F1.out.2.1, F1.out.2.2⟩
      show Ending.returned (.tuple #[.bool (decide (5 ≤ k)), .int .i64 0]) = _
      rw [F2.out]
      rfl
end Go.Proofs.YtmaohncddjhgeaaGreat.gn
end
