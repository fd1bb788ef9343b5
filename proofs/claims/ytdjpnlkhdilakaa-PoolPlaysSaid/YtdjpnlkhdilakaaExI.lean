/- Norm, Total, Has, Meet, Give: the contracts. -/
import Derived.Test.YtdjpnlkhdilakaaExH
set_option linter.unusedVariables false
namespace Go.Proofs.Ytdjpnlkhdilakaa.gn
open Go.RowKit Go.Shelf Go.Sort Go.Lib
open Go.Proofs.Ytdjpnlkhdilakaa.ex

attribute [local go_sem] Oper.semAt_some

instance (n : Int) (l : List X) : Decidable (num n l) := by unfold num; infer_instance

theorem chk_fine {l : List X} (h : Fine l) : chk l = 0 := if_pos h
/-- It answers a row of its own. -/
def Rows (l : List X) (w : World) (e : Ending) (w' : World) : Prop := ∃ v', e = .returned v' ∧ OwnX w.heap.size w' v' l ∧ RowKit.Below w.heap.size w w'

theorem Norm_any {w : World} {v : Value} {l : List X} (h : Rd w v l) (hf : Fine l) : Calls Try.prog 28 #[v] w (Rows (nrm l) w) := by
  have c1 := check_any h hf.1
  rw [chk_fine hf] at c1
  have C2 := Lib.hid fun (W : World) (hb : RowKit.Below w.heap.size w W) => norm_any (h.next hb) (by have := hf.1; omega) hf.2.1 hf.2.2
  clear h hf
  go_enter Try.func28, Try.ntmps28
  go_wp2_with (first
    | (go_at_call 26; refine c1.mono ?_; rintro e w1 ⟨rfl, hb1⟩; clear c1; have c2 := C2.out w1 hb1; have HB1 := Lib.hid hb1; clear hb1)
    | (go_at_call 44; refine c2.mono ?_; rintro e w2 ⟨v2, rfl, h2, hb2⟩; have H2 := Lib.hid (And.intro h2 hb2); clear h2 hb2 c2))
  go_ret
  exact ⟨_, rfl, H2.out.1.mono HB1.out.size, HB1.out.trans (H2.out.2.mono HB1.out.size)⟩

theorem add1_any (x y : Int) (h : Sml (x + y)) (w : World) : Calls Try.prog 52 #[.int .i64 x, .int .i64 y] w fun e w' => e = .returned (.int .i64 (x + y)) ∧ w' = w := by
  unfold Sml at h
  have hw : IntKind.i64.wrap (x + y) = x + y := by rw [IntKind.wrap_i64]; omega
  clear h
  go_enter Try.func52, Try.ntmps52
  go_wp2
  go_ret
  exact ⟨by first | rfl | rw [hw], rfl⟩
theorem both_ok (x y : Int) (hx : 0 ≤ x) (hy : 0 ≤ y) (h : x + y ≤ 1099511627776) (w : World) :
    Calls Try.prog 38 #[.int .i64 x, .int .i64 y, .func (.func 52) #[] #[]] w fun e w' => e = .returned (.int .i64 (x + y)) ∧ w' = w := by
  have o1 := of_any x
  have o2 := of_any y
  have o3 := of_any (x + y)
  rw [show min (max x 0) 1099511627776 = x by omega] at o1
  rw [show min (max y 0) 1099511627776 = y by omega] at o2
  rw [show min (max (x + y) 0) 1099511627776 = x + y by omega] at o3
  have a1 := add1_any x y (by unfold Sml; omega)
  have eg : ∀ args w, (callFunc 52 args).run Try.prog w = .ok (.enter 52 args) w := enters_of Try.func52 (by kernel_rfl) rfl
  generalize hz : x + y = z at *
  clear hz
  go_enter Try.func38, Try.ntmps38
  go_wp2_with (first
    | (go_at_call 37; first | (refine (o1 _).mono ?_; rintro e w' ⟨rfl, rfl⟩) | (refine (o2 _).mono ?_; rintro e w' ⟨rfl, rfl⟩) | (refine (o3 _).mono ?_; rintro e w' ⟨rfl, rfl⟩))
    | (go_at_call 52; refine (a1 _).mono ?_; rintro e w' ⟨rfl, rfl⟩))
  go_ret
  exact ⟨rfl, rfl⟩
theorem add_pair (g : Nat) (x y : Int) (w : World) (hx : 0 ≤ x) (hy : 0 ≤ y) (h : x + y ≤ 1099511627776) (h0 : w.cell? ⟨g, 0, none⟩ = some (.int .i64 x)) (h1 : w.cell? ⟨g, 1, none⟩ = some (.int .i64 y)) :
    Calls Try.prog 31 #[.slice (some ⟨g, 0, none⟩) 2 2] w fun e w' => e = .returned (.int .i64 (x + y)) ∧ w' = w := by
  have b1 := both_ok 0 x (by omega) hx (by omega)
  have b2 := both_ok x y hx hy h
  rw [Int.zero_add] at b1
  have HH := Lib.hid (And.intro hx (And.intro hy h))
  clear hx hy h
  go_enter Try.func31, Try.ntmps31
  go_wp2
  go_loop [3, 8] (fun s i => (i = .int .i64 0 ∧ s = .int .i64 0) ∨ (i = .int .i64 1 ∧ s = .int .i64 x) ∨ (i = .int .i64 2 ∧ s = .int .i64 (x + y))) (fun _ i => 2 - (intOf i).toNat)
  case atStart => exact .inl ⟨rfl, rfl⟩
  case round =>
    rcases hrel with ⟨rfl, rfl⟩ | ⟨rfl, rfl⟩ | ⟨rfl, rfl⟩
    · go_wp2_with (go_at_call 38; refine (b1 _).mono ?_; rintro e w' ⟨rfl, rfl⟩)
      go_round
      case rel => exact .inr (.inl ⟨rfl, rfl⟩)
      case measure => simp [intOf]
    · go_wp2_with (go_at_call 38; refine (b2 _).mono ?_; rintro e w' ⟨rfl, rfl⟩)
      go_round
      case rel => exact .inr (.inr ⟨rfl, rfl⟩)
      case measure => simp [intOf]
    · go_wp2
      go_ret
      exact ⟨rfl, rfl⟩

theorem tot_step {l : List X} {k : Nat} (h : k < l.length) : tot (l.take (k + 1)) = tot (l.take k) + l[k]!.2 := by
  rw [List.take_add_one, tot_append, List.getElem?_eq_getElem h, getElem!_pos l k h]
  simp [tot]

set_option maxHeartbeats 2000000 in
set_option maxRecDepth 100000 in
theorem Total_any {w : World} {v : Value} {l : List X} (h : Rd w v l) (hf : Fine l) : Calls Try.prog 11 #[v] w (Tells (tot l) w) := by
  have c1 := check_any h hf.1
  rw [chk_fine hf] at c1
  have HR := Lib.hid h
  have HF := Lib.hid hf
  have hl := hf.1
  obtain ⟨p1, cp1, rfl⟩ := h.len
  clear h hf
  go_enter Try.func11, Try.ntmps11
  go_upto_region 5 with (go_at_call 26; refine c1.mono ?_; rintro e w1 ⟨rfl, hb1⟩; clear c1; have HB1 := Lib.hid hb1; clear hb1)
  go_loopw [3, 11] (fun s3 s11 wr => ∃ k : Nat, s11 = .int .i64 k ∧ k ≤ l.length ∧ s3 = .int .i64 (tot (l.take k)) ∧ Aside (RowKit.Below w.heap.size w wr))
    (fun _ s11 _ => l.length - (intOf s11).toNat)
  case atStart => exact ⟨0, rfl, Nat.zero_le _, rfl, HB1.out⟩
  case round =>
    obtain ⟨k, rfl, hk, rfl, hb⟩ := hrel
    by_cases hlt : k < l.length
    · have hrd := HR.out.next hb.out
      rcases hrd with ⟨p', c', he, _⟩ | ⟨b, off, c, he, hbl, hc⟩
      · exfalso; simp only [Value.slice.injEq] at he; omega
      · simp only [Value.slice.injEq, true_and] at he
        obtain ⟨rfl, rfl⟩ := he
        have hck := hc k hlt
        have hox := ok_at HF.out.2.1 hlt
        have ht := tot_step hlt
        have ht0 := tot_take HF.out.2.1 HF.out.2.2 k
        have ht1 := tot_take HF.out.2.1 HF.out.2.2 (k + 1)
        clear hc
        generalize l[k]! = x at *
        obtain ⟨x1, x2⟩ := x
        have c0 := hck.1
        have c1 := hck.2
        unfold okx at hox
        dsimp only at c0 c1 hox ht
        rw [ht] at ht1
        have HT := Lib.hid ht
        generalize tot (l.take k) = s at *
        have ha := fun (g : Nat) (W : World) => add_pair g s x2 W ht0.1 (by omega) ht1.2
        clear hck hox ht ht0 ht1
        go_wp2_with (go_at_call 31; refine (ha _ _ (by go_simp) (by go_simp)).mono ?_; rintro e w' ⟨rfl, rfl⟩)
        go_roundw
        case rel => exact ⟨k + 1, by go_num, by omega, by rw [HT.out], (hb.out.alloc hb.out.size _).alloc (Nat.le_trans hb.out.size (by simp)) _⟩
        case measure => simp [intOf]; omega
    · obtain rfl : k = l.length := by omega
      have HB := Lib.hid hb.out
      clear hb
      go_wp2
      go_ret
      exact ⟨by rw [List.take_length]; rfl, HB.out⟩
end Go.Proofs.Ytdjpnlkhdilakaa.gn
