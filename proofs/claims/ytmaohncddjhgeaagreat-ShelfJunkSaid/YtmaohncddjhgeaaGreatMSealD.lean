/- The contracts of the document's own More and Seal. -/
import Derived.Test.YtmaohncddjhgeaaGreatMSealC
import Derived.Test.YtmaohncddjhgeaaGreatMGenMb
section
namespace Go.Proofs.YtmaohncddjhgeaaGreat.gn
open Go.RowKit
open Go.Proofs.YtmaohncddjhgeaaGreat.sl

set_option maxRecDepth 100000 in
set_option maxHeartbeats 1600000 in
theorem refMore_any (r : BitVec 64) (l : List UInt8) (hl : l.length ≤ 281474976710656) (w : World) :
    Calls Tryz.prog 71 #[.int .u64 (reg r), .string (str l)] w fun e w' => e = .returned (.int .u64 (reg (~~~ run (~~~ r) l))) ∧ w = w' := by
  have hn := reg_not r
  have hsz := str_size l
  have hl2 : (str l).size ≤ 281474976710656 := by omega
  have HZ := Lib.hid hsz
  clear hsz hl
  go_enter Tryz.func71, Tryz.ntmps71
  go_wp2
  clear hn
  go_loop [5, 6] (fun v5 v6 => ∃ k : Nat, k ≤ (str l).size ∧ v6 = .int .i64 (k : Int) ∧ v5 = .int .u64 (reg (run (~~~ r) (l.take k)))) (fun _ v6 => (str l).size - (intOf v6).toNat)
  case atStart => exact ⟨0, by omega, rfl, rfl⟩
  case round =>
    obtain ⟨k, hk, rfl, rfl⟩ := hrel
    by_cases hlt : k < (str l).size
    · have hk2 : k < l.length := by have := HZ.out; omega
      have hx := reg_byte (run (~~~ r) (l.take k)) ((str l)[k]'hlt)
      have HX : Hid (its 8 (run (~~~ r) (l.take k) ^^^ wide ((str l)[k]'hlt)) = run (~~~ r) (l.take (k + 1))) := by
        show byt _ _ = _
        rw [run_take _ _ _ hk2, str_at]
      have hcb := UInt8.toNat_lt ((str l)[k]'hlt)
      go_wp2
      clear hx hcb
      go_loop [5, 7] (fun v5 v7 => ∃ j : Nat, j ≤ 8 ∧ v7 = .int .i64 (j : Int) ∧ v5 = .int .u64 (reg (its j (run (~~~ r) (l.take k) ^^^ wide ((str l)[k]'hlt))))) (fun _ v7 => 8 - (intOf v7).toNat)
      case atStart => exact ⟨0, by omega, rfl, rfl⟩
      case round =>
        obtain ⟨j, hj, rfl, rfl⟩ := hrel
        by_cases hlt2 : j < 8
        · obtain ⟨y, hy⟩ : ∃ y, y = its j (run (~~~ r) (l.take k) ^^^ wide ((str l)[k]'hlt)) := ⟨_, rfl⟩
          have hy2 : Hid (st y = its (j + 1) (run (~~~ r) (l.take k) ^^^ wide ((str l)[k]'hlt))) := by show _ = _; rw [its_one_more, hy]
          rw [← hy]
          clear hy
          obtain ⟨b1, b2⟩ := reg_bd y
          have h3 : reg y % 2 = 0 ∨ reg y % 2 = 1 := by omega
          rcases h3 with h | h
          · have e := reg_nil y h
            have t1 : (reg y % 2 == 1) = false := by rw [h]; rfl
            generalize reg y = ry at *
            have E := Lib.hid e
            clear h e
            go_wp2
            go_round
            case rel => exact ⟨j + 1, by omega, by go_num, by rw [E.out, hy2.out]⟩
            case measure => simp [intOf]; omega
          · have e := reg_one y h
            have t1 : (reg y % 2 == 1) = true := by rw [h]; rfl
            clear h
            generalize reg y = ry at *
            go_wp2
            go_round
            case rel => exact ⟨j + 1, by omega, by go_num, by rw [hy2.out]⟩
            case measure => simp [intOf]; omega
        · have : j = 8 := by omega
          subst this
          go_wp2
          go_round
          case rel => exact ⟨k + 1, by omega, by go_num, by rw [HX.out]⟩
          case measure => simp [intOf]; omega
    · have hkl : k = l.length := by have := HZ.out; omega
      have HX : Hid (run (~~~ r) (l.take k) = run (~~~ r) l) := by
        show _ = _
        rw [hkl, List.take_length]
      have hn := reg_not (run (~~~ r) (l.take k))
      clear hkl
      go_wp2
      go_ret
      rw [HX.out]
      exact ⟨rfl, rfl⟩

theorem refCrc_any (l : List UInt8) (hl : l.length ≤ 281474976710656) (w : World) :
    Calls Tryz.prog 71 #[.int .u64 0, .string (str l)] w fun e w' => e = .returned (.int .u64 (reg (crc l))) ∧ w = w' := refMore_any 0#64 l hl w

def AppRel (l : List UInt8) (x : Nat) (w : World) (v3 v4 v5 : Value) (wr : World) : Prop :=
  ∃ k : Nat, k ≤ 8 ∧ v5 = .int .i64 (k : Int) ∧ v3 = .int .u64 ((x / 256 ^ k : Nat) : Int) ∧ Mb wr w.heap.size v4 (l ++ (le 8 x).take k) ∧ Below w.heap.size w wr
theorem app_rel {l : List UInt8} {x k : Nat} {w wr : World} {v4 : Value} (hk : k < 8) (h : Mb wr w.heap.size v4 (l ++ (le 8 x).take k ++ [(x / 256 ^ k % 256).toUInt8])) (hb : Below w.heap.size w wr) :
    AppRel l x w (.int .u64 ((x / 256 ^ k / 256 : Nat) : Int)) v4 (.int .i64 ((k : Int) + 1)) wr := by
  have e : (x / 256 ^ k % 256).toUInt8 = (le 8 x)[k]'(by rw [le_len]; exact hk) := by
    apply UInt8.toNat_inj.1
    rw [le_at]
    simp [Nat.toUInt8, UInt8.toNat_ofNat']
  rw [e, List.append_assoc, ← List.take_succ_eq_append_getElem] at h
  exact ⟨k + 1, by omega, by go_num, by rw [Nat.pow_succ, Nat.div_div_eq_div_mul], h, hb⟩

set_option maxRecDepth 100000 in
set_option maxHeartbeats 1600000 in
theorem refSeal_any (l : List UInt8) (hl : l.length ≤ 1000000) (w : World) :
    Calls Tryz.prog 36 #[.string (str l)] w fun e w' => e = .returned (.string (str (sealed l))) ∧ Below w.heap.size w w' := by
  have hg : grownCap w (str l).size 0 5 ≤ maxLen := grownCap_le_maxLen w _ 0 _ (by rw [str_size]; unfold maxLen; omega)
  have hcv := Lib.run_convert_string_bytes (P := Tryz.prog) w 9 80 5 (str l) (u := .string) Tryz.underlying9 Tryz.underlying80 Tryz.underlying5
  have hm := Mb.made w (str l) hg
  have hl0 : (str l).data.toList = l := by simp [str]
  rw [hl0] at hm
  have hb := below_bytes w.heap.size w (str l) (Nat.le_refl _)
  generalize Lib.bytesWorld w 5 (str l) = W at hcv hm hb
  generalize Value.slice (some ⟨w.heap.size, 0, none⟩) (str l).size (grownCap w (str l).size 0 5) = V at hcv hm
  have HM := Lib.hid hm
  have HB := Lib.hid hb
  clear hg hm hl0 hb
  go_enter Tryz.func36, Tryz.ntmps36
  go_wp2_with fail
  refine (refCrc_any l (by omega) _).mono ?_
  rintro e w' ⟨rfl, rfl⟩
  go_wp2
  clear hcv
  obtain ⟨x, hx⟩ : ∃ x, x = (crc l).toNat := ⟨_, rfl⟩
  have hxr : reg (crc l) = (x : Int) := by rw [hx]; rfl
  have hx64 : x < 18446744073709551616 := by rw [hx]; exact (crc l).isLt
  have HE : Hid (str (l ++ le 8 x) = str (sealed l)) := by rw [hx]; exact rfl
  rw [hxr]
  clear hx hxr
  go_loopw [3, 4, 5] (fun v3 v4 v5 wr => AppRel l x w v3 v4 v5 wr) (fun _ _ v5 _ => 8 - (intOf v5).toNat)
  case atStart => exact ⟨0, by omega, rfl, by simp, by simpa using HM.out, HB.out⟩
  case round =>
    obtain ⟨k, hk, rfl, rfl, hm, hb⟩ := hrel
    by_cases hlt : k < 8
    · have hy : x / 256 ^ k < 18446744073709551616 := Nat.lt_of_le_of_lt (Nat.div_le_self _ _) hx64
      obtain ⟨y, hy2⟩ : ∃ y, y = x / 256 ^ k := ⟨_, rfl⟩
      rw [← hy2] at hy ⊢
      have HY := Lib.hid hy2
      have hd : decide ((k : Int) < 8) = true := decide_eq_true (by omega)
      have hll : (l ++ (le 8 x).take k).length + 1 ≤ 140737488355328 := by rw [List.length_append, List.length_take]; omega
      have hu8 : ((y : Int) % 256) = ((y % 256).toUInt8.toNat : Int) := by simp [Nat.toUInt8, UInt8.toNat_ofNat']
      have HU := Lib.hid hu8
      clear hy2 hu8
      have hbs := hb.size
      go_wp2_with (at_builtin; refine wpList_append_mb rfl _ _ rfl w.heap.size _ _ rfl (hm.alloc _) ⟨wr.heap.size, 0, none⟩ 1 rfl (y % 256).toUInt8 ?c1 hll ?c2 ?_)
      case c1 => rw [← HU.out, World.cell?_alloc_at _ _ _ _ rfl]; rfl
      case c2 => simp; omega
      intro v' w1 hm' hb'
      have HM1 := Lib.hid hm'
      have HB1 := Lib.hid ((hb.alloc hb.size _).trans hb')
      clear hm hm' hb hb' hll
      go_wp2
      go_roundw
      case rel =>
        have e : (y : Int) / 256 = ((x / 256 ^ k / 256 : Nat) : Int) := by rw [← HY.out]; omega
        rw [e]
        exact app_rel (by omega) (by rw [← HY.out, List.append_assoc]; exact HM1.out) HB1.out
      case measure => simp [intOf]; omega
    · have hk8 : k = 8 := by omega
      have ht : (le 8 x).take k = le 8 x := List.take_of_length_le (by rw [le_len]; omega)
      rw [ht] at hm
      have hcv := hm.string
      have HB1 := Lib.hid hb
      clear hm hb ht hk8
      go_wp2
      go_ret
      rw [HE.out]
      exact ⟨rfl, HB1.out⟩
end Go.Proofs.YtmaohncddjhgeaaGreat.gn
end
