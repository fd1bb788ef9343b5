/- find, used, with: the contracts; pools in memory. -/
import Derived.Test.YtdjpnlkhdilakaaPoA
import Derived.Test.YtdjpnlkhdilakaaSlLay3
import Derived.BigQuiet
import Derived.Deep.QuietTactic
set_option linter.unusedVariables false
set_option linter.unusedSimpArgs false
set_option maxRecDepth 100000
namespace Go.Proofs.Ytdjpnlkhdilakaa.gn
open Go.RowKit Go.Shelf Go.Sort Go.Lib
open Go.Proofs.Ytdjpnlkhdilakaa.ex
open Go.Proofs.Ytdjpnlkhdilakaa.po (Nm U less Pl)

attribute [local go_sem] Oper.semAt_some

set_option maxHeartbeats 2000000 in
theorem find1_any (W : World) (bl bu b off c i : Nat) (l : List U) (u : Nm) (hi : i < l.length) (k0 : W.cell? ⟨bl, 0, none⟩ = some (.slice (some ⟨b, off, none⟩) l.length c)) (k1 : W.cell? ⟨bu, 0, none⟩ = some (.string (str u)))
    (k2 : W.cell? ⟨b, off + i * 2, none⟩ = some (.string (str l[i]!.1))) :
    Calls Try.prog 58 (#[.int .i64 i] ++ #[.pointer (some ⟨bl, 0, none⟩), .pointer (some ⟨bu, 0, none⟩)]) W fun e w' => e = .returned (.bool (!less l[i]!.1 u)) ∧ ∃ q, w' = W.drewN q := by
  have mixed : Try.prog.follows .mixedOrders = true := by kernel_rfl
  generalize l[i]!.1 = x at *
  have hiz : (i : Int) < (l.length : Int) := by omega
  have E : less x u = Go.Op.bytesLess (str x).toList (str u).toList := by rw [str_toList, str_toList]; rfl
  rw [E]
  clear E
  generalize str x = sx at *
  generalize str u = su at *
  go_enter Try.func58, Try.ntmps58
  go_wp2
  go_quiet (fail)
  go_wp2
  go_ret
  exact ⟨by first | rfl | simp, _, rfl⟩
theorem pos_count {l : List U} (h : po.Rise l) (u : Nm) : (List.range l.length).countP (fun i => !(!less l[i]!.1 u)) = po.pos l u := by
  have hr : ∀ t, t < l.length → (List.range l.length)[t]! = t := fun t ht => by rw [getElem!_pos _ t (by simpa using ht)]; simp
  refine Lib.countP_boundary _ (List.range l.length) _ (by simpa using po.pos_le l u) (fun t ht => ?_) (fun t h3 h4 => ?_)
  · rw [hr t (Nat.lt_of_lt_of_le ht (po.pos_le l u)), po.pos_lt l u t ht]; rfl
  · rw [hr t (by simpa using h4), po.pos_ge h t h3 (by simpa using h4)]; rfl
theorem search_any {W : World} {bl bu : Nat} {p : Option Addr} {c : Nat} {l : List U} (u : Nm) (h : RdU W (.slice p l.length c) l) (hr : po.Rise l) (hl : l.length ≤ 4000) (k0 : W.cell? ⟨bl, 0, none⟩ = some (.slice p l.length c)) (k1 : W.cell? ⟨bu, 0, none⟩ = some (.string (str u))) (hbl : bl < W.heap.size) (hbu : bu < W.heap.size) :
    Calls Try.prog 57 #[.int .i64 l.length, .func (.func 58) #[] #[.pointer (some ⟨bl, 0, none⟩), .pointer (some ⟨bu, 0, none⟩)]] W fun e w' => e = .returned (.int .i64 (po.pos l u : Nat)) ∧ ∃ q os, w' = grow (W.drewN q) os := by
  have := Any.sort_Search laySearch 58 #[.pointer (some ⟨bl, 0, none⟩), .pointer (some ⟨bu, 0, none⟩)] l.length (fun i => !less l[i]!.1 u) W (enters_of Try.func58 (by kernel_rfl) rfl) (by omega)
    (fun m os i hi => by
      obtain ⟨b, off, rfl, hb, c0, c1⟩ := h.at_ hi
      refine (find1_any _ bl bu b off c i l u hi (cell_grown (a := ⟨bl, 0, none⟩) hbl k0 m os) (cell_grown (a := ⟨bu, 0, none⟩) hbu k1 m os) (cell_grown (a := ⟨b, off + i * 2, none⟩) hb c0 m os)).mono ?_
      rintro e w' ⟨rfl, q, rfl⟩
      exact ⟨rfl, q, #[], by rw [grow_empty]⟩)
    (fun a b hab hb ha => by
      have h1 : less l[a]!.1 u = false := by simpa using ha
      have h2 : po.pos l u ≤ a := by
        have : ¬ a < po.pos l u := fun h => by rw [po.pos_lt l u a h] at h1; cases h1
        omega
      rw [po.pos_ge hr b (by omega) hb]; rfl)
  refine Calls.mono (f := 57) this ?_
  rintro e w' ⟨rfl, q, os, rfl⟩
  exact ⟨by rw [pos_count hr], q, os, rfl⟩

theorem str_eq (x u : Nm) : ((str x).toList == (str u).toList) = (x == u) := by rw [str_toList, str_toList]
set_option maxHeartbeats 2000000 in
theorem find_any {w : World} {v : Value} {l : List U} (u : Nm) (h : RdU w v l) (hr : po.Rise l) (hl : l.length ≤ 4000) :
    Calls Try.prog 42 #[v, .string (str u)] w fun e w' => e = .returned (.tuple #[.int .i64 (po.pos l u : Nat), .bool (po.thr l u)]) ∧ RowKit.Below w.heap.size w w' := by
  obtain ⟨p, c, rfl, hle⟩ := h.2
  have mixed : Try.prog.follows .mixedOrders = true := by kernel_rfl
  obtain ⟨W1, hW1⟩ : ∃ W1, (w.alloc (.cells #[.slice p l.length c] 23)).alloc (.cells #[.string (str u)] 9) = W1 := ⟨_, rfl⟩
  have hb1 : RowKit.Below w.heap.size w W1 := by rw [← hW1]; exact ((Below.refl _ w).alloc (Nat.le_refl _) _).alloc (by simp) _
  have hsz : W1.heap.size = w.heap.size + 1 + 1 := by rw [← hW1]; simp
  have k0 : W1.cell? ⟨w.heap.size, 0, none⟩ = some (.slice p l.length c) := by rw [← hW1]; exact cell_alloc_sl _ (cell_new_sl w _ _)
  have k1 : W1.cell? ⟨w.heap.size + 1, 0, none⟩ = some (.string (str u)) := by
    rw [← hW1]
    have := cell_new_sl (w.alloc (.cells #[.slice p l.length c] 23)) (.string (str u)) 9
    rwa [World.size_alloc] at this
  have hc1 := search_any u (h.next hb1) hr hl k0 k1 (by omega) (by omega)
  have hq := po.thr_eq l u
  have hp := po.pos_le l u
  have HB := Lib.hid hb1
  have b0 : ∀ m os, (grow (W1.drewN m) os).cell? ⟨w.heap.size, 0, none⟩ = some (.slice p l.length c) := fun m os => cell_grown (by simp only; omega) k0 m os
  have b1 : ∀ m os, (grow (W1.drewN m) os).cell? ⟨w.heap.size + 1, 0, none⟩ = some (.string (str u)) := fun m os => cell_grown (by simp only; omega) k1 m os
  have hat := fun (hlt : po.pos l u < l.length) => (h.next hb1).at_ hlt
  generalize po.pos l u = i at *
  have HC := Lib.hid hc1
  clear hc1 h hr k0 k1
  by_cases hlt : i < l.length
  · obtain ⟨b, off, rfl, hb, c0, _⟩ := hat hlt
    have c0' : ∀ m os, (grow (W1.drewN m) os).cell? ⟨b, off + i * 2, none⟩ = some (.string (str l[i]!.1)) := fun m os => cell_grown (a := ⟨b, off + i * 2, none⟩) hb c0 m os
    have E := str_eq l[i]!.1 u
    rw [decide_eq_true hlt, Bool.true_and, ← E] at hq
    have hiz : decide ((i : Int) < (l.length : Int)) = true := decide_eq_true (by omega)
    have HQ := Lib.hid hq
    clear c0 hat E hq hb1
    generalize str l[i]!.1 = sx at *
    generalize str u = su at *
    go_enter Try.func42, Try.ntmps42
    go_upto_region 1 with fail
    try rw [hW1]
    clear hW1
    have b00 := b0 0 #[]
    have b10 := b1 0 #[]
    rw [grow_empty] at b00 b10
    have b00 : W1.cell? ⟨w.heap.size, 0, none⟩ = some (.slice (some ⟨b, off, none⟩) l.length c) := b00
    have b10 : W1.cell? ⟨w.heap.size + 1, 0, none⟩ = some (.string su) := b10
    go_upto_region 2 with (go_at_call 57; refine HC.out.mono ?_; rintro e w' ⟨rfl, q, os, rfl⟩; have h0 := b0 q os; have h1 := b1 q os; have h2 := c0' q os; have HG := Lib.hid (HB.out.trans ((below_grow W1 q os).mono HB.out.size)); clear b0 b1 c0' b00 b10)
    generalize grow (W1.drewN q) os = W2 at *
    go_quiet (fail)
    go_wp2
    go_ret2
    exact ⟨by rw [HQ.out]; rfl, HG.out.trans ⟨rfl, rfl, rfl, Nat.le_refl _, fun _ _ => rfl⟩⟩
  · rw [decide_eq_false hlt, Bool.false_and] at hq
    have hiz : decide ((i : Int) < (l.length : Int)) = false := decide_eq_false (by omega)
    have HQ := Lib.hid hq
    clear hat hq hb1
    generalize str u = su at *
    go_enter Try.func42, Try.ntmps42
    go_upto_region 1 with fail
    try rw [hW1]
    clear hW1
    have b00 := b0 0 #[]
    have b10 := b1 0 #[]
    rw [grow_empty] at b00 b10
    have b00 : W1.cell? ⟨w.heap.size, 0, none⟩ = some (.slice p l.length c) := b00
    have b10 : W1.cell? ⟨w.heap.size + 1, 0, none⟩ = some (.string su) := b10
    go_upto_region 2 with (go_at_call 57; refine HC.out.mono ?_; rintro e w' ⟨rfl, q, os, rfl⟩; have h0 := b0 q os; have h1 := b1 q os; have HG := Lib.hid (HB.out.trans ((below_grow W1 q os).mono HB.out.size)); clear b0 b1 b00 b10)
    generalize grow (W1.drewN q) os = W2 at *
    go_quiet (fail)
    go_wp2
    go_ret2
    exact ⟨by rw [HQ.out]; rfl, HG.out.trans ⟨rfl, rfl, rfl, Nat.le_refl _, fun _ _ => rfl⟩⟩
end Go.Proofs.Ytdjpnlkhdilakaa.gn
