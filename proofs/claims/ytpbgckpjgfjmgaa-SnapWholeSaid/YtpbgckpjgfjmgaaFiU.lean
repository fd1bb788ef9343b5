/- The contracts of New and of Copy. -/
import Derived.Test.YtpbgckpjgfjmgaaFiS
set_option linter.unusedVariables false
set_option maxRecDepth 100000
namespace Go.Proofs.Ytpbgckpjgfjmgaa.fi
def FS.new (r : Int) : FS := ⟨(min (max r 0) 16777216).toNat, [], []⟩
theorem FS.new_ok (r : Int) : (FS.new r).Ok := ⟨(by unfold FS.new; simp only; omega), .nil, (fun p hp => by cases hp), trivial⟩
end Go.Proofs.Ytpbgckpjgfjmgaa.fi

namespace Go.Proofs.Ytpbgckpjgfjmgaa.gn
open Go.RowKit
open Go.Proofs.Ytpbgckpjgfjmgaa.fi

set_option maxHeartbeats 4000000 in
theorem object_any (w : World) (x v : Value) (room nb sb : Nat) (hx : x.oneCell' = true) (hv : v.oneCell' = true) :
    Calls Try.prog 20 #[.agg #[x, .int .i64 (room : Int), .map (some nb), .map (some sb), v]] w fun e w' => e = .returned (.pointer (some ⟨w.heap.size, 0, none⟩)) ∧ BlkD w' w.heap.size room nb sb v ∧ Below w.heap.size w w' := by
  have hb : Below w.heap.size w (w.alloc (.cells #[.pointer (some ⟨w.heap.size, 0, none⟩), .int .i64 (room : Int), .map (some nb), .map (some sb), v] 55)) := (Below.refl _ w).alloc (Nat.le_refl _) _
  have HB := Lib.hid hb
  clear hb
  go_enter Try.func20, Try.ntmps20
  go_wp2
  go_ret
  exact ⟨rfl, heap_alloc_new w _, HB.out⟩

/-- A directory more. -/
def Makes (X : Nat → Prop) (D : Nat → Option FS) (s : FS) (w : World) (e : Ending) (w' : World) : Prop :=
  ∃ d, e = .returned (.pointer (some ⟨d, 0, none⟩)) ∧ w.heap.size ≤ d ∧ Sys w' (ext X w w') (upd D d s) ∧ Below w.heap.size w w'

theorem SysD.made {w w' : World} {X : Nat → Prop} {TT TT' : Nat → Option Tb} {role : Nat → Nat × Bool} {ga : Nat → Nat} {D : Nat → Option FS} (h : SysD w X TT role ga D) (hb : Below w.heap.size w w') (hT : SysT w' (ext X w w') TT') (hTT : ∀ b, b < w.heap.size → TT' b = TT b)
    {d nb sb : Nat} {v : Value} {s : FS} (hd : w.heap.size ≤ d) (hn : w.heap.size ≤ nb) (hs : w.heap.size ≤ sb) (hne : nb ≠ sb) (hok : s.Ok) (hblk : BlkD w' d s.room nb sb v) (h1 : TT' nb = some s.now) (h2 : TT' sb = some s.safe)
    {cs : List (Value × Value)} (hrow : w'.ownsRow 0 64 2 v s.op.length (flatC cs)) (hcs : Clos w' (ext X w w') cs s.op) (hnew : ∀ g, v.ownBlock = some g → w.heap.size ≤ g) : Sys w' (ext X w w') (upd D d s) := by
  refine ⟨TT', put1 (put1 role nb (d, true)) sb (d, false), fun i => if i < w.heap.size then ga i else d, h.turn d s hT (fun b hb _ => hTT b hb) (fun i hi => ext_old hi) (fun i cs t _ hi _ => (hb.block i (lt_of_block hi)).trans hi) (fun i hi => ?_) (fun i hi => if_pos hi)
    (nb := nb) (sb := sb) (v := v) ⟨ext_new hd (lt_of_block hblk), hok, hblk, h1, h2, ?_, put1_same _ _ _, cs, hrow, hcs, fun g hg => ⟨ext_new (hnew g hg) (hrow.lt g hg).2, if_neg (by have := hnew g hg; omega)⟩⟩⟩
  · rw [put1_other _ _ (by omega), put1_other _ _ (by omega)]
  · rw [put1_other _ _ hne, put1_same]

set_option maxHeartbeats 4000000 in
theorem new_any (w : World) (X : Nat → Prop) (D : Nat → Option FS) (hS : Sys w X D) (r : Int) :
    Calls Try.prog 7 #[.int .i64 r] w (Makes X D (FS.new r) w) := by
  obtain ⟨TT, role, ga, h⟩ := hS
  obtain ⟨q, hq⟩ : ∃ q : Nat, q = (FS.new r).room := ⟨_, rfl⟩
  have hqr : (q : Int) = min (max r 0) 16777216 := by
    rw [hq]
    unfold FS.new
    simp only
    omega
  have hz : (w.alloc (.map #[] 0)).heap.size = w.heap.size + 1 := by simp
  have hz2 : ((w.alloc (.map #[] 0)).alloc (.map #[] 0)).heap.size = w.heap.size + 1 + 1 := by simp
  have hm1 := SysT.made h.1
  have hm2 := SysT.made hm1
  rw [hz] at hm2
  have hb2 : Below w.heap.size w ((w.alloc (.map #[] 0)).alloc (.map #[] 0)) := ((Below.refl _ w).alloc (Nat.le_refl _) _).alloc (by rw [hz]; omega) _
  have hmm := @run_makeMap Try.prog
  have HO := Lib.hid (object_any ((w.alloc (.map #[] 0)).alloc (.map #[] 0)) (.pointer none) (.slice none 0 0) q w.heap.size (w.heap.size + 1) rfl rfl)
  have HH := Lib.hid h
  have HM := Lib.hid hm2
  have HB := Lib.hid hb2
  have HZ := Lib.hid hz2
  have HQ := Lib.hid hq
  clear h hm1 hm2 hb2 hz2 hq
  have fin : Hid (∀ e w', e = .returned (.pointer (some ⟨w.heap.size + 1 + 1, 0, none⟩)) → BlkD w' (w.heap.size + 1 + 1) q w.heap.size (w.heap.size + 1) (.slice none 0 0) → Below ((w.alloc (.map #[] 0)).alloc (.map #[] 0)).heap.size ((w.alloc (.map #[] 0)).alloc (.map #[] 0)) w' → Makes X D (FS.new r) w e w') := fun e w' he hk hb => by
    have hb3 := HB.out.trans (hb.mono HB.out.size)
    have hsz := hb.size
    rw [HZ.out] at hsz
    refine ⟨_, he, by omega, HH.out.made hb3 ((HM.out.below hb).more fun i hi => ?_) (fun b hb => ?_) (by omega) (Nat.le_refl _) (Nat.le_succ _) (by omega) (FS.new_ok r) (by rw [HQ.out] at hk; exact hk) ?_ ?_ (cs := []) ⟨rfl, .inl ⟨rfl, rfl⟩⟩ .nil (fun g hg => by simp [Value.ownBlock] at hg), hb3⟩
    · rcases hi with (hi | ⟨i1, i2⟩) | ⟨i1, i2⟩
      · exact .inl hi
      · rw [hz] at i2
        exact .inr ⟨i1, by omega⟩
      · rw [HZ.out] at i2
        rw [hz] at i1
        exact .inr ⟨by omega, by omega⟩
    · rw [upd_other _ _ (by omega), upd_other _ _ (by omega)]
    · rw [upd_other _ _ (by omega), upd_same]; rfl
    · rw [upd_same]; rfl
  rw [hqr] at HO
  clear hqr
  go_enter Try.func7, Try.ntmps7
  go_wp2_with (go_at_call 20; ((with_reducible refine HO.out.mono ?_); rintro e w' ⟨rfl, h3, h4⟩; rw [HZ.out] at h3; have H3 := Lib.hid h3; have H4 := Lib.hid h4; clear h3 h4))
  go_ret
  exact fin.out _ _ (by simp) H3.out H4.out
end Go.Proofs.Ytpbgckpjgfjmgaa.gn
