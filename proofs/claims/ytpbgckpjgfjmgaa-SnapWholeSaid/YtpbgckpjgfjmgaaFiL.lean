/- The contract of the room that is left. -/
import Derived.Test.YtpbgckpjgfjmgaaFiK
set_option linter.unusedVariables false
set_option maxRecDepth 100000
namespace Go.Proofs.Ytpbgckpjgfjmgaa.fi
/-- How many bytes there are. -/
def tot : Tb → Nat
  | [] => 0
  | p :: r => p.2.1.length + tot r
theorem tot_wt (T : Tb) : tot T ≤ wt T := by
  induction T with
  | nil => exact Nat.le_refl _
  | cons p r ih => simp only [tot, wt]; omega
/-- The room that is left. -/
def FS.left (s : FS) : Int := (s.room : Int) - (tot s.now : Int)
def gone (left : Lit → Bool) : Tb → Nat
  | [] => 0
  | p :: r => (if left (.string p.1) then 0 else p.2.1.length) + gone left r
theorem gone_le (left : Lit → Bool) (T : Tb) : gone left T ≤ tot T := by
  induction T with
  | nil => exact Nat.le_refl _
  | cons p r ih => simp only [gone, tot]; split <;> omega
theorem gone_all {left : Lit → Bool} {T : Tb} (h : ∀ p ∈ T, left (.string p.1) = true) : gone left T = 0 := by
  induction T with
  | nil => rfl
  | cons p r ih => simp only [gone]; rw [if_pos (h p (by simp)), ih fun q hq => h q (by simp [hq])]
theorem gone_none {left : Lit → Bool} {T : Tb} (h : ∀ kl, left kl = false) : gone left T = tot T := by
  induction T with
  | nil => rfl
  | cons p r ih => simp only [gone, tot]; rw [if_neg (by simp [h]), ih]
theorem gone_same {left left' : Lit → Bool} {T : Tb} (h : ∀ p ∈ T, left' (.string p.1) = left (.string p.1)) : gone left' T = gone left T := by
  induction T with
  | nil => rfl
  | cons p r ih => simp only [gone]; rw [h p (by simp), ih fun q hq => h q (by simp [hq])]
theorem gone_step {left : Lit → Bool} {T : Tb} {k : Nm} {f : Fl} (hk : Keyed1 T) (hf : get k T = some f) (hl : left (.string k) = true) :
    gone (fun z => left z && !z.sameKey (.string k)) T = gone left T + f.1.length := by
  have hm := get_some hf
  clear hf
  induction T with
  | nil => simp at hm
  | cons p r ih =>
    obtain ⟨h1, h2⟩ := List.pairwise_cons.1 hk
    have hs : ∀ j : Nm, (Lit.string j).sameKey (.string k) = (j == k) := fun j => rfl
    rcases List.mem_cons.1 hm with rfl | hm'
    · have hr : gone (fun z => left z && !z.sameKey (.string k)) r = gone left r := gone_same fun q hq => by
        have : (q.1 == k) = false := by simpa using (h1 q hq).symm
        simp [hs, this]
      simp only [gone, hr, hl, hs]
      simp
      omega
    · have hne : (p.1 == k) = false := by simpa using h1 _ hm'
      have := ih h2 hm'
      simp only [gone, hs, hne]
      simp
      omega
end Go.Proofs.Ytpbgckpjgfjmgaa.fi

namespace Go.Proofs.Ytpbgckpjgfjmgaa.gn
open Go.RowKit
open Go.Proofs.Ytpbgckpjgfjmgaa.fi

def RoomRel (w : World) (X : Nat → Prop) (TT : Nat → Option Tb) (b : Nat) (T : Tb) (L : List (Nm × Nat)) (room : Int) (x : Value) (wr : World) : Prop :=
  ∃ left cnt, wr.ranges Try.prog 9 ptrR b w.heap.size L.length (dat L) left cnt ∧ x = .int .i64 (room - (gone left T : Int)) ∧ Below w.heap.size w wr ∧ w.heap.size < wr.heap.size

set_option maxHeartbeats 8000000 in
set_option maxRecDepth 100000 in
theorem room_any (w : World) (X : Nat → Prop) (D : Nat → Option FS) (d : Nat) (s : FS) (hS : Sys w X D) (hd : D d = some s) (hl : s.wt ≤ 1099511627776) :
    Calls Try.prog 32 #[.pointer (some ⟨d, 0, none⟩)] w (Asks (.int .i64 s.left) w) := by
  obtain ⟨TT, role, ga, h1, h2⟩ := hS
  obtain ⟨nb, sb, v, h⟩ := h2 d s hd
  obtain ⟨c0, c1, c2, c3, c4⟩ := h.blk.cells
  obtain ⟨G, hG⟩ := h1
  have hrm := h.ok.room
  have hwt := h.ok.wt_now
  have hT := h.now
  have hK := h.ok.keyed_now
  obtain ⟨T, hTe⟩ : ∃ T, T = s.now := ⟨_, rfl⟩
  rw [← hTe] at hwt hT hK
  have hleft : Hid (s.left = (s.room : Int) - (tot T : Int)) := by rw [hTe]; rfl
  have htot := tot_wt T
  clear hTe
  obtain ⟨L, hL⟩ : ∃ L, L = G.tab nb := ⟨_, rfl⟩
  have ht : Tab w nb L := by rw [hL]; exact hG.tab hT
  have hbl : nb < w.heap.size := (SysT.lt ⟨G, hG⟩ hT).1
  have hown := ht.exact
  have hget : ∀ k, fi.get k T = (fi.get k L).map G.cont := fun k => by rw [hL]; exact hG.get hT k
  have hst : ∀ p ∈ T, Maps.has (dat L) (.string p.1) = true := fun p hp => by
    have h1 := get_of_mem hK (k := p.1) (v := p.2) hp
    rw [hget] at h1
    rw [dat_has]
    cases hg : fi.get p.1 L with
    | none => rw [hg] at h1; cases h1
    | some _ => rfl
  have HG := Lib.hid hG
  have HT := Lib.hid hT
  have HK := Lib.hid hK
  have HO := Lib.hid hget
  have HST := Lib.hid hst
  have hb := h.ok.wt_now
  clear hL hget hst hG hT hK h hd h2 ht c3 c4 hb
  go_enter Try.func32, Try.ntmps32
  go_wp2_with (first
    | (go_at_call 24; ((with_reducible refine (is_any _ _ c0).mono ?_); rintro e w' ⟨rfl, rfl⟩))
    | (at_range; refine wpList_range_own _ rfl _ 52 rfl 9 70 keyLaw Try.underlying52 _ nb _ _ rfl hown ?_; intro w0 hrg0 hg0 hs0))
  go_frame
  go_loopw [3] (fun x wr => RoomRel w X TT nb T L (s.room : Int) x wr) (fun _ wr => wr.rangeLeft nb w.heap.size)
  case atStart =>
    refine ⟨_, _, hrg0, by rw [gone_all HST.out]; simp, (Below.refl _ _).grown hg0 (Nat.le_refl _) (fun j hj => by cases hj), by omega⟩
  case round =>
    obtain ⟨left, cnt, hrg, rfl, hbel, hsz⟩ := hrel
    have hsn := gone_le left T
    go_wp2_with (first
      | (at_next; refine wpList_next_tab _ rfl _ rfl nb w.heap.size L.length L left cnt rfl hrg ?_ ?_))
    · intro hc0 hl0
      go_wp2
      go_ret
      refine ⟨?_, hbel⟩
      rw [hleft.out, gone_none hl0]
      rfl
    · intro k p w1 cnt1 hp hlk hrg1 hlt hg1 hs1 hen
      have hf : fi.get k T = some (G.cont p) := by rw [HO.out, hp]; rfl
      have hb1 : Below w.heap.size w w1 := hbel.grown hg1 (by omega) (fun j hj => by cases hj; exact Nat.le_refl _)
      obtain ⟨p', A, n, c, h⟩ := (HG.out.below hb1).at_ HT.out hf
      have hpp : p' = p := by
        have h1 := h.at_
        rw [(show Tab w1 nb L from ⟨_, hrg1.owns⟩).uniq ((HG.out.below hb1).tab HT.out) |>.symm, hp] at h1
        exact (Option.some.inj h1).symm
      subst hpp
      obtain ⟨c0', c1', f0, f1⟩ := h.blk.cells
      have hfn : (G.cont p').1.length = n := h.byt.1
      have hstep := Lib.hid (gone_step HK.out hf hlk)
      have hsn2 := gone_le (fun z => left z && !z.sameKey (.string k)) T
      have hsn3 : gone left T + n ≤ tot T := by have := hstep.out; omega
      have HRG := Lib.hid hrg
      have HRG1 := Lib.hid hrg1
      have HFN := Lib.hid hfn
      have HS := Lib.hid hs1
      clear hf h hfn hrg hrg1 hp hlk hsn2 hs1
      go_wp2
      go_roundw
      case rel =>
        refine ⟨_, cnt1, HRG1.out, ?_, hb1, by have := HS.out; omega⟩
        have h1 := hstep.out
        have h2 := HFN.out
        rw [h1, h2]
        congr 1
        omega
      case measure =>
        rw [HRG1.out.left_eq, HRG.out.left_eq]
        exact hlt
end Go.Proofs.Ytpbgckpjgfjmgaa.gn
