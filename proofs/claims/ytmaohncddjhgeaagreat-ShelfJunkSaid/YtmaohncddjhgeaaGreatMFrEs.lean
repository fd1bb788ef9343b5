/- The contract of the document's Scan (FrE for a seat that lacks the document's Put). -/
import Derived.Test.YtmaohncddjhgeaaGreatMFrSm
import Derived.Test.YtmaohncddjhgeaaGreatMFrO
import Derived.Test.YtmaohncddjhgeaaGreatMFrF
import Derived.Laws.AppendOwn
import Derived.OwnWalk
import Derived.IntWalk
import Derived.Deep.RegionHeld3
import Derived.Deep.RegionWith
section
namespace Go.Proofs.YtmaohncddjhgeaaGreat.gn
open Go.RowKit
open Go.Proofs.YtmaohncddjhgeaaGreat.sl

theorem fst_no20 {r : List UInt8} (h : r.length < 20) : fst? r = none := by
  cases hf : fst? r with
  | none => rfl
  | some s => have := (fst_some hf).2.1; omega
theorem fst_ne {r : List UInt8} (h : frame ((r.drop 12).take (num (r.take 4))) ≠ r.take (20 + num (r.take 4))) : fst? r = none := by
  cases hf : fst? r with
  | none => rfl
  | some s =>
    obtain ⟨_, _, h3, h4, h5⟩ := fst_some hf
    exact absurd (by rw [← h4, ← h5]; exact h3.symm) h
theorem fst_eq {r : List UInt8} (h1 : num (r.take 4) ≤ 262144) (h2 : 20 + num (r.take 4) ≤ r.length) (h : frame ((r.drop 12).take (num (r.take 4))) = r.take (20 + num (r.take 4))) : fst? r = some ((r.drop 12).take (num (r.take 4))) := by
  have hl : ((r.drop 12).take (num (r.take 4))).length = num (r.take 4) := by rw [List.length_take, List.length_drop]; omega
  refine fst_of (by omega) (by omega) ?_
  rw [hl, h]
theorem num4 (b : List UInt8) (p : Nat) (h : p + 3 < b.length) : num ((b.drop p).take 4) = (b[p]'(by omega)).toNat + 256 * (b[p + 1]'(by omega)).toNat + 65536 * (b[p + 2]'(by omega)).toNat + 16777216 * (b[p + 3]'h).toNat := by
  rw [List.drop_eq_getElem_cons (by omega : p < b.length), List.drop_eq_getElem_cons (by omega : p + 1 < b.length), List.drop_eq_getElem_cons (by omega : p + 1 + 1 < b.length), List.drop_eq_getElem_cons (by omega : p + 1 + 1 + 1 < b.length)]
  simp only [List.take_succ_cons, List.take_zero, num]
  have e2 : b[p + 1 + 1]'(by omega) = b[p + 2]'(by omega) := rfl
  have e3 : b[p + 1 + 1 + 1]'(by omega) = b[p + 3]'(by omega) := rfl
  rw [e2, e3]
  omega
theorem ix (b : List UInt8) (i : Int) (p : Nat) (h : p < b.length) (hi : i = (p : Int)) (w : World) : (Instr.index 9 (.string (str b)) (.int .i64 i)).run Tryz.prog w = .ok (.int .u8 ((b[p].toNat : Nat) : Int)) w := by
  subst hi
  have hs := str_size b
  rw [run_index_string (P := Tryz.prog) (w := w) 9 (str b) .i64 (p : Int) Tryz.underlying9, dif_pos ⟨by omega, by omega⟩]
  rfl

def DscanI (b : List UInt8) (w : World) (v4 v5 : Value) (wr : World) : Prop :=
  ∃ (k p : Nat), p ≤ b.length ∧ v5 = .int .i64 (p : Int) ∧ p = cost ((scan b).take k) ∧ k ≤ (scan b).length ∧ scan (b.drop p) = (scan b).drop k ∧ Ss wr w.heap.size v4 ((scan b).take k) ∧ Below w.heap.size w wr
def Dscan (b : List UInt8) (w : World) (e : Ending) (w' : World) : Prop :=
  ∃ v, e = .returned (.tuple #[v, .int .i64 (cost (scan b) : Nat)]) ∧ Ss w' w.heap.size v (scan b) ∧ Below w.heap.size w w'
theorem dscan_end {b : List UInt8} {w wr : World} {v : Value} {k p : Nat} (hf : fst? (b.drop p) = none) (hp : p = cost ((scan b).take k)) (hk : k ≤ (scan b).length) (hs : scan (b.drop p) = (scan b).drop k) (ho : Ss wr w.heap.size v ((scan b).take k)) (hb : Below w.heap.size w wr) (n : Nat) :
    Dscan b w (.returned (.tuple #[v, .int .i64 (p : Int)])) (wr.drewN n) := by
  rw [scan_none hf] at hs
  have hkl : k = (scan b).length := by
    have := congrArg List.length hs
    rw [List.length_drop, List.length_nil] at this
    omega
  rw [hkl, List.take_length] at hp ho
  refine ⟨v, by rw [hp], ?_, below_drewN hb n⟩
  exact ho

theorem dscan_next {b s : List UInt8} {k p : Nat} (hf : fst? (b.drop p) = some s) (hp : p = cost ((scan b).take k)) (hk : k ≤ (scan b).length) (hs : scan (b.drop p) = (scan b).drop k) :
    k + 1 ≤ (scan b).length ∧ (scan b).take (k + 1) = (scan b).take k ++ [s] ∧ cost ((scan b).take (k + 1)) = p + (20 + s.length) ∧ scan (b.drop (p + (20 + s.length))) = (scan b).drop (k + 1) := by
  have h1 := scan_some hf
  rw [hs] at h1
  have hlt : k < (scan b).length := by
    have := congrArg List.length h1
    rw [List.length_drop, List.length_cons] at this
    omega
  rw [List.drop_eq_getElem_cons hlt] at h1
  injection h1 with h2 h3
  have h4 : (scan b).take (k + 1) = (scan b).take k ++ [s] := by rw [List.take_succ_eq_append_getElem hlt, h2]
  refine ⟨hlt, h4, by rw [h4, cost_app, cost_one, ← hp], ?_⟩
  rw [h3, List.drop_drop]

set_option maxRecDepth 100000 in
set_option maxHeartbeats 4000000 in
theorem dscan_any (b : List UInt8) (hl : b.length ≤ 100000) (w : World) : Calls Tryz.prog 48 #[.string (str b)] w (Dscan b w) := by
  obtain ⟨i0, hi0, hz0, hz1, hz2⟩ := info_parts Tryz.info9
  have HI := Lib.hid (And.intro hi0 (And.intro hz0 (And.intro hz1 hz2)))
  clear hi0 hz0 hz1 hz2
  have hsz : (str b).size = b.length := str_size b
  go_enter Tryz.func48, Tryz.ntmps48
  go_wp2
  go_loopw [4, 5] (fun v4 v5 wr => DscanI b w v4 v5 wr) (fun _ v5 _ => b.length - (intOf v5).toNat)
  case atStart => exact ⟨0, 0, Nat.zero_le _, rfl, rfl, Nat.zero_le _, rfl, Ss_nil _ _, Below.refl _ _⟩
  case round =>
    obtain ⟨k, p, hpl, rfl, hpc, hk, hsc, hown, hb⟩ := hrel
    have HPC := Lib.hid hpc
    have HK := Lib.hid hk
    have HSC := Lib.hid hsc
    have HOW := Lib.hid hown
    have HB := Lib.hid hb
    clear hpc hk hsc hown hb
    have hrl : (b.drop p).length = b.length - p := List.length_drop
    by_cases h20 : 20 ≤ b.length - p
    · obtain ⟨n, hn⟩ : ∃ n, n = num ((b.drop p).take 4) := ⟨_, rfl⟩
      have hnum := num4 b p (by omega)
      have x0 := ix b (p : Int) p (by omega) rfl
      have x1 := ix b ((p : Int) + 1) (p + 1) (by omega) (by omega)
      have x2 := ix b ((p : Int) + 2) (p + 2) (by omega) (by omega)
      have x3 := ix b ((p : Int) + 3) (p + 3) (by omega) (by omega)
      have y0 := UInt8.toNat_lt (b[p]'(by omega))
      have y1 := UInt8.toNat_lt (b[p + 1]'(by omega))
      have y2 := UInt8.toNat_lt (b[p + 2]'(by omega))
      have y3 := UInt8.toNat_lt (b[p + 3]'(by omega))
      rw [← hn] at hnum
      generalize (b[p]'(by omega)).toNat = c0 at *
      generalize (b[p + 1]'(by omega)).toNat = c1 at *
      generalize (b[p + 2]'(by omega)).toNat = c2 at *
      generalize (b[p + 3]'(by omega)).toNat = c3 at *
      have hnb : n < 4294967296 := by omega
      have p1 : IntKind.i64.wrap ((p : Int) + 1) = (p : Int) + 1 := IntWalk.i64_in _ (by omega)
      have p2 : IntKind.i64.wrap ((p : Int) + 2) = (p : Int) + 2 := IntWalk.i64_in _ (by omega)
      have p3 : IntKind.i64.wrap ((p : Int) + 3) = (p : Int) + 3 := IntWalk.i64_in _ (by omega)
      have m1 : IntKind.i64.wrap (256 * (c1 : Int)) = 256 * (c1 : Int) := IntWalk.i64_in _ (by omega)
      have m2 : IntKind.i64.wrap (65536 * (c2 : Int)) = 65536 * (c2 : Int) := IntWalk.i64_in _ (by omega)
      have m3 : IntKind.i64.wrap (16777216 * (c3 : Int)) = 16777216 * (c3 : Int) := IntWalk.i64_in _ (by omega)
      have s1 : IntKind.i64.wrap ((c0 : Int) + 256 * (c1 : Int)) = (c0 : Int) + 256 * (c1 : Int) := IntWalk.i64_in _ (by omega)
      have s2 : IntKind.i64.wrap ((c0 : Int) + 256 * (c1 : Int) + 65536 * (c2 : Int)) = (c0 : Int) + 256 * (c1 : Int) + 65536 * (c2 : Int) := IntWalk.i64_in _ (by omega)
      have s3 : IntKind.i64.wrap ((c0 : Int) + 256 * (c1 : Int) + 65536 * (c2 : Int) + 16777216 * (c3 : Int)) = (n : Int) := by rw [IntWalk.i64_in _ (by omega)]; omega
      have HNN := Lib.hid hn
      clear hn hnum
      go_wp2
      go_quiet (fail)
      clear x0 x1 x2 x3 p1 p2 p3 m1 m2 m3 s1 s2 s3 y0 y1 y2 y3
      by_cases hg : 262144 < n
      · have HF : Hid (fst? (b.drop p) = none) := by show _ = _; exact fst_great (by rw [← HNN.out]; exact hg)
        go_wp2
        go_ret2
        exact dscan_end HF.out HPC.out HK.out HSC.out HOW.out HB.out nq
      · by_cases hlen : b.length - p < 20 + n
        · have HF : Hid (fst? (b.drop p) = none) := by show _ = _; exact fst_len (by rw [← HNN.out, hrl]; exact hlen)
          go_wp2
          go_ret2
          exact dscan_end HF.out HPC.out HK.out HSC.out HOW.out HB.out nq
        · have z1 := sl_mid b ((p : Int) + 12) ((p : Int) + 12 + (n : Int)) (p + 12) n (by omega) (by omega) (by omega)
          have z2 := sl_mid b (p : Int) ((p : Int) + 20 + (n : Int)) p (20 + n) rfl (by omega) (by omega)
          have q1 : IntKind.i64.wrap ((p : Int) + 20) = (p : Int) + 20 := IntWalk.i64_in _ (by omega)
          have q2 : IntKind.i64.wrap ((p : Int) + 20 + (n : Int)) = (p : Int) + 20 + (n : Int) := IntWalk.i64_in _ (by omega)
          have hsl : ((b.drop (p + 12)).take n).length = n := by rw [List.length_take, List.length_drop]; omega
          have HS1 : Hid ((b.drop (p + 12)).take n = ((b.drop p).drop 12).take (num ((b.drop p).take 4))) := by show _ = _; rw [List.drop_drop, ← HNN.out]
          have HR1 : Hid ((b.drop p).take (20 + n) = (b.drop p).take (20 + num ((b.drop p).take 4))) := by show _ = _; rw [← HNN.out]
          generalize (b.drop (p + 12)).take n = s at *
          generalize hr2 : (b.drop p).take (20 + n) = r2 at *
          have HR2 := Lib.hid hr2
          clear hr2
          have HBd := Lib.hid (below_drewN HB.out nq)
          have HOd : Hid (Ss (wr.drewN nq) w.heap.size u4 ((scan b).take k)) := HOW.out
          have hws : w.heap.size ≤ (wr.drewN nq).heap.size := HBd.out.size
          generalize wr.drewN nq = W at *
          have HOn := Lib.hid fun h => one_any s (by omega) h
          by_cases hq : frame s = r2
          · have hf : fst? (b.drop p) = some s := by
              rw [HS1.out]
              refine fst_eq (by rw [← HNN.out]; omega) (by rw [← HNN.out, hrl]; omega) ?_
              rw [← HS1.out, ← HR1.out]
              exact hq
            obtain ⟨d1, d2, d3, d4⟩ := dscan_next hf HPC.out HK.out HSC.out
            have k1 : ((str (frame s)).toList == (str r2).toList) = true := by rw [str_toList, str_toList]; exact beq_iff_eq.2 hq
            have k2 : ((str (frame s)).toList != (str r2).toList) = false := by rw [bne, k1]; rfl
            have hll := cost_len ((scan b).take k)
            have hpc := HPC.out
            have hkl : ((scan b).take k).length ≤ 100000 := by omega
            have D1 := Lib.hid d1
            have D2 := Lib.hid d2
            have D3 := Lib.hid d3
            have D4 := Lib.hid d4
            clear hq hf d1 d2 d3 d4 hll hpc
            generalize (scan b).take k = L at *
            go_wp2
            go_region_held3 (fun _ => True) (exact trivial) ((go_at_call 16; ((with_reducible refine (HOn.out _).mono ?_); rintro e wn ⟨rfl, hbn⟩)))
            have HBn := Lib.hid (HBd.out.drew.trans (hbn.mono hws))
            have hown := Ss.kept (w := W.drew) HOd.out hbn
            have hown' : wn.ownsRow w.heap.size 9 1 u4 L.length (L.map fun s => .string (str s)) := hown
            have HOw := Lib.hid hown
            clear hbn hown
            go_wp2_with (at_builtin; refine wpList_append_own _ rfl _ _ 32 rfl w.heap.size 9 i0 (.string ⟨#[]⟩) 1 16 Tryz.underlying32 HI.out.1 HI.out.2.1 HI.out.2.2.1 HI.out.2.2.2 rfl (by decide) _ _ _ rfl (hown'.alloc _) ⟨wn.heap.size, 0, none⟩ 1 1 [.string (str s)] rfl rfl ?c1 ?c2 ?c3 ?c4 ?c5 ?_)
            case c1 =>
              intro j u hj
              cases j with
              | zero => simp at hj; subst hj; exact one_at wn _ _
              | succ j => simp at hj
            case c2 => intro u hu; simp at hu; subst hu; rfl
            case c3 => unfold maxLen; omega
            case c4 => omega
            case c5 => have := HBn.out.size; simp; omega
            intro v' w1 hown1 hgrow _
            obtain ⟨ho1, hb1⟩ := ss_step HOw.out HBn.out HBn.out.size hown1 hgrow
            have HO1 := Lib.hid ho1
            have HB1 := Lib.hid hb1
            clear hown' hown1 hgrow ho1 hb1
            go_wp2
            go_roundw
            case rel => exact ⟨k + 1, p + (20 + n), by omega, by go_num, by rw [D3.out, hsl], D1.out, by rw [← hsl]; exact D4.out, by rw [D2.out]; exact HO1.out, HB1.out⟩
            case measure => simp [intOf]; omega
          · have HF : Hid (fst? (b.drop p) = none) := by
              show _ = _
              refine fst_ne ?_
              rw [← HS1.out, ← HR1.out]
              exact hq
            have k1 : ((str (frame s)).toList == (str r2).toList) = false := by rw [str_toList, str_toList]; exact beq_eq_false_iff_ne.2 hq
            have k2 : ((str (frame s)).toList != (str r2).toList) = true := by rw [bne, k1]; rfl
            clear hq
            go_wp2
            go_region_held3 (fun _ => True) (exact trivial) ((go_at_call 16; ((with_reducible refine (HOn.out _).mono ?_); rintro e wn ⟨rfl, hbn⟩)))
            have HBn := Lib.hid (HBd.out.drew.trans (hbn.mono hws))
            have HOw := Lib.hid (Ss.kept (w := W.drew) HOd.out hbn)
            clear hbn
            go_wp2
            go_ret2
            exact dscan_end HF.out HPC.out HK.out HSC.out HOw.out HBn.out 0
    · have hf : fst? (b.drop p) = none := fst_no20 (by omega)
      have HF := Lib.hid hf
      clear hf
      go_wp2
      go_ret2
      exact dscan_end HF.out HPC.out HK.out HSC.out HOW.out HB.out 0
end Go.Proofs.YtmaohncddjhgeaaGreat.gn
end
