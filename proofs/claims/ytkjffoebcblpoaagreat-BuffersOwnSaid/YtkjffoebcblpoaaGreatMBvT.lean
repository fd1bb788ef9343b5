/- slices.BinarySearch at numbers; the program's Ref. (Written by gen_bvT.py.) -/
import Derived.Test.YtkjffoebcblpoaaGreatMBvS
section
set_option linter.unusedVariables false
set_option linter.unusedSimpArgs false
set_option maxRecDepth 100000
namespace Go.Proofs.YtkjffoebcblpoaaGreat.gn
open Go.RowKit Go.Shelf
open Go.Proofs.YtkjffoebcblpoaaGreat.bu (Bf May Valid place same refS insR jobOk)

theorem bless_any (x y : Int) (w : World) : Calls Tryz.prog 75 #[.int .i64 x, .int .i64 y] w (fun e w' => e = .returned (.bool (decide (x < y))) ∧ w = w') := by
  go_enter Tryz.func75, Tryz.ntmps75
  go_wp2
  go_ret
  exact ⟨rfl, rfl⟩
/-- Where t stands, or would. -/
def SaysAt (l : List Int) (t : Int) (w : World) (e : Ending) (w' : World) : Prop :=
  ∃ (i : Nat) (b : Bool), i ≤ l.length ∧ (∀ q (h : q < l.length), q < i → l[q] < t) ∧ (∀ q (h : q < l.length), i ≤ q → t ≤ l[q]) ∧ (b = true ↔ ∃ h : i < l.length, l[i] = t) ∧ e = .returned (.tuple #[.int .i64 (i : Int), .bool b]) ∧ w = w'
theorem bsearch_some (b o cap : Nat) (l : List Int) (t : Int) (w : World) (hm : l.length ≤ 2002) (hs : l.Pairwise (· < ·)) (hc : ∀ j (h : j < l.length), w.cell? ⟨b, o + j, none⟩ = some (.int .i64 l[j])) :
    Calls Tryz.prog 47 #[.slice (some ⟨b, o, none⟩) l.length cap, .int .i64 t] w (SaysAt l t w) := by
  have HC := Lib.hid hc
  have HS := Lib.hid hs
  clear hc hs
  go_enter Tryz.func47, Tryz.ntmps47
  go_wp2
  go_loop [7, 8] (fun v7 v8 => ∃ i j : Nat, i ≤ j ∧ j ≤ l.length ∧ v7 = .int .i64 (i : Int) ∧ v8 = .int .i64 (j : Int) ∧ (∀ q (h : q < l.length), q < i → l[q] < t) ∧ (∀ q (h : q < l.length), j ≤ q → t ≤ l[q])) (fun v7 v8 => ((intOf v8) - (intOf v7)).toNat)
  case atStart => exact ⟨0, l.length, by omega, by omega, rfl, rfl, fun q _ h => by omega, fun q h h' => by omega⟩
  case round =>
    obtain ⟨i, j, hij, hj, rfl, rfl, hlo, hhi⟩ := hrel
    have HLo := Lib.hid hlo
    have HHi := Lib.hid hhi
    clear hlo hhi
    by_cases hlt : i < j
    · have hh : (i + j) / 2 < l.length := by omega
      have hcell := HC.out _ hh
      have hp : Hid (∀ q (h : q < l.length), (i + j) / 2 ≤ q → l[(i + j) / 2] ≤ l[q]) := fun q h h' => by
        rcases Nat.lt_or_eq_of_le h' with h3 | h3
        · have := List.pairwise_iff_getElem.1 HS.out _ _ hh h h3; omega
        · simp only [h3]; exact Int.le_refl _
      have hp2 : Hid (∀ q (h : q < l.length), q < (i + j) / 2 + 1 → l[q] ≤ l[(i + j) / 2]) := fun q h h' => by
        rcases Nat.lt_or_eq_of_le (Nat.le_of_lt_succ h') with h3 | h3
        · have := List.pairwise_iff_getElem.1 HS.out _ _ h hh h3; omega
        · simp only [h3]; exact Int.le_refl _
      have hmid : i ≤ (i + j) / 2 ∧ (i + j) / 2 < j := ⟨by omega, by omega⟩
      have HM := Lib.hid hmid
      clear hmid
      generalize hx : l[(i + j) / 2] = x at *
      clear hx
      by_cases hxt : x < t
      · have hd : decide (x < t) = true := decide_eq_true hxt
        have HX := Lib.hid hxt
        clear hxt
        go_wp2_with (go_at_call 75; ((with_reducible refine (bless_any _ _ _).mono ?_); rintro e w' ⟨rfl, rfl⟩))
        go_round
        case rel => exact ⟨(i + j) / 2 + 1, j, by have := HM.out; omega, hj, by congr 1, rfl, fun q h h' => by have := hp2.out q h h'; have := HX.out; omega, HHi.out⟩
        case measure => have := HM.out; simp [intOf]; omega
      · have hd : decide (x < t) = false := decide_eq_false hxt
        have HX := Lib.hid hxt
        clear hxt
        go_wp2_with (go_at_call 75; ((with_reducible refine (bless_any _ _ _).mono ?_); rintro e w' ⟨rfl, rfl⟩))
        go_round
        case rel => exact ⟨i, (i + j) / 2, by have := HM.out; omega, by have := HM.out; omega, rfl, by congr 1, HLo.out, fun q h h' => by have := hp.out q h h'; have := HX.out; omega⟩
        case measure => have := HM.out; simp [intOf]; omega
    · obtain rfl : i = j := by omega
      by_cases hlt2 : i < l.length
      · have hcell := HC.out i hlt2
        have hx : ∀ z, l[i] = z → (∃ h : i < l.length, l[i] = t) = (z = t) := fun z h => by
          subst h; exact propext ⟨fun ⟨_, h⟩ => h, fun h => ⟨hlt2, h⟩⟩
        generalize hz : l[i] = z at *
        have HE := Lib.hid (hx z rfl)
        have HZ := Lib.hid hz
        clear hx hz
        by_cases he : z = t
        · have hb : (z == t) = true := beq_iff_eq.2 he
          have hfin : Hid (∃ h : i < l.length, l[i] = t) := ⟨hlt2, by rw [HZ.out]; exact he⟩
          clear he
          go_wp2
          go_ret2
          exact ⟨i, true, hj, HLo.out, HHi.out, ⟨fun _ => hfin.out, fun _ => rfl⟩, rfl, rfl⟩
        · have hb : (z == t) = false := beq_eq_false_iff_ne.2 he
          have hfin : Hid (¬ ∃ h : i < l.length, l[i] = t) := fun ⟨_, h⟩ => by rw [HZ.out] at h; exact absurd h he
          clear he
          go_wp2
          go_ret2
          exact ⟨i, false, hj, HLo.out, HHi.out, ⟨fun h => (by cases h), fun h => absurd h hfin.out⟩, rfl, rfl⟩
      · have hfin : Hid (¬ ∃ h : i < l.length, l[i] = t) := fun ⟨h, _⟩ => absurd h hlt2
        go_wp2
        go_ret2
        exact ⟨i, false, hj, HLo.out, HHi.out, ⟨fun h => (by cases h), fun h => absurd h hfin.out⟩, rfl, rfl⟩
theorem bsearch_any {w : World} {v : Value} {l : List Int} (h : RI w v l) (hl : l.length ≤ 1000) (hs : l.Pairwise (· < ·)) (t : Int) :
    Calls Tryz.prog 47 #[v, .int .i64 t] w (SaysAt l t w) := by
  obtain ⟨p, c, rfl, f⟩ := h.form
  by_cases h0 : l = []
  · subst h0
    clear f h hs hl
    show Calls _ _ #[.slice p 0 c, .int .i64 t] w _
    go_enter Tryz.func47, Tryz.ntmps47
    go_wp2
    refine wp_loop_rounds 1 ?_
    rw [rounds_succ]
    go_wp2
    go_ret2
    exact ⟨0, false, Nat.zero_le _, (fun q hq => by simp at hq), (fun q hq => by simp at hq), ⟨(fun h => by cases h), fun hh => by obtain ⟨hh, _⟩ := hh; simp at hh⟩, rfl, rfl⟩
  · obtain ⟨k, off, rfl, hk, hc⟩ := f h0
    exact bsearch_some k off c l t w (by omega) hs fun j hj => hc j _ (List.getElem?_eq_getElem hj)
theorem sa_yes {l : List Int} {job : Int} {i : Nat} (h : ∃ h : i < l.length, l[i] = job) : job ∈ l := by
  obtain ⟨h1, rfl⟩ := h
  exact List.getElem_mem h1
theorem sa_no {l : List Int} {job : Int} {i : Nat} (hs : l.Pairwise (· < ·)) (hi : i ≤ l.length) (lo : ∀ q (h : q < l.length), q < i → l[q] < job) (hhi : ∀ q (h : q < l.length), i ≤ q → job ≤ l[q]) (hb : ¬ ∃ h : i < l.length, l[i] = job) : job ∉ l ∧ l.take i ++ job :: l.drop i = insR job l := by
  have h1 : ∀ q (h : q < l.length), i ≤ q → job < l[q] := fun q h hq => by
    have hil : i < l.length := by omega
    have h2 := hhi i hil (Nat.le_refl _)
    have h3 : l[i] ≠ job := fun e => hb ⟨hil, e⟩
    rcases Nat.lt_or_eq_of_le hq with h4 | h4
    · have := List.pairwise_iff_getElem.1 hs i q hil h h4
      omega
    · subst h4
      omega
  refine ⟨fun hm => ?_, bu.insR_at hi (fun q n hq hlt => ?_) fun q n hq hle => ?_⟩
  · obtain ⟨q, hq, e⟩ := List.getElem_of_mem hm
    by_cases hqi : q < i
    · have := lo q hq hqi
      omega
    · have := h1 q hq (by omega)
      omega
  · obtain ⟨h5, rfl⟩ := List.getElem?_eq_some_iff.1 hq
    exact lo q h5 hlt
  · obtain ⟨h5, rfl⟩ := List.getElem?_eq_some_iff.1 hq
    exact h1 q h5 hle
theorem insR_len2 (j : Int) (l : List Int) : (insR j l).length = l.length + 1 := bu.insR_len j l
set_option maxHeartbeats 6400000 in
theorem pref_any {w : World} {v : Value} {L : List (Bf × Gb)} (h : RBs w v L) (hI : BIs L) (name user : List UInt8) (job : Int) :
    Calls Tryz.prog 14 #[v, .string (str name), .string (str user), .int .i64 job] w (RowP w (refS (L.map Prod.fst) name user job).1 (refS (L.map Prod.fst) name user job).2) := by
  have HCH := Lib.hid (pcheck_any h hI)
  have HNA := Lib.hid (fun (Y : World) => named_any name Y)
  have HJB := Lib.hid (fun (Y : World) => number_any job Y)
  have HCK := Lib.hid (fun (Y : World) => (BoxA.cell (BoxA.new Y 9 #[.string (str name)]) 0 _ rfl : (Y.alloc (.cells #[.string (str name)] 9)).cell? ⟨Y.heap.size, 0, none⟩ = some (.string (str name))))
  have eg : ∀ args w, (callFunc 74 args).run Tryz.prog w = .ok (.enter 74 args) w := enters_of Tryz.func74 (by kernel_rfl) rfl
  have HPL := Lib.hid (fun (Y : World) (hy : Below w.heap.size w Y) => (index_any ((h.next hy).next ((Below.refl _ Y).alloc (Nat.le_refl Y.heap.size) (.cells #[.string (str name)] 9))) hI.len 74 #[.pointer (some ⟨Y.heap.size, 0, none⟩)] eg (same 0 name) fun Z q hz => named1_any Z Y.heap.size name q ((low_cell hz (lt_cellB (HCK.out Y))).trans (HCK.out Y))).mono fun e w' hh => (show e = .returned (.int .i64 (pI (place (L.map Prod.fst) 0 name))) ∧ Below Y.heap.size Y w' from ⟨hh.1, ((Below.refl _ Y).alloc (Nat.le_refl _) _).trans (hh.2.mono (by simp))⟩))
  have HCO := Lib.hid (fun (hl2 : L.length ≤ 1000) (hx : ∀ q ∈ L, q.1.exts.length ≤ 1000000 ∧ q.1.refs.length ≤ 1000000) (Y : World) (hy : Below w.heap.size w Y) => copies2_any (h.next hy) hl2 hx)
  have HRL := Lib.hid (fun (Y : World) (hy : Below w.heap.size w Y) => (h.next hy).rows)
  obtain ⟨p, c, rfl, f⟩ := h.form
  obtain ⟨n, hn⟩ : ∃ n, L.length = n := ⟨_, rfl⟩
  rw [hn] at HCH HPL HCO ⊢
  have HF := Lib.hid f
  have HN := Lib.hid hn
  have HI := Lib.hid hI
  have hn1 : n ≤ 140737488355328 := by rw [← hn]; exact hI.len
  clear h hI f hn
  by_cases hV : Valid (L.map Prod.fst)
  rotate_left
  · have HR := Lib.hid (show refS (L.map Prod.fst) name user job = ([], 170) by unfold bu.refS; rw [if_pos fun hh => hV hh.1])
    rw [vE_no hV] at HCH
    clear hV
    go_enter Tryz.func14, Tryz.ntmps14
    go_wp2_with (first
          | (go_at_call 11; ((with_reducible refine HCH.out.mono ?_); rintro e w5 ⟨rfl, hb⟩); have A5 := Lib.hid (show Below w.heap.size w w5 from hb); clear hb))
    go_ret2
    rw [HR.out]
    exact rowP_no A5.out
  rw [show vE (L.map Prod.fst) = 0 from if_pos hV] at HCH
  by_cases hjo : jobOk job
  rotate_left
  · have HR := Lib.hid (show refS (L.map Prod.fst) name user job = ([], 170) by unfold bu.refS; rw [if_pos fun hh => hjo hh.2])
    rw [decide_eq_false hjo] at HJB
    clear hV hjo
    go_enter Tryz.func14, Tryz.ntmps14
    go_wp2_with (first
          | (go_at_call 11; ((with_reducible refine HCH.out.mono ?_); rintro e w5 ⟨rfl, hb⟩); have A5 := Lib.hid (show Below w.heap.size w w5 from hb); clear hb)
          | (go_at_call 44; ((with_reducible refine (HJB.out _).mono ?_); rintro e w4 ⟨rfl, rfl⟩)))
    go_ret2
    rw [HR.out]
    exact rowP_no A5.out
  rw [decide_eq_true hjo] at HJB
  have HJO := Lib.hid hjo
  cases hpl : place (L.map Prod.fst) 0 name with
  | none =>
    rw [hpl] at HPL
    unfold pI at HPL
    dsimp only at HPL
    have HR := Lib.hid (show refS (L.map Prod.fst) name user job = ([], 7) by unfold bu.refS; rw [if_neg (not_not_intro ⟨hV, hjo⟩), hpl])
    clear hV hjo hpl
    go_enter Tryz.func14, Tryz.ntmps14
    go_wp2_with (first
          | (go_at_call 11; ((with_reducible refine HCH.out.mono ?_); rintro e w5 ⟨rfl, hb⟩); have A5 := Lib.hid (show Below w.heap.size w w5 from hb); clear hb)
          | (go_at_call 44; ((with_reducible refine (HJB.out _).mono ?_); rintro e w4 ⟨rfl, rfl⟩))
          | (go_at_call 46; ((with_reducible refine (HNA.out _).mono ?_); rintro e w4 ⟨rfl, rfl⟩))
          | (go_at_call 45; ((with_reducible refine (HPL.out _ A5.out).mono ?_); rintro e w6 ⟨rfl, hb⟩); have A6 := Lib.hid (show Below w.heap.size w w6 from A5.out.trans (hb.mono A5.out.size)); clear hb))
    go_ret2
    rw [HR.out]
    exact rowP_no A6.out
  | some i =>
    obtain ⟨b0, hb0, -, -, hi⟩ := bu.place_some hpl
    rw [List.length_map, HN.out] at hi
    obtain ⟨q, hq⟩ : ∃ q, L[i]? = some q := ⟨_, List.getElem?_eq_getElem (by rw [HN.out]; exact hi)⟩
    have HR0 := Lib.hid (show refS (L.map Prod.fst) name user job = if q.1.opn = false ∧ q.1.user ≠ user then ([], 171) else if job ∈ q.1.refs then ([], 8) else if q.1.refs.length = 200 then ([], 6) else ((L.map Prod.fst).set i { q.1 with refs := insR job q.1.refs }, 0) by unfold bu.refS; rw [if_neg (not_not_intro ⟨hV, hjo⟩), hpl]; dsimp only; rw [fst_at hq])
    have hn2 : n ≤ 200 := by have := hV.1; rw [List.length_map, HN.out] at this; exact this
    have HMQ := Lib.hid (hV.2.1 q.1 (List.mem_of_getElem? (fst_at hq)))
    obtain ⟨kb, off, rfl, hk, hc⟩ := BC.of (HF.out (ne_of_at hq))
    have HC := Lib.hid (fun (Y : World) (hy : Below w.heap.size w Y) => (show BC L kb off Y from hc.next hk hy))
    have HK := Lib.hid hk
    have HQ := Lib.hid hq
    rw [hpl] at HPL
    unfold pI at HPL
    dsimp only at HPL
    have d0 : decide ((i : Int) < 0) = false := decide_eq_false (by omega)
    have HQR := Lib.hid (fun (Y : World) (hy : Below w.heap.size w Y) => HRL.out Y hy q (List.mem_of_getElem? hq))
    have HQI := Lib.hid (HI.out.all q (List.mem_of_getElem? hq))
    have HLM := Lib.hid (show ∀ q ∈ L, q.1.exts.length ≤ 1000000 ∧ q.1.refs.length ≤ 1000000 from fun q hq => may_len (hV.2.1 q.1 (List.mem_map.2 ⟨q, hq, rfl⟩)))
    have HC1 := Lib.hid (HCO.out (by omega) HLM.out)
    have hro : q.1.refs.length ≤ 200 ∧ q.1.refs.Pairwise (· < ·) := by
      by_cases hz : q.1.job = 0
      · exact ⟨(HMQ.out.2.2.2.2.2 hz).2.1, (HMQ.out.2.2.2.2.2 hz).2.2.2⟩
      · rw [(HMQ.out.2.2.2.2.1 hz).2.2.2]
        exact ⟨by simp, .nil⟩
    have HRO := Lib.hid hro
    have HSE := Lib.hid (fun (Y : World) (hy : Below w.heap.size w Y) => bsearch_any (HQR.out Y hy).r (by have := hro.1; omega) hro.2 job)
    clear hV hjo hpl hb0 hq hk hc HF HCO hro
    obtain ⟨pr, cr, hgr, -⟩ := (HQR.out w (Below.refl _ _)).r.form
    obtain ⟨nr, hnr⟩ : ∃ n, q.1.refs.length = n := ⟨_, rfl⟩
    rw [hnr] at hgr
    rw [hgr] at HSE
    have HGR := Lib.hid hgr
    have HNR := Lib.hid hnr
    have hnr2 : nr ≤ 200 := by rw [← hnr]; exact HRO.out.1
    have CE := Lib.hid (fun (Y : World) (hy : Below w.heap.size w Y) => (show Y.cell? ⟨kb, off + i * 7 + 2, none⟩ = some (.string (str q.1.user)) ∧ Y.cell? ⟨kb, off + i * 7 + 4, none⟩ = some (.bool q.1.opn) ∧ Y.cell? ⟨kb, off + i * 7 + 6, none⟩ = some (.slice pr nr cr) from ⟨(HC.out Y hy).cell HQ.out 2 _ rfl, (HC.out Y hy).cell HQ.out 4 _ rfl, by rw [← HGR.out]; exact (HC.out Y hy).cell HQ.out 6 _ rfl⟩))
    clear hgr hnr
    obtain ⟨op, hop⟩ : ∃ op, q.1.opn = op := ⟨_, rfl⟩
    rw [hop] at CE
    have HOP := Lib.hid hop
    clear hop
    by_cases hp : op = false ∧ q.1.user ≠ user
    · have q1 : ((str q.1.user).toList != (str user).toList) = true := by rw [str_toList, str_toList, bne_iff_ne]; exact hp.2
      have q2 : ((str q.1.user).toList == (str user).toList) = false := by rw [str_toList, str_toList, beq_eq_false_iff_ne]; exact hp.2
      have q3 : ¬ (str q.1.user).toList = (str user).toList := by rw [str_toList, str_toList]; exact hp.2
      obtain rfl := hp.1
      have HR := Lib.hid (show refS (L.map Prod.fst) name user job = ([], 171) by rw [HR0.out, if_pos ⟨HOP.out, hp.2⟩])
      clear hp
      go_enter Tryz.func14, Tryz.ntmps14
      go_wp2_with (first
            | (go_at_call 11; ((with_reducible refine HCH.out.mono ?_); rintro e w5 ⟨rfl, hb⟩); have A5 := Lib.hid (show Below w.heap.size w w5 from hb); clear hb)
            | (go_at_call 44; ((with_reducible refine (HJB.out _).mono ?_); rintro e w4 ⟨rfl, rfl⟩))
            | (go_at_call 46; ((with_reducible refine (HNA.out _).mono ?_); rintro e w4 ⟨rfl, rfl⟩))
            | (go_at_call 45; ((with_reducible refine (HPL.out _ A5.out).mono ?_); rintro e w6 ⟨rfl, hb⟩); have A6 := Lib.hid (show Below w.heap.size w w6 from A5.out.trans (hb.mono A5.out.size)); obtain ⟨cq2, cq4, cq6⟩ := CE.out _ A6.out; have lq : kb < w6.heap.size := Nat.lt_of_lt_of_le HK.out A6.out.size; clear hb))
      go_ret2
      rw [HR.out]
      exact rowP_no A6.out
    have HR1 := Lib.hid (HR0.out.trans (if_neg (by rw [HOP.out]; exact hp)))
    have HPP := Lib.hid hp
    clear hp
    by_cases hu : q.1.user = user
    · have q1 : ((str q.1.user).toList != (str user).toList) = false := by rw [str_toList, str_toList, bne_eq_false_iff_eq]; exact hu
      have q2 : ((str q.1.user).toList == (str user).toList) = true := by rw [str_toList, str_toList, beq_iff_eq]; exact hu
      have q3 : (str q.1.user).toList = (str user).toList := by rw [hu]
      clear hu
      go_enter Tryz.func14, Tryz.ntmps14
      go_upto_region 9 with (first
            | (go_at_call 11; ((with_reducible refine HCH.out.mono ?_); rintro e w5 ⟨rfl, hb⟩); have A5 := Lib.hid (show Below w.heap.size w w5 from hb); clear hb)
            | (go_at_call 44; ((with_reducible refine (HJB.out _).mono ?_); rintro e w4 ⟨rfl, rfl⟩))
            | (go_at_call 46; ((with_reducible refine (HNA.out _).mono ?_); rintro e w4 ⟨rfl, rfl⟩))
            | (go_at_call 45; ((with_reducible refine (HPL.out _ A5.out).mono ?_); rintro e w6 ⟨rfl, hb⟩); have A6 := Lib.hid (show Below w.heap.size w w6 from A5.out.trans (hb.mono A5.out.size)); obtain ⟨cq2, cq4, cq6⟩ := CE.out _ A6.out; have lq : kb < w6.heap.size := Nat.lt_of_lt_of_le HK.out A6.out.size; clear hb)
            | (go_at_call 47; ((with_reducible refine (HSE.out _ A6.out).mono ?_); rintro e w7 ⟨at_, b, hat, hlo, hhi, hbb, rfl, rfl⟩; have S7 := Lib.hid (And.intro hat (And.intro hlo (And.intro hhi hbb))); clear hat hlo hhi hbb)))
      obtain ⟨s1, s2, s3, s4⟩ := S7.out
      cases b with
      | true =>
        have HR := Lib.hid (show refS (L.map Prod.fst) name user job = ([], 8) by rw [HR1.out, if_pos (sa_yes (s4.1 rfl))])
        clear s1 s2 s3 s4
        go_wp2
        go_ret2
        rw [HR.out]
        exact rowP_no A6.out
      | false =>
        obtain ⟨s5, s6⟩ := sa_no HRO.out.2 s1 s2 s3 (fun hh => by cases s4.2 hh)
        have HAT := Lib.hid (And.intro s1 s6)
        have HR2 := Lib.hid (HR1.out.trans (if_neg s5))
        clear s1 s2 s3 s4 s5 s6
        by_cases h2 : nr = 200
        · have HR := Lib.hid (show refS (L.map Prod.fst) name user job = ([], 6) by rw [HR2.out, if_pos (by rw [HNR.out]; exact h2)])
          have d2 : ((nr : Int) == 200) = true := by rw [beq_iff_eq]; omega
          clear h2
          go_wp2
          go_ret2
          rw [HR.out]
          exact rowP_no A6.out
        · have HR := Lib.hid (HR2.out.trans (if_neg (by rw [HNR.out]; exact h2)))
          have d2 : ((nr : Int) == 200) = false := by rw [beq_eq_false_iff_ne]; omega
          go_upto_region 14 with (go_at_call 34; ((with_reducible refine (HC1.out _ A6.out).mono ?_); rintro e w8 ⟨u8, M8, rfl, hm8, ho8, hn8, hb8⟩); have A8 := Lib.hid (show Below w.heap.size w w8 from A6.out.trans (hb8.mono A6.out.size)); have M8' := Lib.hid (And.intro hm8 (And.intro (ho8.mono A6.out.size) hn8)); clear hm8 ho8 hn8 hb8)
          have HML := Lib.hid (show M8.length = n by have := congrArg List.length M8'.out.1; rw [List.length_map, List.length_map, HN.out] at this; exact this)
          obtain ⟨q8, hq8⟩ : ∃ q8, M8[i]? = some q8 := ⟨_, List.getElem?_eq_getElem (by rw [HML.out]; exact hi)⟩
          have he8 : q8.1 = q.1 := by
            have h1 := fst_at hq8
            rw [M8'.out.1, fst_at HQ.out] at h1
            exact (Option.some.inj h1).symm
          obtain ⟨b8, x8⟩ := q8
          dsimp only at he8
          subst he8
          obtain ⟨g, c8, hv8, hO8⟩ := M8'.out.2.1.row.own (ne_of_at hq8)
          rw [HML.out] at hv8
          subst hv8
          have HO8 := Lib.hid (show ApC w.heap.size 26 7 w8 (.slice (some ⟨g, 0, none⟩) n c8) n (bcl M8) by have := M8'.out.2.1.row.row; rwa [HML.out] at this)
          have HQ8 := Lib.hid hq8
          obtain ⟨ex, rx⟩ := x8
          have HRX := Lib.hid (show OutI w.heap.size w8 rx q.1.refs from M8'.out.2.1.r _ (List.mem_of_getElem? hq8))
          obtain ⟨px, cx, hrx, -⟩ := ApC.form HRX.out
          rw [HNR.out] at hrx
          subst hrx
          obtain ⟨k1, k2, k3⟩ := row_cell HO8.out HQ8.out
          dsimp only at k1
          have HB9 := Lib.hid (BoxA.new w8 2 #[.int .i64 job])
          have HL9 := Lib.hid ((Below.refl _ w8).alloc (Nat.le_refl w8.heap.size) (.cells #[.int .i64 job] 2))
          have HIN := Lib.hid (insI_any (OutI.next HRX.out HL9.out) HAT.out.1 (by rw [HNR.out]; omega) w8.heap.size job HB9.out (fun hlt e => by
            rcases ApC.blk HRX.out with ⟨p, hp⟩ | hp
            · simp only [Value.slice.injEq] at hp
              rw [HNR.out] at hlt
              omega
            · have := (hp _ e).2
              omega) (Nat.le_trans A8.out.size HL9.out.size))
          have ii : (0 : Int) ≤ (i : Int) := by omega
          have ij : (i : Int) < (n : Int) := by omega
          clear hq8 hO8
          go_upto_region 15 with (go_at_call 48; ((with_reducible refine HIN.out.mono ?_); rintro e w10 ⟨u, rfl, hu, hg⟩; obtain ⟨pu, nu, cu, rfl⟩ := slice3 hu; have D10 := Lib.hid (And.intro hu hg); have HO10 := Lib.hid (ApC.rowG (by decide) (HO8.out.next HL9.out) hg); clear hu hg; obtain ⟨x6, f6, l6⟩ := row_cell HO10.out HQ8.out))
          have HSR := Lib.hid ((M8'.out.2.1.next HL9.out).setRefs HQ8.out (fun j p hj hp => M8'.out.2.2.at (by rw [HML.out]; exact Nat.le_refl _) HQ8.out hp hj) D10.out.2 D10.out.1 (Nat.le_trans A8.out.size HL9.out.size))
          have HLF := Lib.hid (show Below w.heap.size w _ from (A8.out.trans (HL9.out.mono A8.out.size)).trans HSR.out.2)
          rw [HAT.out.2] at HSR
          go_wp2
          go_ret2
          refine ⟨_, _, by rw [HR.out]; rfl, ?_, HSR.out.1, ⟨by rw [List.length_set, HML.out]; omega, fun x hx => ?_⟩, HLF.out⟩
          · rw [HR.out, List.map_set, M8'.out.1]
          · rcases List.mem_or_eq_of_mem_set hx with hx | rfl
            · have h1 : x.1 ∈ L.map Prod.fst := by rw [← M8'.out.1]; exact List.mem_map.2 ⟨x, hx, rfl⟩
              obtain ⟨y, hy, h2⟩ := List.mem_map.1 h1
              rw [← h2]
              exact HI.out.all y hy
            · exact ⟨HQI.out.job, HQI.out.exts, fun r hr => by
                rcases bu.insR_mem.1 hr with rfl | hr
                · have := HJO.out
                  unfold bu.jobOk at this
                  omega
                · exact HQI.out.refs r hr, HQI.out.le, by
                show (insR job q.1.refs).length ≤ _
                rw [bu.insR_len, HNR.out]
                omega, HQI.out.ln, HQI.out.lu, HQI.out.lp⟩
    · have q1 : ((str q.1.user).toList != (str user).toList) = true := by rw [str_toList, str_toList, bne_iff_ne]; exact hu
      have q2 : ((str q.1.user).toList == (str user).toList) = false := by rw [str_toList, str_toList, beq_eq_false_iff_ne]; exact hu
      have q3 : ¬ (str q.1.user).toList = (str user).toList := by rw [str_toList, str_toList]; exact hu
      obtain rfl : op = true := by
        cases op
        · exact absurd ⟨rfl, hu⟩ HPP.out
        · rfl
      clear hu
      go_enter Tryz.func14, Tryz.ntmps14
      go_upto_region 9 with (first
            | (go_at_call 11; ((with_reducible refine HCH.out.mono ?_); rintro e w5 ⟨rfl, hb⟩); have A5 := Lib.hid (show Below w.heap.size w w5 from hb); clear hb)
            | (go_at_call 44; ((with_reducible refine (HJB.out _).mono ?_); rintro e w4 ⟨rfl, rfl⟩))
            | (go_at_call 46; ((with_reducible refine (HNA.out _).mono ?_); rintro e w4 ⟨rfl, rfl⟩))
            | (go_at_call 45; ((with_reducible refine (HPL.out _ A5.out).mono ?_); rintro e w6 ⟨rfl, hb⟩); have A6 := Lib.hid (show Below w.heap.size w w6 from A5.out.trans (hb.mono A5.out.size)); obtain ⟨cq2, cq4, cq6⟩ := CE.out _ A6.out; have lq : kb < w6.heap.size := Nat.lt_of_lt_of_le HK.out A6.out.size; clear hb)
            | (go_at_call 47; ((with_reducible refine (HSE.out _ A6.out).mono ?_); rintro e w7 ⟨at_, b, hat, hlo, hhi, hbb, rfl, rfl⟩; have S7 := Lib.hid (And.intro hat (And.intro hlo (And.intro hhi hbb))); clear hat hlo hhi hbb)))
      obtain ⟨s1, s2, s3, s4⟩ := S7.out
      cases b with
      | true =>
        have HR := Lib.hid (show refS (L.map Prod.fst) name user job = ([], 8) by rw [HR1.out, if_pos (sa_yes (s4.1 rfl))])
        clear s1 s2 s3 s4
        go_wp2
        go_ret2
        rw [HR.out]
        exact rowP_no A6.out
      | false =>
        obtain ⟨s5, s6⟩ := sa_no HRO.out.2 s1 s2 s3 (fun hh => by cases s4.2 hh)
        have HAT := Lib.hid (And.intro s1 s6)
        have HR2 := Lib.hid (HR1.out.trans (if_neg s5))
        clear s1 s2 s3 s4 s5 s6
        by_cases h2 : nr = 200
        · have HR := Lib.hid (show refS (L.map Prod.fst) name user job = ([], 6) by rw [HR2.out, if_pos (by rw [HNR.out]; exact h2)])
          have d2 : ((nr : Int) == 200) = true := by rw [beq_iff_eq]; omega
          clear h2
          go_wp2
          go_ret2
          rw [HR.out]
          exact rowP_no A6.out
        · have HR := Lib.hid (HR2.out.trans (if_neg (by rw [HNR.out]; exact h2)))
          have d2 : ((nr : Int) == 200) = false := by rw [beq_eq_false_iff_ne]; omega
          go_upto_region 14 with (go_at_call 34; ((with_reducible refine (HC1.out _ A6.out).mono ?_); rintro e w8 ⟨u8, M8, rfl, hm8, ho8, hn8, hb8⟩); have A8 := Lib.hid (show Below w.heap.size w w8 from A6.out.trans (hb8.mono A6.out.size)); have M8' := Lib.hid (And.intro hm8 (And.intro (ho8.mono A6.out.size) hn8)); clear hm8 ho8 hn8 hb8)
          have HML := Lib.hid (show M8.length = n by have := congrArg List.length M8'.out.1; rw [List.length_map, List.length_map, HN.out] at this; exact this)
          obtain ⟨q8, hq8⟩ : ∃ q8, M8[i]? = some q8 := ⟨_, List.getElem?_eq_getElem (by rw [HML.out]; exact hi)⟩
          have he8 : q8.1 = q.1 := by
            have h1 := fst_at hq8
            rw [M8'.out.1, fst_at HQ.out] at h1
            exact (Option.some.inj h1).symm
          obtain ⟨b8, x8⟩ := q8
          dsimp only at he8
          subst he8
          obtain ⟨g, c8, hv8, hO8⟩ := M8'.out.2.1.row.own (ne_of_at hq8)
          rw [HML.out] at hv8
          subst hv8
          have HO8 := Lib.hid (show ApC w.heap.size 26 7 w8 (.slice (some ⟨g, 0, none⟩) n c8) n (bcl M8) by have := M8'.out.2.1.row.row; rwa [HML.out] at this)
          have HQ8 := Lib.hid hq8
          obtain ⟨ex, rx⟩ := x8
          have HRX := Lib.hid (show OutI w.heap.size w8 rx q.1.refs from M8'.out.2.1.r _ (List.mem_of_getElem? hq8))
          obtain ⟨px, cx, hrx, -⟩ := ApC.form HRX.out
          rw [HNR.out] at hrx
          subst hrx
          obtain ⟨k1, k2, k3⟩ := row_cell HO8.out HQ8.out
          dsimp only at k1
          have HB9 := Lib.hid (BoxA.new w8 2 #[.int .i64 job])
          have HL9 := Lib.hid ((Below.refl _ w8).alloc (Nat.le_refl w8.heap.size) (.cells #[.int .i64 job] 2))
          have HIN := Lib.hid (insI_any (OutI.next HRX.out HL9.out) HAT.out.1 (by rw [HNR.out]; omega) w8.heap.size job HB9.out (fun hlt e => by
            rcases ApC.blk HRX.out with ⟨p, hp⟩ | hp
            · simp only [Value.slice.injEq] at hp
              rw [HNR.out] at hlt
              omega
            · have := (hp _ e).2
              omega) (Nat.le_trans A8.out.size HL9.out.size))
          have ii : (0 : Int) ≤ (i : Int) := by omega
          have ij : (i : Int) < (n : Int) := by omega
          clear hq8 hO8
          go_upto_region 15 with (go_at_call 48; ((with_reducible refine HIN.out.mono ?_); rintro e w10 ⟨u, rfl, hu, hg⟩; obtain ⟨pu, nu, cu, rfl⟩ := slice3 hu; have D10 := Lib.hid (And.intro hu hg); have HO10 := Lib.hid (ApC.rowG (by decide) (HO8.out.next HL9.out) hg); clear hu hg; obtain ⟨x6, f6, l6⟩ := row_cell HO10.out HQ8.out))
          have HSR := Lib.hid ((M8'.out.2.1.next HL9.out).setRefs HQ8.out (fun j p hj hp => M8'.out.2.2.at (by rw [HML.out]; exact Nat.le_refl _) HQ8.out hp hj) D10.out.2 D10.out.1 (Nat.le_trans A8.out.size HL9.out.size))
          have HLF := Lib.hid (show Below w.heap.size w _ from (A8.out.trans (HL9.out.mono A8.out.size)).trans HSR.out.2)
          rw [HAT.out.2] at HSR
          go_wp2
          go_ret2
          refine ⟨_, _, by rw [HR.out]; rfl, ?_, HSR.out.1, ⟨by rw [List.length_set, HML.out]; omega, fun x hx => ?_⟩, HLF.out⟩
          · rw [HR.out, List.map_set, M8'.out.1]
          · rcases List.mem_or_eq_of_mem_set hx with hx | rfl
            · have h1 : x.1 ∈ L.map Prod.fst := by rw [← M8'.out.1]; exact List.mem_map.2 ⟨x, hx, rfl⟩
              obtain ⟨y, hy, h2⟩ := List.mem_map.1 h1
              rw [← h2]
              exact HI.out.all y hy
            · exact ⟨HQI.out.job, HQI.out.exts, fun r hr => by
                rcases bu.insR_mem.1 hr with rfl | hr
                · have := HJO.out
                  unfold bu.jobOk at this
                  omega
                · exact HQI.out.refs r hr, HQI.out.le, by
                show (insR job q.1.refs).length ≤ _
                rw [bu.insR_len, HNR.out]
                omega, HQI.out.ln, HQI.out.lu, HQI.out.lp⟩
end Go.Proofs.YtkjffoebcblpoaaGreat.gn
end
