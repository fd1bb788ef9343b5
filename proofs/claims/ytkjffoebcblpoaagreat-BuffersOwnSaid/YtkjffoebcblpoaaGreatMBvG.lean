/- The program's sorts: a pool's extents; buffers. -/
import Derived.Test.YtkjffoebcblpoaaGreatMBvE
import Derived.Test.YtkjffoebcblpoaaGreatMUnE
import Derived.Test.YtkjffoebcblpoaaGreatMBvF
section
set_option linter.unusedVariables false
set_option linter.unusedSimpArgs false
set_option maxRecDepth 100000
namespace Go.Proofs.YtkjffoebcblpoaaGreat.gn
open Go.RowKit Go.Shelf Go.Sort Go.Lib
open Go.Proofs.YtkjffoebcblpoaaGreat.ex
open Go.Proofs.YtkjffoebcblpoaaGreat.bu (Bf May jobOk cmpJ cmpB lt)

attribute [local go_sem] Oper.semAt_some

theorem ap1_any (x y : X) (w : World) : Calls Tryz.prog 70 #[aggX x, aggX y] w fun e w' => e = .returned (.int .i64 (cf x y)) ∧ ∃ q os, w' = Sort.grow (w.drewN q) os := by
  obtain ⟨a, b⟩ := x
  obtain ⟨c, d⟩ := y
  have k1 := (Box2.new w 55 (.int .i64 a) (.int .i64 b)).alloc (boxX (c, d))
  have k2 := Box2.new (w.alloc (boxX (a, b))) 55 (.int .i64 c) (.int .i64 d)
  have p0 := k1.cell0
  have q0 := k2.cell0
  rw [World.size_alloc] at q0
  have c3 := fun W => bcmp_any a c W
  have hc : cf (a, b) (c, d) = cmpJ a c := rfl
  rw [hc]
  generalize cmpJ a c = r at *
  clear k1 k2 hc
  go_enter Tryz.func70, Tryz.ntmps70
  go_wp2_with (go_at_call 62; refine (c3 _).mono ?_; rintro e w' ⟨rfl, rfl⟩)
  go_ret
  exact ⟨rfl, 0, #[boxX (a, b)] ++ #[boxX (c, d)], by rw [grow_one, grow_one, grow_grow]; rfl⟩
theorem grown_sw {α : Type} [Inhabited α] {enc : α → List Value} {k : Nat} {w w' : World} {blk off : Nat} {d : Array α} (h : SWK enc k w blk off d w') : w.grownBy w' (some blk) := by
  obtain ⟨n, os, rfl⟩ := h
  unfold sortWorldK
  refine ⟨rfl, rfl, rfl, ?_, fun j hj hne => ?_⟩
  · rw [size_grow, size_putRowK]; exact Nat.le_add_right _ _
  · have hbj : blk ≠ j := fun e => hne (by rw [e])
    rw [heap_grow_old _ _ (by rw [size_putRowK]; show j < w.heap.size; omega)]
    simp [putRowK, putRow, mapBlock, Sort.ahead, Array.getElem?_modify, hbj]
theorem sortX_any {base : Nat} {w : World} {v : Value} {l : List X} (h : OwnX base w v l) (hl : l.length ≤ 1000000) :
    Calls Tryz.prog 69 #[v, .func (.func 70) #[] #[]] w fun e w' => e = .returned (.tuple #[]) ∧ w.grownBy w' v.ownBlock ∧ ∃ s, RdS w' v s ∧ s.Perm l ∧ Inc s := by
  cases l with
  | nil =>
    obtain ⟨p, c, rfl⟩ := h.rd.len
    have := AnyF.slices_SortFunc_none laySortFunc p c (.func (.func 70) #[] #[]) w
    refine Calls.mono (f := 69) this ?_
    rintro e w' ⟨rfl, rfl⟩
    exact ⟨rfl, ⟨rfl, rfl, rfl, Nat.le_refl _, fun _ _ _ => rfl⟩, [], h.rds, .refl _, .nil⟩
  | cons x0 l0 =>
    generalize hL : x0 :: l0 = l at *
    have hpos : l.length ≠ 0 := by rw [← hL]; simp
    clear hL
    obtain ⟨h1, ⟨rfl, h2⟩ | ⟨g, cap, cur, rfl, hb, hg, hn, hcap, hcur, htake⟩⟩ := h
    · exact absurd h2 hpos
    · have hglt : g < w.heap.size := (Array.getElem?_eq_some_iff.1 hg).1
      have hH : HoldsK encX 2 w g 0 l.toArray := by
        unfold HoldsK
        rw [flat_fl]
        intro j hj
        have hj' : j < (fl l).length := by simpa using hj
        refine ⟨?_, by simp [World.frozen?, hg]⟩
        have hc := World.ownsRow.cells (⟨h1, .inr ⟨g, cap, cur, rfl, hb, hg, hn, hcap, hcur, htake⟩⟩ : w.ownsRow base 55 2 (.slice (some ⟨g, 0, none⟩) l.length cap) l.length (fl l)) rfl j (fl l)[j] (List.getElem?_eq_getElem hj')
        rw [Addr.add_lit] at hc
        rw [hc]
        simp [hj']
      have M : Srt Tryz.prog encX 2 cf 70 #[] #[] w g 0 l.toArray :=
        { R := ⟨fun _ => rfl, fun x v hv => by simp [encX] at hv; rcases hv with rfl | rfl <;> rfl, hH, hglt⟩
          hO := cf_swo
          hsz := by simp; omega
          eg := enters_of Tryz.func70 (by kernel_rfl) rfl
          says := fun d W _ _ x y => ap1_any x y W }
      have := sv_sort laySortFunc elt37 (cap := cap) M
      rw [List.size_toArray] at this
      refine Calls.mono (f := 69) this ?_
      rintro e w' ⟨rfl, d', ⟨hp, hs⟩, S⟩
      have hsz : d'.size = l.length := by rw [hp.1]; simp
      have hH' := S.holds hglt hH (by rw [hsz]; simp)
      refine ⟨rfl, grown_sw S, d'.toList, .inr ⟨g, 0, cap, by simp [hsz], S.lt hglt, fun j hj => ?_⟩, ?_, ?_⟩
      · have hj' : j < d'.size := by simpa using hj
        have a := (hH'.cell hj' (show 0 < 2 by omega)).1
        have b := (hH'.cell hj' (show 1 < 2 by omega)).1
        rw [(enc_cell _).1, Nat.add_zero] at a
        rw [(enc_cell _).2] at b
        have e0 : d'.toList[j]! = d'[j]! := by rw [getElem!_pos d' j hj', getElem!_pos d'.toList j (by simpa using hj')]; simp
        rw [e0]
        exact ⟨a, b⟩
      · have hperm := hp.2.2
        rw [show (d'.extract 0 l.length) = d' by rw [← hsz]; simp, show (l.toArray.extract 0 l.length) = l.toArray by simp] at hperm
        simpa using hperm
      · refine List.pairwise_iff_getElem.2 fun i j hi hj hij => ?_
        have hj' : j < d'.size := by simpa using hj
        have := hs i j (Nat.zero_le _) hij (by omega)
        rw [lt_cf, decide_eq_false_iff_not, getElem!_pos d' i (by omega), getElem!_pos d' j hj'] at this
        simp only [Array.getElem_toList]
        omega

/-! ### buffers -/
/-- A buffer with its cells, each of one cell. -/
abbrev OneB := { q : Bf × Gb // ∀ u ∈ encB q, u.oneCell' = true }
instance : Inhabited OneB := ⟨⟨(Bf.zero, gZ), by
  intro u hu
  simp [encB, bcs, gZ] at hu
  rcases hu with rfl | rfl | rfl | rfl | rfl | rfl | rfl <;> rfl⟩⟩
def cfB (p q : OneB) : Int := cmpB p.1.1 q.1.1
theorem lt_cfB (x y : OneB) : ltOf cfB x y = lt x.1.1 y.1.1 := by
  show decide (cmpB x.1.1 y.1.1 < 0) = _
  rw [Bool.eq_iff_iff, decide_eq_true_eq, bu.cmpB_neg]
theorem cfB_swo : SWO (ltOf cfB) where
  irrefl x := by rw [lt_cfB]; exact bu.lt_self _
  trans x y z h1 h2 := by
    rw [lt_cfB] at *
    exact bu.lt_trans h1 h2
  ntrans x y z h1 h2 := by
    rw [lt_cfB] at *
    cases h3 : lt x.1.1 z.1.1
    · rfl
    · exfalso
      rcases bu.lt_tri h2 with h4 | h4
      · rw [(bu.lt_key (b := x.1.1) h4).2] at h1
        rw [h1] at h3
        cases h3
      · rw [bu.lt_trans h3 h4] at h1
        cases h1
theorem eltSB : Elt Tryz.prog laySortB_ren 7 := ⟨Tryz.isAgg60, Tryz.sizeOf60⟩
theorem encB_at (q : Bf × Gb) {i : Nat} (hi : i < 7) : (bcs q.1 q.2)[i]? = some (encB q)[i]! := by
  unfold encB
  have h : i < (bcs q.1 q.2).toList.length := by simpa [bcs] using hi
  rw [getElem!_pos (bcs q.1 q.2).toList i h, ← Array.getElem?_toList]
  exact List.getElem?_eq_getElem h
theorem sortB_any {base : Nat} {w : World} {v : Value} {L : List (Bf × Gb)} (h : w.ownsRow base 60 7 v L.length (bcl L)) (hone : ∀ q ∈ L, ∀ u ∈ encB q, u.oneCell' = true) (hl : L.length ≤ 1000000) :
    Calls Tryz.prog 65 #[v, .func (.func 32) #[] #[]] w fun e w' => e = .returned (.tuple #[]) ∧ w.grownBy w' v.ownBlock ∧ ∃ s : List (Bf × Gb), RdC w' v s.length (bcl s) ∧ s.Perm L ∧ (s.map Prod.fst).Pairwise fun a c => lt c a = false := by
  by_cases h0 : L = []
  · subst h0
    have hap : ApC base 60 7 w v ([] : List (Bf × Gb)).length (bcl []) := .inr h
    have hrd := hap.rdc
    obtain ⟨p, c, rfl, -⟩ := hap.form
    have := AnyF.slices_SortFunc_none laySortB p c (.func (.func 32) #[] #[]) w
    refine Calls.mono (f := 65) this ?_
    rintro e w' ⟨rfl, rfl⟩
    exact ⟨rfl, ⟨rfl, rfl, rfl, Nat.le_refl _, fun _ _ _ => rfl⟩, [], hrd, .refl _, .nil⟩
  · have hpos : 0 < L.length := List.length_pos_iff.2 h0
    obtain ⟨h1, ⟨rfl, h2⟩ | ⟨g, cap, cur, rfl, hb, hg, hn, hcap, hcur, htake⟩⟩ := h
    · omega
    · have hglt : g < w.heap.size := (Array.getElem?_eq_some_iff.1 hg).1
      obtain ⟨K, hK⟩ : ∃ K : List OneB, K.map Subtype.val = L := ⟨L.attachWith _ hone, by first | exact List.attachWith_map_subtype_val hone | (simp; exact List.attach_map_subtype_val L)⟩
      have hKl : K.length = L.length := by rw [← hK, List.length_map]
      have hat : ∀ j (hj : j < K.length), L[j]? = some K[j].1 := fun j hj => by rw [← hK, List.getElem?_map, List.getElem?_eq_getElem hj]; rfl
      have hH : HoldsK (fun q : OneB => encB q.1) 7 w g 0 K.toArray := by
        unfold HoldsK
        intro t ht
        have ht' : t < K.toArray.size * 7 := by simpa using ht
        have htK : t / 7 < K.length := by simp at ht'; omega
        refine ⟨?_, by simp [World.frozen?, hg]⟩
        rw [get_flatK _ _ _ _ ht']
        have e0 : K.toArray[t / 7]! = K[t / 7] := by rw [getElem!_pos K.toArray (t / 7) (by simpa using htK)]; simp
        rw [e0]
        have hb7 := bcl_at L (t / 7) K[t / 7].1 (hat _ htK) (t % 7) _ (Nat.mod_lt _ (by omega)) (encB_at K[t / 7].1 (Nat.mod_lt _ (by omega)))
        have hc := World.ownsRow.cells (⟨h1, .inr ⟨g, cap, cur, rfl, hb, hg, hn, hcap, hcur, htake⟩⟩ : w.ownsRow base 60 7 (.slice (some ⟨g, 0, none⟩) L.length cap) L.length (bcl L)) rfl _ _ hb7
        rw [Addr.add_lit, show t / 7 * 7 + t % 7 = t by omega] at hc
        rw [hc]
        rfl
      have M : Srt Tryz.prog (fun q : OneB => encB q.1) 7 cfB 32 #[] #[] w g 0 K.toArray :=
        { R := ⟨fun _ => rfl, fun x v hv => x.2 v hv, hH, hglt⟩
          hO := cfB_swo
          hsz := by simp; omega
          eg := enters_of Tryz.func32 (by kernel_rfl) rfl
          says := fun d W _ _ x y => compareB_any x.1 y.1 W }
      have := sv_sort laySortB eltSB (cap := cap) M
      rw [List.size_toArray, hKl] at this
      refine Calls.mono (f := 65) this ?_
      rintro e w' ⟨rfl, d', ⟨hp, hs⟩, S⟩
      have hsz : d'.size = K.length := by rw [hp.1]; simp
      have hH' := S.holds hglt hH (by rw [hsz]; simp)
      refine ⟨rfl, grown_sw S, d'.toList.map Subtype.val, .inr ⟨g, 0, cap, by simp [hsz, hKl], S.lt hglt, fun t u hu => ?_⟩, ?_, ?_⟩
      · have htl : t < (bcl (d'.toList.map Subtype.val)).length := (List.getElem?_eq_some_iff.1 hu).1
        rw [bcl_len, List.length_map, Array.length_toList] at htl
        have hj' : t / 7 < d'.size := by omega
        have hq : (d'.toList.map Subtype.val)[t / 7]? = some (d'[t / 7]!).1 := by
          rw [List.getElem?_map, getElem!_pos d' (t / 7) hj', Array.getElem?_toList, Array.getElem?_eq_getElem hj']
          rfl
        have a := (hH'.cell hj' (show t % 7 < 7 from Nat.mod_lt _ (by omega))).1
        have b := bcl_at _ (t / 7) _ hq (t % 7) _ (Nat.mod_lt _ (by omega)) (encB_at _ (Nat.mod_lt _ (by omega)))
        rw [show t / 7 * 7 + t % 7 = t by omega] at b
        rw [b] at hu
        rw [Nat.zero_add, show t / 7 * 7 + t % 7 = t by omega] at a
        rw [Nat.zero_add, a]
        exact hu
      · have hperm := hp.2.2
        rw [show (d'.extract 0 L.length) = d' by rw [← hKl, ← hsz]; simp, show (K.toArray.extract 0 L.length) = K.toArray by rw [← hKl]; simp] at hperm
        have hp2 : d'.toList.Perm K := by simpa using hperm
        rw [← hK]
        exact hp2.map _
      · refine List.pairwise_iff_getElem.2 fun i j hi hj hij => ?_
        have hj' : j < d'.size := by simpa using hj
        have := hs i j (Nat.zero_le _) hij (by omega)
        rw [lt_cfB, getElem!_pos d' i (by omega), getElem!_pos d' j hj'] at this
        simpa using this
end Go.Proofs.YtkjffoebcblpoaaGreat.gn
end
section
set_option linter.unusedVariables false
set_option linter.unusedSimpArgs false
set_option maxRecDepth 100000
namespace Go.Proofs.YtkjffoebcblpoaaGreat.gn
open Go.RowKit
open Go.Proofs.YtkjffoebcblpoaaGreat.ex (X Apart Ok Inc apL okx)
open Go.Proofs.YtkjffoebcblpoaaGreat.bu (Bf May catP)

abbrev Txt := List UInt8
theorem xcs_len2 (l : List X) : (xcs l).length = l.length * 2 := xcs_len l
theorem own_obj {W : World} {base size n : Nat} {e : TypeId} {v : Value} {cs : List Value} (h : W.ownsRow base e size v n cs) {g : Nat} (hg : v.ownBlock = some g) : ∃ cur t fr, W.heap[g]? = some (.cells cur t fr) := by
  rcases h.2 with ⟨rfl, _⟩ | ⟨g', cap, cur, rfl, _, hgg, _⟩
  · simp [Value.ownBlock] at hg
  · simp [Value.ownBlock] at hg
    subst hg
    exact ⟨_, _, _, hgg⟩
theorem map_obj {W : World} {b : Nat} {L : List (Txt × Value)} (h : MapV W b L) : ∃ es c, W.heap[b]? = some (.map es c) := by
  obtain ⟨n, es, c, hb, _⟩ := h
  exact ⟨es, c, hb⟩
theorem own_map {W : World} {base size n b : Nat} {e : TypeId} {v : Value} {cs : List Value} {L : List (Txt × Value)} (h : W.ownsRow base e size v n cs) (hm : MapV W b L) : some b ≠ v.ownBlock := fun hg => by
  obtain ⟨cur, t, fr, h1⟩ := own_obj h hg.symm
  obtain ⟨es, c, h2⟩ := map_obj hm
  rw [h1] at h2
  cases h2
theorem catP_snoc (l : List Bf) (x : Bf) (p : Txt) : catP (l ++ [x]) p = if x.pool = p then catP l p ++ x.exts else catP l p := by
  unfold bu.catP
  rw [List.filter_append, List.flatMap_append]
  by_cases hp : x.pool = p
  · simp [hp]
  · simp [hp]
theorem catP_none {l : List Bf} {p : Txt} (h : ∀ x ∈ l, x.pool ≠ p) : catP l p = [] := by
  unfold bu.catP
  rw [List.filter_eq_nil_iff.2 fun x hx => by simpa using h x hx]
  rfl
/-- A row of extents of the call's own. -/
def OwnE (B : Nat) (W : World) (v : Value) (l : List X) : Prop := W.ownsRow B 55 2 v l.length (xcs l)
theorem OwnE.ownX {B : Nat} {W : World} {v : Value} {l : List X} (h : OwnE B W v l) : OwnX B W v l := by
  unfold OwnE at h
  rw [xcs_fl] at h
  exact h
/-- The pools' extents, gathered from these buffers. -/
structure PoolsW (B : Nat) (l : List Bf) (b : Nat) (L : List (Txt × Value)) (W : World) : Prop where
  map : MapV W b L
  few : L.length ≤ l.length
  no : ∀ p, fi.get p L = none → ∀ x ∈ l, x.pool ≠ p
  row : ∀ p v, fi.get p L = some v → OwnE B W v (catP l p)
  apart : ∀ p q v u, fi.get p L = some v → fi.get q L = some u → p ≠ q → ∀ g, v.ownBlock = some g → u.ownBlock ≠ some g
theorem PoolsW.new (W : World) (B : Nat) : PoolsW B [] W.heap.size [] (W.alloc (.map #[] 0)) :=
  ⟨MapV.new W, Nat.le_refl _, (fun p _ x hx => by cases hx), (fun p v h => by cases h), fun p q v u h => by cases h⟩
theorem PoolsW.next {B : Nat} {l : List Bf} {b : Nat} {L : List (Txt × Value)} {W W' : World} (h : PoolsW B l b L W) (hb : Below W.heap.size W W') : PoolsW B l b L W' :=
  ⟨h.map.next hb, h.few, h.no, fun p v hp => World.ownsRow.kept (h.row p v hp) (grown_new hb) (by cases v.ownBlock <;> simp), h.apart⟩
/-- What a pool's row is looked up to be. -/
theorem PoolsW.at {B : Nat} {l : List Bf} {b : Nat} {L : List (Txt × Value)} {W : World} (h : PoolsW B l b L W) (p : Txt) : OwnE B W ((fi.get p L).getD (.slice none 0 0)) (catP l p) := by
  cases hp : fi.get p L with
  | none =>
    rw [catP_none (h.no p hp)]
    exact World.ownsRow_nil _ _ _ _
  | some v => exact h.row p v hp
theorem PoolsW.add {B : Nat} {l : List Bf} {b : Nat} {L L2 : List (Txt × Value)} {W W1 W2 : World} (h : PoolsW B l b L W) {x : Bf} {v' : Value}
    (own : OwnE B W1 v' (catP l x.pool ++ x.exts)) (hg : W.grownBy W1 ((fi.get x.pool L).getD (.slice none 0 0)).ownBlock) (hv : v'.ownBlock = ((fi.get x.pool L).getD (.slice none 0 0)).ownBlock ∨ v'.ownBlock = some W.heap.size)
    (hm : MapV W2 b L2) (hl : L2.length ≤ L.length + 1) (hget : ∀ j, fi.get j L2 = if j = x.pool then some v' else fi.get j L) (hb : But b W1 W2) : PoolsW B (l ++ [x]) b L2 W2 := by
  have hm1 : MapV W1 b L := h.map.kept (hg.block b h.map.lt (own_map (h.at x.pool) h.map))
  have hlt : ∀ p v, fi.get p L = some v → ∀ g, v.ownBlock = some g → g < W.heap.size := fun p v hp g hgv => (World.ownsRow.lt (h.row p v hp) g hgv).2
  have hold : ∀ p, p ≠ x.pool → ∀ v, fi.get p L = some v → v.ownBlock = none ∨ v.ownBlock ≠ ((fi.get x.pool L).getD (.slice none 0 0)).ownBlock := fun p hp v hpv => by
    cases hgv : v.ownBlock with
    | none => exact .inl rfl
    | some g =>
      refine .inr fun e => ?_
      cases hx : fi.get x.pool L with
      | none => rw [hx] at e; simp [Value.ownBlock] at e
      | some u =>
        rw [hx, Option.getD_some] at e
        exact h.apart p x.pool v u hpv hx hp g hgv e.symm
  refine ⟨hm, ?_, ?_, ?_, ?_⟩
  · rw [List.length_append]
    have := h.few
    simp only [List.length_cons, List.length_nil]
    omega
  · intro p hp y hy
    rw [hget] at hp
    by_cases hpx : p = x.pool
    · rw [if_pos hpx] at hp; cases hp
    · rw [if_neg hpx] at hp
      rcases List.mem_append.1 hy with hy | hy
      · exact h.no p hp y hy
      · rw [List.mem_singleton.1 hy]; exact fun e => hpx e.symm
  · intro p v hp
    rw [hget] at hp
    rw [catP_snoc]
    by_cases hpx : p = x.pool
    · rw [if_pos hpx] at hp
      cases hp
      rw [if_pos hpx.symm, hpx]
      refine World.ownsRow.kept own hb ?_
      cases hvo : v'.ownBlock with
      | none => exact .inl rfl
      | some g => exact .inr fun e => own_map own hm1 (by rw [hvo, e])
    · rw [if_neg hpx] at hp
      rw [if_neg fun e => hpx e.symm]
      have h1 := World.ownsRow.kept (h.row p v hp) hg (hold p hpx v hp)
      refine World.ownsRow.kept h1 hb ?_
      cases hvo : v.ownBlock with
      | none => exact .inl rfl
      | some g => exact .inr fun e => own_map h1 hm1 (by rw [hvo, e])
  · intro p q v u hp hq hpq g hgv hgu
    rw [hget] at hp hq
    by_cases hpx : p = x.pool
    · rw [if_pos hpx] at hp
      cases hp
      rw [if_neg fun e => hpq (hpx.trans e.symm)] at hq
      rcases hv with hv | hv
      · rcases hold q (fun e => hpq (hpx.trans e.symm)) u hq with h2 | h2
        · rw [h2] at hgu; cases hgu
        · exact h2 (by rw [hgu, ← hgv, hv])
      · rw [hv] at hgv
        cases hgv
        have := hlt q u hq _ hgu
        omega
    · rw [if_neg hpx] at hp
      by_cases hqx : q = x.pool
      · rw [if_pos hqx] at hq
        cases hq
        rcases hv with hv | hv
        · rcases hold p hpx v hp with h2 | h2
          · rw [h2] at hgv; cases hgv
          · exact h2 (by rw [hgv, ← hgu, hv])
        · rw [hv] at hgu
          cases hgu
          have := hlt p v hp _ hgv
          omega
      · rw [if_neg hqx] at hq
        exact h.apart p q v u hp hq hpq g hgv hgu
/-- How the range over the map stands. -/
structure RngW (B : Nat) (l : List Bf) (b r : Nat) (L : List (Txt × Value)) (left : Lit → Bool) (cnt : Nat) (W : World) : Prop where
  rng : RngV W b r L left cnt
  row : ∀ p v, fi.get p L = some v → left (.string p) = true → OwnE B W v (catP l p)
  done : ∀ p v, fi.get p L = some v → left (.string p) = false → Apart (catP l p)
theorem PoolsW.range {B : Nat} {l : List Bf} {b r : Nat} {L : List (Txt × Value)} {W W2 : World} (h : PoolsW B l b L W) (hb : Below W.heap.size W W2) {cnt : Nat} (hr : RngV W2 b r L (fun kl => Maps.has (datV L) kl) cnt) : RngW B l b r L (fun kl => Maps.has (datV L) kl) cnt W2 :=
  ⟨hr, fun p v hp _ => (h.next hb).row p v hp, fun p v hp hl => by
    rw [datV_has, hp] at hl
    cases hl⟩
/-- The rows' blocks: below the iterator's, not the map's. -/
structure RowsB (b r : Nat) (L : List (Txt × Value)) : Prop where
  lt : ∀ p v, fi.get p L = some v → ∀ g, v.ownBlock = some g → g < r
  ne : ∀ p v, fi.get p L = some v → some b ≠ v.ownBlock
  apart : ∀ p q v u, fi.get p L = some v → fi.get q L = some u → p ≠ q → ∀ g, v.ownBlock = some g → u.ownBlock ≠ some g
theorem PoolsW.blocks {B : Nat} {l : List Bf} {b : Nat} {L : List (Txt × Value)} {W : World} (h : PoolsW B l b L W) : RowsB b W.heap.size L :=
  ⟨fun p v hp g hg => (World.ownsRow.lt (h.row p v hp) g hg).2, fun p v hp => own_map (h.row p v hp) h.map, h.apart⟩
theorem RowsB.iter {b r : Nat} {L : List (Txt × Value)} (h : RowsB b r L) {p : Txt} {v : Value} (hp : fi.get p L = some v) : v.ownBlock = none ∨ v.ownBlock ≠ some r := by
  cases hv : v.ownBlock with
  | none => exact .inl rfl
  | some g =>
    have := h.lt p v hp g hv
    exact .inr fun e => by cases e; omega
theorem RngW.own {B : Nat} {l : List Bf} {b r : Nat} {L : List (Txt × Value)} {left : Lit → Bool} {cnt : Nat} {W W4 : World} (h : RngW B l b r L left cnt W) (hB : RowsB b r L) {k : Txt} {v : Value} (hk : fi.get k L = some v) (hl : left (.string k) = true) (hb : But r W W4) : OwnE B W4 v (catP l k) :=
  World.ownsRow.kept (h.row k v hk hl) hb (hB.iter hk)
theorem RngW.step {B : Nat} {l : List Bf} {b r : Nat} {L : List (Txt × Value)} {left : Lit → Bool} {cnt cnt4 : Nat} {W W4 W5 W6 : World} (h : RngW B l b r L left cnt W) (hB : RowsB b r L) {k : Txt} {v : Value} (hk : fi.get k L = some v)
    (hr : RngV W4 b r L (fun z => left z && !z.sameKey (.string k)) cnt4) (hb : But r W W4) (hs : W4.grownBy W5 v.ownBlock) (h6 : Below W5.heap.size W5 W6) (ha : Apart (catP l k)) : RngW B l b r L (fun z => left z && !z.sameKey (.string k)) cnt4 W6 := by
  have hsk : ∀ p : Txt, (Lit.string p).sameKey (.string k) = decide (p = k) := fun p => by
    show (p == k) = _
    rw [Bool.eq_iff_iff, beq_iff_eq, decide_eq_true_eq]
  have hrv : some r ≠ v.ownBlock := fun e => by
    rcases hB.iter hk with h1 | h1
    · rw [h1] at e; cases e
    · exact h1 e.symm
  refine ⟨RngV.next (World.ranges.kept hr hs (hB.ne k v hk) hrv) h6, fun p u hp hl => ?_, fun p u hp hl => ?_⟩
  · have hl : (left (.string p) && !(Lit.string p).sameKey (.string k)) = true := hl
    rw [hsk, Bool.and_eq_true, Bool.not_eq_true', decide_eq_false_iff_not] at hl
    have h1 := World.ownsRow.kept (h.row p u hp hl.1) hb (hB.iter hp)
    have h2 := World.ownsRow.kept h1 hs (by
      cases hu : u.ownBlock with
      | none => exact .inl rfl
      | some g => exact .inr fun e => hB.apart p k u v hp hk hl.2 g hu e.symm)
    exact World.ownsRow.kept h2 (grown_new h6) (by cases u.ownBlock <;> simp)
  · have hl : (left (.string p) && !(Lit.string p).sameKey (.string k)) = false := hl
    rw [hsk] at hl
    by_cases hpk : p = k
    · rw [hpk]; exact ha
    · rw [decide_eq_false hpk] at hl
      exact h.done p u hp (by simpa using hl)
theorem RngW.end_ {B : Nat} {l : List Bf} {b r : Nat} {L : List (Txt × Value)} {left : Lit → Bool} {cnt : Nat} {W : World} (h : RngW B l b r L left cnt W) (h0 : ∀ kl, left kl = false) (hno : ∀ p, fi.get p L = none → ∀ x ∈ l, x.pool ≠ p) : ∀ x ∈ l, Apart (catP l x.pool) := fun x hx => by
  cases hp : fi.get x.pool L with
  | none => exact absurd rfl (hno _ hp x hx)
  | some v => exact h.done _ v hp (h0 _)
/-- The extents from one on. -/
def chF (s : List X) (j : Nat) : Bool := match s[j]? with
  | some x => apL (x.1 + x.2) (s.drop (j + 1))
  | none => true
theorem chF_zero {s : List X} (ho : Ok s) : apL 0 s = chF s 0 := by
  cases s with
  | nil => rfl
  | cons x s =>
    have := ho x (by simp)
    show (if x.1 < 0 then false else apL (x.1 + x.2) s) = _
    rw [if_neg (by have := this.1; omega)]
    rfl
theorem chF_step {s : List X} {j : Nat} {x y : X} (hx : s[j]? = some x) (hy : s[j + 1]? = some y) : chF s j = if y.1 < x.1 + x.2 then false else chF s (j + 1) := by
  unfold chF
  rw [hx, hy]
  obtain ⟨h1, rfl⟩ := List.getElem?_eq_some_iff.1 hy
  dsimp only
  rw [List.drop_eq_getElem_cons h1]
  rfl
theorem chF_end {s : List X} {j : Nat} (h : s.length ≤ j + 1) : chF s j = true := by
  unfold chF
  rw [List.drop_eq_nil_of_le h]
  cases s[j]? <;> rfl
end Go.Proofs.YtkjffoebcblpoaaGreat.gn
end
