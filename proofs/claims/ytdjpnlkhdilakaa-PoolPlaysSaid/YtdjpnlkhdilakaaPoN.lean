/- Pools, plain: a pool that may be; what Grant and Return tell. -/
import Derived.Test.YtdjpnlkhdilakaaPoM
import Derived.Test.YtdjpnlkhdilakaaSatM
set_option linter.unusedVariables false
set_option linter.unusedSimpArgs false
namespace Go.Proofs.Ytdjpnlkhdilakaa.po
open Go.Proofs.Ytdjpnlkhdilakaa.ex

structure Pl where
  size : Int
  grain : Int
  quota : Int
  drain : Bool
  best : Bool
  free : List X
  uses : List U
def Qt (n : Int) : Prop := 0 ≤ n ∧ n ≤ 1099511627776
instance (n : Int) : Decidable (Qt n) := by unfold Qt; infer_instance
structure Base (p : Pl) : Prop where
  s : Qt p.size
  g : Qt p.grain
  q : Qt p.quota
  g0 : p.grain ≠ 0
  d : p.grain ∣ p.size
def Al (g : Int) (l : List X) : Prop := ∀ x ∈ l, g ∣ x.1 ∧ g ∣ x.2
def Ins (p : Pl) (l : List X) : Prop := Al p.grain l ∧ ∀ x ∈ l, x.1 + x.2 ≤ p.size
def Nam (u : Nm) : Prop := 0 < u.length ∧ u.length ≤ 32
instance (u : Nm) : Decidable (Nam u) := by unfold Nam; infer_instance
def UseOk (p : Pl) (n : Int) : Prop := 0 < n ∧ p.grain ∣ n ∧ (p.quota = 0 ∨ n ≤ p.quota)
instance (p : Pl) (n : Int) : Decidable (UseOk p n) := by unfold UseOk; infer_instance
def OkU (p : Pl) (u : U) : Prop := Nam u.1 ∧ UseOk p u.2
structure Valid (p : Pl) : Prop where
  vb : Base p
  vf : Fine p.free
  vn : Normal p.free
  vi : Ins p p.free
  vr : Rise p.uses
  vo : ∀ u ∈ p.uses, OkU p u
  va : tot p.free + sm p.uses = p.size
theorem Base.gp {p : Pl} (h : Base p) : 0 < p.grain := by have := h.g.1; have := h.g0; omega
theorem Valid.pos {p : Pl} (h : Valid p) : Pos p.uses := fun u hu => (h.vo u hu).2.1
theorem ins_tot {l : List X} {S : Int} (hn : Normal l) (hS : 0 ≤ S) (h : ∀ x ∈ l, x.1 + x.2 ≤ S) : tot l ≤ S := by
  have := up_tot hn.up hn.1 0 S hS fun x hx => ⟨(hn.1 x hx).1, h x hx⟩
  omega
theorem len_tot : ∀ {l : List X}, Ok l → (l.length : Int) ≤ tot l
  | [], _ => by simp [tot]
  | x :: r, h => by
    have h1 := len_tot (l := r) fun q hq => h q (List.mem_cons_of_mem _ hq)
    have h2 := h x List.mem_cons_self
    unfold okx at h2
    show ((r.length + 1 : Nat) : Int) ≤ x.2 + tot r
    omega

/-- The rows of Check's loop. -/
def chkU (p : Pl) : Int → Nm → List U → Bool
  | left, _, [] => decide (¬ 0 < left)
  | left, last, u :: r => (decide (Nam u.1) && less last u.1 && decide (UseOk p u.2) && decide (u.2 ≤ left)) && chkU p (left - u.2) u.1 r
theorem chkU_iff (p : Pl) : ∀ (l : List U) (left : Int) (last : Nm), 0 ≤ left →
    (chkU p left last l = true ↔ (∀ u ∈ l, OkU p u) ∧ Rise l ∧ (∀ u ∈ l, less last u.1 = true) ∧ sm l = left)
  | [], left, last, h => by
    unfold chkU
    rw [decide_eq_true_iff]
    constructor
    · intro h2
      exact ⟨fun u hu => (by cases hu), .nil, fun u hu => (by cases hu), by show 0 = left; omega⟩
    · rintro ⟨_, _, _, h2⟩
      have : 0 = left := h2
      omega
  | u :: r, left, last, h => by
    unfold chkU
    rw [Bool.and_eq_true, Bool.and_eq_true, Bool.and_eq_true, Bool.and_eq_true, decide_eq_true_iff, decide_eq_true_iff, decide_eq_true_iff]
    constructor
    · rintro ⟨⟨⟨⟨h1, h2⟩, h3⟩, h4⟩, h5⟩
      obtain ⟨i1, i2, i3, i4⟩ := (chkU_iff p r (left - u.2) u.1 (by omega)).1 h5
      refine ⟨fun q hq => ?_, List.pairwise_cons.2 ⟨i3, i2⟩, fun q hq => ?_, by show u.2 + sm r = left; omega⟩
      · rcases List.mem_cons.1 hq with rfl | hq
        · exact ⟨h1, h3⟩
        · exact i1 q hq
      · rcases List.mem_cons.1 hq with rfl | hq
        · exact h2
        · exact less_trans h2 (i3 q hq)
    · rintro ⟨h1, h2, h3, h4⟩
      obtain ⟨h5, h6⟩ := List.pairwise_cons.1 h2
      have hu := h1 u List.mem_cons_self
      have hp : Pos r := fun q hq => (h1 q (List.mem_cons_of_mem _ hq)).2.1
      have h7 := sm_pos hp
      have h8 : u.2 + sm r = left := h4
      exact ⟨⟨⟨⟨hu.1, h3 u List.mem_cons_self⟩, hu.2⟩, by omega⟩, (chkU_iff p r (left - u.2) u.1 (by omega)).2 ⟨fun q hq => h1 q (List.mem_cons_of_mem _ hq), h6, h5, by omega⟩⟩
theorem valid_iff {p : Pl} (hb : Base p) (hf : Fine p.free) (hn : Normal p.free) (hi : Ins p p.free) : chkU p (p.size - tot p.free) [] p.uses = true ↔ Valid p := by
  have h0 := ins_tot hn hb.s.1 hi.2
  rw [chkU_iff p p.uses _ _ (by omega)]
  constructor
  · rintro ⟨h1, h2, _, h3⟩
    exact ⟨hb, hf, hn, hi, h2, h1, by omega⟩
  · intro h
    exact ⟨h.vo, h.vr, fun u hu => (less_nil _).2 fun e => (by have := (h.vo u hu).1.1; rw [e] at this; exact absurd this (by simp)), by have := h.va; omega⟩
theorem normal_iff {l : List X} (hf : Fine l) : nrm l = l ↔ Normal l :=
  ⟨fun h => by rw [← h]; exact (nrm_of hf.2.1 hf.2.2).nrm, nrm_self⟩

/-! Rows of whole grains. -/
theorem blk {g a b n m : Int} (hg : 0 < g) (ha : g ∣ a) (hb : g ∣ b) (h1 : a ≤ n) (h2 : n < b) (e : m / g = n / g) : a ≤ m ∧ m < b := by
  obtain ⟨c, rfl⟩ := ha
  obtain ⟨d, rfl⟩ := hb
  have e1 := Int.mul_ediv_add_emod n g
  have e2 := Int.emod_nonneg n (show g ≠ 0 by omega)
  have e3 := Int.emod_lt_of_pos n hg
  have f1 := Int.mul_ediv_add_emod m g
  have f2 := Int.emod_nonneg m (show g ≠ 0 by omega)
  have f3 := Int.emod_lt_of_pos m hg
  rw [e] at f1
  generalize n / g = q at *
  have hc : c ≤ q := by
    have : ¬ q < c := fun h => by
      have := Int.mul_le_mul_of_nonneg_left (show q + 1 ≤ c by omega) (show 0 ≤ g by omega)
      rw [Int.mul_add, Int.mul_one] at this
      omega
    omega
  have hd : q + 1 ≤ d := by
    have : ¬ d < q + 1 := fun h => by
      have := Int.mul_le_mul_of_nonneg_left (show d ≤ q by omega) (show 0 ≤ g by omega)
      omega
    omega
  have h3 := Int.mul_le_mul_of_nonneg_left hc (show 0 ≤ g by omega)
  have h4 := Int.mul_le_mul_of_nonneg_left hd (show 0 ≤ g by omega)
  rw [Int.mul_add, Int.mul_one] at h4
  omega
def Blk (g : Int) (l : List X) : Prop := ∀ n, num n l → ∀ m, m / g = n / g → num m l
theorem Al.blk {g : Int} {l : List X} (hg : 0 < g) (h : Al g l) : Blk g l := by
  rintro n ⟨x, hx, h1, h2⟩ m e
  have := h x hx
  exact ⟨x, hx, po.blk hg this.1 (Int.dvd_add this.1 this.2) h1 h2 e⟩
theorem down {g n : Int} (hg : 0 < g) (h : ¬ g ∣ n) : (n - 1) / g = n / g := by
  have e1 := Int.mul_ediv_add_emod n g
  have e2 := Int.emod_nonneg n (show g ≠ 0 by omega)
  have e3 := Int.emod_lt_of_pos n hg
  have e4 : n % g ≠ 0 := fun e => h (Int.dvd_of_emod_eq_zero e)
  have : n - 1 = (n % g - 1) + g * (n / g) := by omega
  rw [this, Int.add_mul_ediv_left _ _ (by omega), Int.ediv_eq_zero_of_lt (by omega) (by omega)]
  omega
theorem Blk.al {g : Int} {l : List X} (hg : 0 < g) (hn : Normal l) (h : Blk g l) : Al g l := by
  intro x hx
  have hox := hn.1 x hx
  unfold okx at hox
  have hpw : ∀ y ∈ l, y = x ∨ y.1 + y.2 < x.1 ∨ x.1 + x.2 < y.1 := by
    intro y hy
    obtain ⟨i, hi, rfl⟩ := List.getElem_of_mem hx
    obtain ⟨j, hj, rfl⟩ := List.getElem_of_mem hy
    have hp := List.pairwise_iff_getElem.1 hn.2
    rcases Nat.lt_trichotomy i j with h3 | h3 | h3
    · exact .inr (.inr (hp i j hi hj h3))
    · subst h3; exact .inl rfl
    · exact .inr (.inl (hp j i hj hi h3))
  have n1 : ¬ num (x.1 - 1) l := by
    rintro ⟨y, hy, h1, h2⟩
    rcases hpw y hy with rfl | h3 | h3 <;> omega
  have n2 : ¬ num (x.1 + x.2) l := by
    rintro ⟨y, hy, h1, h2⟩
    rcases hpw y hy with rfl | h3 | h3 <;> omega
  have d1 : g ∣ x.1 := Classical.byContradiction fun hd => n1 (h x.1 ⟨x, hx, by omega, by omega⟩ _ (down hg hd))
  have d2 : g ∣ x.1 + x.2 := Classical.byContradiction fun hd => n2 (h (x.1 + x.2 - 1) ⟨x, hx, by omega, by omega⟩ _ (down hg hd).symm)
  exact ⟨d1, by have := Int.dvd_sub d2 d1; rwa [show x.1 + x.2 - x.1 = x.2 by omega] at this⟩
theorem al_tot {g : Int} : ∀ {l : List X}, Al g l → g ∣ tot l
  | [], _ => Int.dvd_zero g
  | x :: r, h => Int.dvd_add (h x List.mem_cons_self).2 (al_tot fun y hy => h y (List.mem_cons_of_mem _ hy))
/-- A row of which all numbers are another's ends as far. -/
theorem ins_le {l a : List X} {S : Int} (ho : Ok l) (h : ∀ n, num n l → num n a) (ha : ∀ x ∈ a, x.1 + x.2 ≤ S) : ∀ x ∈ l, x.1 + x.2 ≤ S := by
  intro x hx
  have h0 := ho x hx
  unfold okx at h0
  obtain ⟨y, hy, h1, h2⟩ := h (x.1 + x.2 - 1) ⟨x, hx, by omega, by omega⟩
  have := ha y hy
  omega
theorem al_stp {g : Int} {best : Bool} {s : St} (hn : g ∣ s.n) (hr : Al g s.rest) (ht : Al g s.took) (hne : s.rest ≠ []) : g ∣ (stp best s).n ∧ Al g (stp best s).rest ∧ Al g (stp best s).took := by
  obtain ⟨rest, took, n⟩ := s
  have hi := pick_lt (best := best) (n := n) hne
  unfold stp short
  dsimp only at *
  generalize pick best n rest = i at *
  have hx : rest[i]! ∈ rest := by rw [getElem!_pos rest i hi]; exact List.getElem_mem hi
  have hd := hr _ hx
  generalize rest[i]! = x at *
  have hm : g ∣ min n x.2 := by
    rcases Int.le_total n x.2 with h | h
    · rw [Int.min_eq_left h]; exact hn
    · rw [Int.min_eq_right h]; exact hd.2
  generalize min n x.2 = m at *
  refine ⟨Int.dvd_sub hn hm, fun y hy => ?_, fun y hy => ?_⟩
  · split at hy
    · rcases List.mem_or_eq_of_mem_set hy with hy | rfl
      · exact hr y hy
      · exact ⟨Int.dvd_add hd.1 hm, Int.dvd_sub hd.2 hm⟩
    · exact hr y (List.mem_of_mem_eraseIdx hy)
  · rcases List.mem_append.1 hy with hy | hy
    · exact ht y hy
    · rw [List.mem_singleton.1 hy]; exact ⟨hd.1, hm⟩
theorem al_tk {g : Int} {best : Bool} {a : List X} {N : Int} : ∀ (k : Nat) (s : St), TI a N s → g ∣ s.n → Al g s.rest → Al g s.took → Al g (tk best k s).rest ∧ Al g (tk best k s).took
  | 0, s, _, _, hr, ht => ⟨hr, ht⟩
  | k + 1, s, h, hn, hr, ht => by
    unfold tk
    split
    · rename_i h0
      have h1 := al_stp (best := best) hn hr ht (h.ne h0)
      exact al_tk k _ (h.next h0 best).1 h1.1 h1.2.1 h1.2.2
    · exact ⟨hr, ht⟩
theorem tk_ti {best : Bool} {a : List X} {N : Int} : ∀ (k : Nat) (s : St), TI a N s → TI a N (tk best k s)
  | 0, s, h => h
  | k + 1, s, h => by
    unfold tk
    split
    · rename_i h0; exact tk_ti k _ (h.next h0 best).1
    · exact h
theorem tk_end {best : Bool} {a : List X} {N : Int} : ∀ (k : Nat) (s : St), TI a N s → s.n ≤ k → ¬ 0 < (tk best k s).n
  | 0, s, _, h => by show ¬ 0 < s.n; omega
  | k + 1, s, h, hk => by
    unfold tk
    split
    · rename_i h0
      have h1 := h.next h0 best
      exact tk_end k _ h1.1 (by omega)
    · assumption

/-! Grant -/
def gr (n g : Int) : Int := st.grain n g
theorem gr_spec {n g : Int} (hn : 0 < n) (hn1 : n ≤ 1099511627776) (hg : 0 < g) (hg1 : g ≤ 1099511627776) :
    ∃ m, g ∣ m ∧ n ≤ m ∧ m < n + g ∧ (∀ s, g ∣ s → n ≤ s → m ≤ s) ∧ gr n g = min m 1099511627776 := by
  have h := st.grain_up n g (by rw [st.of_id (by omega) hg1]; exact hg)
  rw [st.of_id (by omega) hn1, st.of_id (by omega) hg1] at h
  have e1 := Int.mul_ediv_add_emod n g
  have e2 := Int.emod_nonneg n (show g ≠ 0 by omega)
  have e3 := Int.emod_lt_of_pos n hg
  by_cases e0 : n % g = 0
  · rw [if_pos e0] at h
    exact ⟨n, Int.dvd_of_emod_eq_zero e0, Int.le_refl _, by omega, fun s _ h => h, by unfold gr; rw [h]; omega⟩
  · rw [if_neg e0] at h
    refine ⟨n - n % g + g, ⟨n / g + 1, by rw [Int.mul_add, Int.mul_one]; omega⟩, by omega, by omega, fun s hs h2 => ?_, by unfold gr; rw [h]; unfold st.of; omega⟩
    obtain ⟨c, rfl⟩ := hs
    have : ¬ c ≤ n / g := fun h3 => by
      have := Int.mul_le_mul_of_nonneg_left h3 (show 0 ≤ g by omega)
      omega
    have := Int.mul_le_mul_of_nonneg_left (show n / g + 1 ≤ c by omega) (show 0 ≤ g by omega)
    rw [Int.mul_add, Int.mul_one] at this
    omega
theorem gr_bd (n g : Int) : 0 ≤ gr n g ∧ gr n g ≤ 1099511627776 := by
  unfold gr st.grain
  split
  · exact st.of_bd _
  · exact st.mul_bd _ _
theorem gr_ok {p : Pl} (h : Valid p) {n : Int} (hn : 0 < n) (hn1 : n ≤ 1099511627776) (hle : gr n p.grain ≤ tot p.free) : p.grain ∣ gr n p.grain ∧ n ≤ gr n p.grain ∧ gr n p.grain < n + p.grain := by
  obtain ⟨m, h1, h2, h3, h4, h5⟩ := gr_spec hn hn1 h.vb.gp h.vb.g.2
  have h6 := ins_tot h.vn h.vb.s.1 h.vi.2
  have h7 := h.vb.s.2
  have : m ≤ 1099511627776 := by
    by_cases hm : m ≤ 1099511627776
    · exact hm
    · have := h4 p.size h.vb.d (by omega)
      omega
  rw [show gr n p.grain = m by omega]
  exact ⟨h1, h2, h3⟩
structure CanG (p : Pl) (u : Nm) (n : Int) : Prop where
  v : Valid p
  n0 : 0 < n
  n1 : n ≤ 1099511627776
  nm : Nam u
open Classical in
noncomputable def gcode (p : Pl) (u : Nm) (n : Int) : Int :=
  if CanG p u n then (if p.drain then 9 else if 0 < p.quota ∧ p.quota - lk p.uses u < gr n p.grain then 120 else if tot p.free < gr n p.grain then 6 else 0) else 2
def gst (p : Pl) (n : Int) : St := tk p.best (gr n p.grain).toNat ⟨nrm p.free, [], gr n p.grain⟩
def gT (p : Pl) (n : Int) : List X := nrm (gst p n).took
def gR (p : Pl) (n : Int) : List X := (gst p n).rest
def gP (p : Pl) (u : Nm) (n : Int) : Pl := { p with free := gR p n, uses := withU p.uses u (lk p.uses u + gr n p.grain) }
structure GOk (p : Pl) (u : Nm) (n : Int) : Prop where
  can : CanG p u n
  nd : p.drain = false
  qu : ¬ (0 < p.quota ∧ p.quota - lk p.uses u < gr n p.grain)
  le : gr n p.grain ≤ tot p.free
theorem gcode_ok {p : Pl} {u : Nm} {n : Int} : gcode p u n = 0 ↔ GOk p u n := by
  unfold gcode
  constructor
  · intro h
    split at h
    · rename_i h1
      split at h
      · omega
      · rename_i h2
        split at h
        · omega
        · rename_i h3
          split at h
          · omega
          · exact ⟨h1, by simpa using h2, h3, by omega⟩
    · omega
  · intro h
    rw [if_pos h.can, if_neg (by simp [h.nd]), if_neg h.qu, if_neg (by have := h.le; omega)]
theorem GOk.ti {p : Pl} {u : Nm} {n : Int} (h : GOk p u n) : TI p.free (gr n p.grain) (gst p n) :=
  tk_ti _ _ (TI.start h.can.v.vf.2.1 h.can.v.vf.2.2 (gr_bd _ _).1 h.le)
theorem GOk.done {p : Pl} {u : Nm} {n : Int} (h : GOk p u n) : ¬ 0 < (gst p n).n :=
  tk_end _ _ (TI.start h.can.v.vf.2.1 h.can.v.vf.2.2 (gr_bd _ _).1 h.le) (by have := (gr_bd n p.grain).1; dsimp only; omega)
theorem GOk.tf {p : Pl} {u : Nm} {n : Int} (h : GOk p u n) : TF p.free (gr n p.grain) (gT p n) (gR p n) := h.ti.tf h.done
theorem GOk.gg {p : Pl} {u : Nm} {n : Int} (h : GOk p u n) : p.grain ∣ gr n p.grain ∧ n ≤ gr n p.grain ∧ gr n p.grain < n + p.grain := gr_ok h.can.v h.can.n0 h.can.n1 h.le
theorem GOk.al {p : Pl} {u : Nm} {n : Int} (h : GOk p u n) : Al p.grain (gT p n) ∧ Al p.grain (gR p n) := by
  have hg := h.can.v.vb.gp
  have h0 := TI.start h.can.v.vf.2.1 h.can.v.vf.2.2 (gr_bd _ _).1 h.le
  have h1 := al_tk (best := p.best) (gr n p.grain).toNat _ h0 h.gg.1 (by rw [show (St.rest ⟨nrm p.free, [], gr n p.grain⟩) = p.free from nrm_self h.can.v.vn]; exact h.can.v.vi.1) (fun x hx => by cases hx)
  refine ⟨?_, h1.1⟩
  have hN := nrm_of h.ti.tkn ((apart_append h.ti.nm.1 h.ti.tkn).1 h.ti.ap).2.1
  exact Blk.al hg hN.nrm fun a ha m e => (hN.num m).2 ((h1.2.blk hg) a ((hN.num a).1 ha) m e)
theorem GOk.insT {p : Pl} {u : Nm} {n : Int} (h : GOk p u n) : Ins p (gT p n) := ⟨h.al.1, ins_le h.tf.nT.1 (fun x hx => (h.tf.nu x).1 (.inl hx)) h.can.v.vi.2⟩
theorem GOk.insR {p : Pl} {u : Nm} {n : Int} (h : GOk p u n) : Ins p (gR p n) := ⟨h.al.2, ins_le h.tf.nR.1 (fun x hx => (h.tf.nu x).1 (.inr hx)) h.can.v.vi.2⟩
theorem GOk.neT {p : Pl} {u : Nm} {n : Int} (h : GOk p u n) : gT p n ≠ [] := fun e => by
  have h1 := h.tf.tT
  rw [e] at h1
  have h2 := h.gg.2.1
  have h3 := h.can.n0
  have h4 : (0 : Int) = gr n p.grain := h1
  omega
theorem Valid.lkd {p : Pl} (h : Valid p) (u : Nm) : p.grain ∣ lk p.uses u ∧ (p.quota = 0 ∨ lk p.uses u ≤ p.quota) := by
  by_cases e : lk p.uses u = 0
  · rw [e]; exact ⟨Int.dvd_zero _, .inr h.vb.q.1⟩
  · exact (h.vo _ (lk_mem e)).2.2
theorem GOk.valid {p : Pl} {u : Nm} {n : Int} (h : GOk p u n) : Valid (gP p u n) := by
  have v := h.can.v
  have hl := lk_pos v.pos u
  have hg := h.gg
  have hd := v.lkd u
  have h0 := h.can.n0
  refine ⟨⟨v.vb.s, v.vb.g, v.vb.q, v.vb.g0, v.vb.d⟩, ⟨Nat.le_trans h.tf.lR v.vf.1, h.tf.nR.1, h.tf.nR.apart⟩, h.tf.nR, h.insR, rise_with _ _ v.vr, fun q hq => ?_, ?_⟩
  · rcases mem_with hq with ⟨rfl, h1⟩ | hq
    · refine ⟨h.can.nm, h1, Int.dvd_add hd.1 hg.1, ?_⟩
      have hq2 := h.qu
      have hq3 := v.vb.q.1
      show p.quota = 0 ∨ lk p.uses u + gr n p.grain ≤ p.quota
      omega
    · exact v.vo q hq
  · show tot (gR p n) + sm (withU p.uses u _) = p.size
    rw [h.tf.tR, sm_with _ _ v.vr, if_pos (by omega)]
    have := v.va
    omega
theorem GOk.lk {p : Pl} {u : Nm} {n : Int} (h : GOk p u n) (v : Nm) : lk (gP p u n).uses v = if v = u then lk p.uses u + gr n p.grain else lk p.uses v := by
  have hl := lk_pos h.can.v.pos u
  have hg := h.gg
  have h0 := h.can.n0
  show po.lk (withU p.uses u _) v = _
  rw [lk_with u _ v h.can.v.vr, if_pos (show 0 < po.lk p.uses u + gr n p.grain by omega)]

/-! Return -/
structure ROk (p : Pl) (u : Nm) (l : List X) : Prop where
  v : Valid p
  nm : Nam u
  ne : l ≠ []
  fl : Fine l
  il : Ins p l
  le : tot l ≤ lk p.uses u
  ap : Apart (p.free ++ l)
  ln : (nrm (p.free ++ l)).length ≤ 1000
def rP (p : Pl) (u : Nm) (l : List X) : Pl := { p with free := nrm (p.free ++ l), uses := withU p.uses u (lk p.uses u - tot l) }
theorem ROk.nf {p : Pl} {u : Nm} {l : List X} (h : ROk p u l) : NormOf (p.free ++ l) (nrm (p.free ++ l)) := nrm_of (ok_append.2 ⟨h.v.vn.1, h.fl.2.1⟩) h.ap
theorem ROk.valid {p : Pl} {u : Nm} {l : List X} (h : ROk p u l) : Valid (rP p u l) := by
  have v := h.v
  have hg := v.vb.gp
  have hn := h.nf
  have hd := v.lkd u
  have ht := (tot_pos h.fl.2.1).2 h.ne
  refine ⟨⟨v.vb.s, v.vb.g, v.vb.q, v.vb.g0, v.vb.d⟩, ⟨h.ln, hn.nrm.1, hn.nrm.apart⟩, hn.nrm, ⟨?_, ?_⟩, rise_with _ _ v.vr, fun q hq => ?_, ?_⟩
  · refine Blk.al hg hn.nrm fun a ha m e => (hn.num m).2 ?_
    have hb : Al p.grain (p.free ++ l) := fun x hx => (List.mem_append.1 hx).elim (v.vi.1 x) (h.il.1 x)
    exact hb.blk hg a ((hn.num a).1 ha) m e
  · exact ins_le hn.nrm.1 (fun x hx => (hn.num x).1 hx) fun x hx => (List.mem_append.1 hx).elim (v.vi.2 x) (h.il.2 x)
  · rcases mem_with hq with ⟨rfl, h1⟩ | hq
    · refine ⟨h.nm, h1, Int.dvd_sub hd.1 (al_tot h.il.1), ?_⟩
      show p.quota = 0 ∨ lk p.uses u - tot l ≤ p.quota
      have := hd.2
      omega
    · exact v.vo q hq
  · show tot (nrm (p.free ++ l)) + sm (withU p.uses u _) = p.size
    rw [hn.tot, tot_append, sm_with _ _ v.vr]
    have := v.va
    have := h.le
    split <;> omega
theorem ROk.lk {p : Pl} {u : Nm} {l : List X} (h : ROk p u l) (v : Nm) : lk (rP p u l).uses v = if v = u then lk p.uses u - tot l else lk p.uses v := by
  have := h.le
  show po.lk (withU p.uses u _) v = _
  rw [lk_with u _ v h.v.vr]
  by_cases e : v = u
  · rw [if_pos e, if_pos e]; split <;> omega
  · rw [if_neg e, if_neg e]
theorem GOk.back {p : Pl} {u : Nm} {n : Int} (h : GOk p u n) (hl : p.free.length ≤ 900) : ROk (gP p u n) u (gT p n) ∧ rP (gP p u n) u (gT p n) = p := by
  have tf := h.tf
  have v := h.can.v
  have hb : nrm (gR p n ++ gT p n) = p.free := (tf.back v.vf).trans (nrm_self v.vn)
  have hk := h.lk u
  rw [if_pos rfl] at hk
  refine ⟨⟨h.valid, h.can.nm, h.neT, tf.fT hl, h.insT, ?_, apart_comm.1 tf.ap, ?_⟩, ?_⟩
  · rw [hk, tf.tT]; have := lk_pos v.pos u; omega
  · show (nrm (gR p n ++ gT p n)).length ≤ 1000
    rw [hb]; omega
  · unfold rP
    rw [hk, tf.tT, show po.lk p.uses u + gr n p.grain - gr n p.grain = po.lk p.uses u by omega]
    show Pl.mk p.size p.grain p.quota p.drain p.best (nrm (gR p n ++ gT p n)) (withU (withU p.uses u _) u (po.lk p.uses u)) = p
    rw [hb, with_back v.vr v.pos]
/-- What is free can't be given back once more. -/
theorem GOk.twice {p : Pl} {u : Nm} {n : Int} (h : GOk p u n) : ¬ Apart (p.free ++ gT p n) := fun ha => by
  obtain ⟨x, r, e⟩ := List.exists_cons_of_ne_nil h.neT
  have hx : x ∈ gT p n := by rw [e]; exact List.mem_cons_self
  have hox := h.tf.nT.1 x hx
  unfold okx at hox
  have h1 : num x.1 (gT p n) := ⟨x, hx, Int.le_refl _, by omega⟩
  exact ((apart_append h.can.v.vn.1 h.tf.nT.1).1 ha).2.2 x.1 ⟨(h.tf.nu _).1 (.inl h1), h1⟩

/-! Drained -/
theorem Valid.dr {p : Pl} (h : Valid p) (b : Bool) : Valid { p with drain := b } := ⟨⟨h.vb.s, h.vb.g, h.vb.q, h.vb.g0, h.vb.d⟩, h.vf, h.vn, h.vi, h.vr, h.vo, h.va⟩
theorem gcode_drain {p : Pl} {u : Nm} {n : Int} (h : p.drain = true) : gcode p u n = 2 ∨ gcode p u n = 9 := by
  unfold gcode
  split
  · exact .inr (by simp [h])
  · exact .inl rfl
theorem dvd_gr {p : Pl} (h : Valid p) {n : Int} (h0 : 0 < n) (h1 : n ≤ 1099511627776) (hd : p.grain ∣ n) : gr n p.grain = n := by
  obtain ⟨m, a1, a2, a3, a4, a5⟩ := gr_spec h0 h1 h.vb.gp h.vb.g.2
  have := a4 n hd (Int.le_refl _)
  omega
/-- All that is free can be had, but for the quota. -/
theorem gcode_free {p : Pl} {u : Nm} {n : Int} (h : gcode p u n = 6) : gcode p u (tot p.free) = 0 ∨ (tot p.free = 0 ∧ gcode p u (tot p.free) = 2) ∨ gcode p u (tot p.free) = 120 := by
  have hc : CanG p u n ∧ p.drain = false := by
    unfold gcode at h
    split at h
    · rename_i h1
      refine ⟨h1, ?_⟩
      cases hd : p.drain with
      | false => rfl
      | true => rw [hd] at h; simp at h
    · omega
  have v := hc.1.v
  have ht := (tot_pos v.vf.2.1).1
  have ht1 := tot_top v.vf.2.1 v.vf.2.2
  by_cases h0 : tot p.free = 0
  · refine .inr (.inl ⟨h0, ?_⟩)
    unfold gcode
    rw [if_neg fun h => by have := h.n0; omega]
  · have hcan : CanG p u (tot p.free) := ⟨v, by omega, ht1, hc.1.nm⟩
    have hg := dvd_gr v (show 0 < tot p.free by omega) ht1 (al_tot v.vi.1)
    unfold gcode
    rw [if_pos hcan, if_neg (by simp [hc.2]), hg]
    split
    · exact .inr (.inr rfl)
    · rw [if_neg (by omega)]; exact .inl rfl
end Go.Proofs.Ytdjpnlkhdilakaa.po
