/- PoolPlays: what is out, and what the pool is, behind each act (plain); how it lies in memory; what is appended to rows of the call's own. -/
import Derived.Test.YtdjpnlkhdilakaaPoN
import Derived.Test.YtdjpnlkhdilakaaPoC
set_option linter.unusedVariables false
set_option linter.unusedSimpArgs false
namespace Go.Proofs.Ytdjpnlkhdilakaa.po
open Go.Proofs.Ytdjpnlkhdilakaa.ex

/-- What the rows that are out by a name make. -/
def su : List (List X) → List Nm → Nm → Int
  | r :: o, u :: w, v => (if v = u then tot r else 0) + su o w v
  | _, _, _ => 0
def tt : List (List X) → Int
  | [] => 0
  | r :: o => tot r + tt o
theorem tt_append : ∀ a b : List (List X), tt (a ++ b) = tt a + tt b
  | [], b => by simp [tt]
  | r :: a, b => by
    show tot r + tt (a ++ b) = tot r + tt a + tt b
    rw [tt_append a b]; omega
theorem su_append : ∀ (a : List (List X)) (c : List Nm) (b : List (List X)) (d : List Nm) (v : Nm), a.length = c.length → su (a ++ b) (c ++ d) v = su a c v + su b d v
  | [], [], b, d, v, _ => by simp [su]
  | r :: a, u :: c, b, d, v, h => by
    show (if v = u then tot r else 0) + su (a ++ b) (c ++ d) v = ((if v = u then tot r else 0) + su a c v) + su b d v
    rw [su_append a c b d v (by simpa using h)]; omega
theorem su_pos : ∀ (a : List (List X)) (c : List Nm) (v : Nm), (∀ r ∈ a, Ok r) → 0 ≤ su a c v
  | [], [], v, _ => by simp [su]
  | [], _ :: _, v, _ => by simp [su]
  | _ :: _, [], v, _ => by simp [su]
  | r :: a, u :: c, v, h => by
    have h1 := su_pos a c v fun q hq => h q (List.mem_cons_of_mem _ hq)
    have h2 := (tot_pos (h r List.mem_cons_self)).1
    show 0 ≤ (if v = u then tot r else 0) + su a c v
    split <;> omega
theorem len2 : ∀ {l : List X} {a b : Int}, Normal l → a ≤ b → (∀ x ∈ l, a ≤ x.1 ∧ x.1 + x.2 ≤ b) → (2 * l.length : Int) ≤ b - a + 1
  | [], a, b, _, h, _ => by simp; omega
  | [x], a, b, hn, h, hx => by
    have h1 := hn.1 x List.mem_cons_self
    have h2 := hx x List.mem_cons_self
    unfold okx at h1
    simp; omega
  | x :: y :: r, a, b, hn, h, hx => by
    have h1 := hn.1 x List.mem_cons_self
    have h2 := hx x List.mem_cons_self
    have h3 := (List.pairwise_cons.1 hn.2).1
    have h4 := hx y (by simp)
    have h5 := h3 y List.mem_cons_self
    have h6 := hn.1 y (by simp)
    unfold okx at h1 h6
    have := len2 (l := y :: r) (a := x.1 + x.2 + 1) (b := b) (normal_tail hn) (by omega) fun z hz => ⟨by have := h3 z hz; omega, (hx z (List.mem_cons_of_mem _ hz)).2⟩
    simp only [List.length_cons] at this ⊢
    push_cast at this ⊢
    omega

structure Iv (f p : Pl) (out : List (List X)) (who : List Nm) : Prop where
  fv : Valid f
  fd : f.drain = false
  v : Valid p
  sz : p.size = f.size
  gr : p.grain = f.grain
  qu : p.quota = f.quota
  dr : p.drain = f.drain
  be : p.best = f.best
  fu : f.uses = []
  ln : out.length = who.length
  ok : ∀ r ∈ out, Normal r ∧ r ≠ [] ∧ Ins f r
  nm : ∀ u ∈ who, Nam u
  ap : out.Pairwise fun a b => ∀ n, num n a → num n b → False
  fr : ∀ r ∈ out, ∀ n, num n p.free → num n r → False
  nu : ∀ n, (num n p.free ∨ ∃ r ∈ out, num n r) ↔ num n f.free
  us : ∀ v, lk p.uses v = su out who v
  ttl : tot p.free + tt out = f.size
theorem Iv.start {f : Pl} (hv : Valid f) (hd : f.drain = false) (hu : f.uses = []) (ht : tot f.free = f.size) : Iv f f [] [] where
  fv := hv
  fd := hd
  v := hv
  sz := rfl
  gr := rfl
  qu := rfl
  dr := rfl
  be := rfl
  fu := hu
  ln := rfl
  ok := fun r hr => by cases hr
  nm := fun r hr => by cases hr
  ap := List.Pairwise.nil
  fr := fun r hr => by cases hr
  nu := fun n => by simp
  us := fun v => by rw [hu]; rfl
  ttl := by rw [ht]; simp [tt]
theorem Iv.done {f p : Pl} (h : Iv f p [] []) : p = f := by
  have h1 : p.free = f.free := normal_unique h.v.vn h.fv.vn fun n => by rw [← h.nu n]; simp
  have h2 : p.uses = [] := by
    rw [← h.fu]
    refine rise_ext h.v.vr h.fv.vr h.v.pos h.fv.pos fun u => ?_
    rw [h.us u, h.fu]; rfl
  have a := h.sz
  have b := h.gr
  have c := h.qu
  have d := h.dr
  have e := h.be
  have k := h.fu
  obtain ⟨x1, x2, x3, x4, x5, x6, x7⟩ := p
  obtain ⟨y1, y2, y3, y4, y5, y6, y7⟩ := f
  simp only at *
  subst a b c d e h1 h2 k
  rfl
/-- What is free is few, and each row that is out. -/
theorem Iv.few {f p : Pl} {out : List (List X)} {who : List Nm} (h : Iv f p out who) (hs : f.size ≤ 1000) : p.free.length ≤ 500 ∧ p.uses.length ≤ 1000 ∧ ∀ r ∈ out, r.length ≤ 500 ∧ Fine r ∧ 0 ≤ tot r ∧ tot r ≤ 1000 := by
  have hs0 := h.fv.vb.s.1
  have hl := len2 (a := 0) (b := f.size) h.v.vn hs0 fun x hx => ⟨(h.v.vn.1 x hx).1, by rw [← h.sz]; exact h.v.vi.2 x hx⟩
  have hu := sm_pos h.v.pos
  have ht := (tot_pos h.v.vn.1).1
  have ha := h.v.va
  rw [h.sz] at ha
  refine ⟨by omega, by omega, fun r hr => ?_⟩
  obtain ⟨h1, _, h3⟩ := h.ok r hr
  have k := len2 (a := 0) (b := f.size) h1 hs0 fun x hx => ⟨(h1.1 x hx).1, h3.2 x hx⟩
  have k2 := ins_tot h1 hs0 h3.2
  exact ⟨by omega, ⟨by omega, h1.1, h1.apart⟩, (tot_pos h1.1).1, by omega⟩
theorem Iv.grant {f p : Pl} {out : List (List X)} {who : List Nm} {u : Nm} {n : Int} (h : Iv f p out who) (hg : GOk p u n) : Iv f (gP p u n) (out ++ [gT p n]) (who ++ [u]) where
  fv := h.fv
  fd := h.fd
  v := hg.valid
  sz := h.sz
  gr := h.gr
  qu := h.qu
  dr := h.dr
  be := h.be
  fu := h.fu
  ln := by simp [h.ln]
  ok := fun r hr => by
    rcases List.mem_append.1 hr with hr | hr
    · exact h.ok r hr
    · obtain rfl := List.mem_singleton.1 hr
      have := hg.insT
      exact ⟨hg.tf.nT, hg.neT, by rw [← h.gr]; exact this.1, by rw [← h.sz]; exact this.2⟩
  nm := fun r hr => by
    rcases List.mem_append.1 hr with hr | hr
    · exact h.nm r hr
    · obtain rfl := List.mem_singleton.1 hr
      exact hg.can.nm
  ap := by
    refine List.pairwise_append.2 ⟨h.ap, List.pairwise_singleton _ _, fun a ha b hb k h1 h2 => ?_⟩
    obtain rfl := List.mem_singleton.1 hb
    exact h.fr a ha k ((hg.tf.nu k).1 (.inl h2)) h1
  fr := fun r hr k h1 h2 => by
    rcases List.mem_append.1 hr with hr | hr
    · exact h.fr r hr k ((hg.tf.nu k).1 (.inr h1)) h2
    · obtain rfl := List.mem_singleton.1 hr
      exact hg.tf.dj k h2 h1
  nu := fun k => by
    rw [← h.nu k]
    constructor
    · rintro (h1 | ⟨r, hr, h1⟩)
      · exact .inl ((hg.tf.nu k).1 (.inr h1))
      · rcases List.mem_append.1 hr with hr | hr
        · exact .inr ⟨r, hr, h1⟩
        · obtain rfl := List.mem_singleton.1 hr
          exact .inl ((hg.tf.nu k).1 (.inl h1))
    · rintro (h1 | ⟨r, hr, h1⟩)
      · rcases (hg.tf.nu k).2 h1 with h2 | h2
        · exact .inr ⟨_, List.mem_append.2 (.inr (List.mem_singleton.2 rfl)), h2⟩
        · exact .inl h2
      · exact .inr ⟨r, List.mem_append.2 (.inl hr), h1⟩
  us := fun v => by
    rw [hg.lk v, su_append _ _ _ _ _ h.ln]
    show _ = su out who v + ((if v = u then tot (gT p n) else 0) + 0)
    rw [hg.tf.tT, ← h.us v]
    split
    · next e => rw [e]; omega
    · omega
  ttl := by
    have h1 := h.ttl
    have h2 := hg.tf.tR
    rw [tt_append]
    show tot (gR p n) + (tt out + (tot (gT p n) + 0)) = f.size
    rw [hg.tf.tT, h2]; omega
/-- Any row that is out can be returned. -/
theorem Iv.back {f p : Pl} {a b : List (List X)} {c d : List Nm} {r : List X} {u : Nm} (h : Iv f p (a ++ r :: b) (c ++ u :: d)) (hl : a.length = c.length) (hs : f.size ≤ 1000) : ROk p u r ∧ Iv f (rP p u r) (a ++ b) (c ++ d) := by
  have hm : r ∈ a ++ r :: b := by simp
  have hsub : ∀ q ∈ a ++ b, q ∈ a ++ r :: b := fun q hq => by
    rcases List.mem_append.1 hq with hq | hq
    · exact List.mem_append.2 (.inl hq)
    · exact List.mem_append.2 (.inr (List.mem_cons_of_mem _ hq))
  obtain ⟨h1, h2, h3⟩ := h.ok r hm
  obtain ⟨f1, f2, f3⟩ := h.few hs
  have hap : Apart (p.free ++ r) := apart_nums h.v.vn.1 h1.1 h.v.vn.apart h1.apart (h.fr r hm)
  have hnf := nrm_of (ok_append.2 ⟨h.v.vn.1, h1.1⟩) hap
  have hs0 := h.fv.vb.s.1
  have hin : ∀ x ∈ nrm (p.free ++ r), x.1 + x.2 ≤ f.size := ins_le hnf.nrm.1 (a := f.free) (fun n hn => by
    rw [hnf.num n, num_append] at hn
    exact (h.nu n).1 (hn.imp id fun k => ⟨r, hm, k⟩)) h.fv.vi.2
  have hln := len2 (a := 0) (b := f.size) hnf.nrm hs0 fun x hx => ⟨(hnf.nrm.1 x hx).1, hin x hx⟩
  have hsu : su (a ++ r :: b) (c ++ u :: d) u = su a c u + (tot r + su b d u) := by
    rw [su_append _ _ _ _ _ hl]
    show su a c u + ((if u = u then tot r else 0) + su b d u) = _
    rw [if_pos rfl]
  have p1 := su_pos a c u fun q hq => (h.ok q (List.mem_append.2 (.inl hq))).1.1
  have p2 := su_pos b d u fun q hq => (h.ok q (List.mem_append.2 (.inr (List.mem_cons_of_mem _ hq)))).1.1
  have hus := h.us u
  rw [hsu] at hus
  have hr : ROk p u r := ⟨h.v, h.nm u (by simp), h2, (f3 r hm).2.1, ⟨by rw [h.gr]; exact h3.1, by rw [h.sz]; exact h3.2⟩, by omega, hap, by omega⟩
  have hpw := List.pairwise_append.1 h.ap
  have hcr := List.pairwise_cons.1 hpw.2.1
  refine ⟨hr, h.fv, h.fd, hr.valid, h.sz, h.gr, h.qu, h.dr, h.be, h.fu, ?_, fun q hq => h.ok q (hsub q hq), fun q hq => h.nm q ?_, ?_, ?_, ?_, ?_, ?_⟩
  · have := h.ln
    simp only [List.length_append, List.length_cons] at this ⊢
    omega
  · rcases List.mem_append.1 hq with hq | hq
    · exact List.mem_append.2 (.inl hq)
    · exact List.mem_append.2 (.inr (List.mem_cons_of_mem _ hq))
  · exact List.pairwise_append.2 ⟨hpw.1, hcr.2, fun x hx y hy => hpw.2.2 x hx y (List.mem_cons_of_mem _ hy)⟩
  · intro q hq n k1 k2
    have k1 : num n (nrm (p.free ++ r)) := k1
    rw [hnf.num n, num_append] at k1
    rcases k1 with k1 | k1
    · exact h.fr q (hsub q hq) n k1 k2
    · rcases List.mem_append.1 hq with hq | hq
      · exact hpw.2.2 q hq r List.mem_cons_self n k2 k1
      · exact hcr.1 q hq n k1 k2
  · intro n
    rw [← h.nu n]
    show num n (nrm (p.free ++ r)) ∨ _ ↔ _
    rw [hnf.num n, num_append]
    constructor
    · rintro ((k | k) | ⟨q, hq, k⟩)
      · exact .inl k
      · exact .inr ⟨r, hm, k⟩
      · exact .inr ⟨q, hsub q hq, k⟩
    · rintro (k | ⟨q, hq, k⟩)
      · exact .inl (.inl k)
      · rcases List.mem_append.1 hq with hq | hq
        · exact .inr ⟨q, List.mem_append.2 (.inl hq), k⟩
        · rcases List.mem_cons.1 hq with rfl | hq
          · exact .inl (.inr k)
          · exact .inr ⟨q, List.mem_append.2 (.inr hq), k⟩
  · intro v
    rw [hr.lk v, su_append _ _ _ _ _ hl]
    have k := h.us v
    rw [su_append _ _ _ _ _ hl] at k
    have k : lk p.uses v = su a c v + ((if v = u then tot r else 0) + su b d v) := k
    split
    · next e =>
      rw [if_pos e] at k
      rw [← e]; omega
    · next e =>
      rw [if_neg e] at k
      omega
  · have k := h.ttl
    rw [tt_append] at k ⊢
    have k : tot p.free + (tt a + (tot r + tt b)) = f.size := k
    show tot (nrm (p.free ++ r)) + _ = _
    rw [hnf.tot, tot_append]; omega
theorem tt_pos : ∀ {a : List (List X)}, (∀ r ∈ a, Ok r) → 0 ≤ tt a
  | [], _ => by simp [tt]
  | r :: a, h => by
    have h1 := tt_pos (a := a) fun q hq => h q (List.mem_cons_of_mem _ hq)
    have h2 := (tot_pos (h r List.mem_cons_self)).1
    show 0 ≤ tot r + tt a
    omega
theorem Iv.part {f p : Pl} {out : List (List X)} {who : List Nm} (h : Iv f p out who) (hs : f.size ≤ 1000) {k : Nat} (hk : k < out.length) :
    0 ≤ tt (out.take k) ∧ 0 ≤ tot out[k]! ∧ tt (out.take k) + tot out[k]! ≤ 1000 ∧ tt (out.take (k + 1)) = tt (out.take k) + tot out[k]! ∧ out[k]! ∈ out := by
  have hm : out[k]! ∈ out := by rw [getElem!_pos out k hk]; exact List.getElem_mem hk
  have e1 : out.take (k + 1) = out.take k ++ [out[k]!] := by rw [getElem!_pos out k hk, List.take_succ_eq_append_getElem hk]
  have e2 : tt (out.take (k + 1)) = tt (out.take k) + tot out[k]! := by rw [e1, tt_append]; simp [tt]
  have p1 := tt_pos (a := out.take k) fun r hr => (h.ok r (List.mem_of_mem_take hr)).1.1
  have p2 := tt_pos (a := out.drop (k + 1)) fun r hr => (h.ok r (List.mem_of_mem_drop hr)).1.1
  have p3 := (tot_pos (h.ok _ hm).1.1).1
  have p4 := (tot_pos h.v.vn.1).1
  have e3 : tt out = tt (out.take (k + 1)) + tt (out.drop (k + 1)) := by rw [← tt_append, List.take_append_drop]
  have := h.ttl
  exact ⟨p1, p3, by omega, e2, hm⟩
theorem Iv.apart {f p : Pl} {out : List (List X)} {who : List Nm} (h : Iv f p out who) {j k : Nat} (hjk : j < k) (hk : k < out.length) : Apart (out[j]! ++ out[k]!) := by
  have hj : j < out.length := by omega
  have hp := List.pairwise_iff_getElem.1 h.ap j k hj hk hjk
  rw [getElem!_pos out j hj, getElem!_pos out k hk]
  have a := (h.ok _ (List.getElem_mem hj)).1
  have b := (h.ok _ (List.getElem_mem hk)).1
  exact apart_nums a.1 b.1 a.apart b.apart hp
theorem cut_eq {α : Type} [Inhabited α] {l : List α} {k : Nat} (hk : k < l.length) : l = l.take k ++ l[k]! :: l.drop (k + 1) := by
  rw [getElem!_pos l k hk, ← List.drop_eq_getElem_cons hk, List.take_append_drop]
/-- The row that is out as the k-th can be returned. -/
theorem Iv.at_ {f p : Pl} {out : List (List X)} {who : List Nm} (h : Iv f p out who) (hs : f.size ≤ 1000) {k : Nat} (hk : k < out.length) :
    ROk p who[k]! out[k]! ∧ Iv f (rP p who[k]! out[k]!) (out.take k ++ out.drop (k + 1)) (who.take k ++ who.drop (k + 1)) := by
  have hw : k < who.length := by have := h.ln; omega
  have h' : Iv f p (out.take k ++ out[k]! :: out.drop (k + 1)) (who.take k ++ who[k]! :: who.drop (k + 1)) := by rw [← cut_eq hk, ← cut_eq hw]; exact h
  exact h'.back (by have := h.ln; simp; omega) hs
/-- The first one of those that are out yet. -/
theorem Iv.front {f p : Pl} {out : List (List X)} {who : List Nm} {k : Nat} (h : Iv f p (out.drop k) (who.drop k)) (hs : f.size ≤ 1000) (hk : k < out.length) (hl : out.length = who.length) :
    ROk p who[k]! out[k]! ∧ Iv f (rP p who[k]! out[k]!) (out.drop (k + 1)) (who.drop (k + 1)) := by
  have hw : k < who.length := by omega
  have h' : Iv f p ([] ++ out[k]! :: out.drop (k + 1)) ([] ++ who[k]! :: who.drop (k + 1)) := by
    rw [List.nil_append, List.nil_append, getElem!_pos out k hk, getElem!_pos who k hw, ← List.drop_eq_getElem_cons hk, ← List.drop_eq_getElem_cons hw]
    exact h
  exact h'.back rfl hs
end Go.Proofs.Ytdjpnlkhdilakaa.po
set_option maxRecDepth 100000
namespace Go.Proofs.Ytdjpnlkhdilakaa.gn
open Go.RowKit Go.Shelf Go.Sort Go.Lib
open Go.Proofs.Ytdjpnlkhdilakaa.ex
open Go.Proofs.Ytdjpnlkhdilakaa.po (Nm U less Pl)

/-- As RdC, in none of the blocks M. -/
def RdF (M : Nat → Prop) (w : World) (v : Value) (n : Nat) (cs : List Value) : Prop :=
  (∃ p c, v = .slice p 0 c ∧ n = 0 ∧ cs = [] ∧ (p = none → c = 0)) ∨ ∃ b off c, v = .slice (some ⟨b, off, none⟩) n c ∧ b < w.heap.size ∧ ¬ M b ∧ CellsC w b off cs
theorem RdF.rdc {M : Nat → Prop} {w : World} {v : Value} {n : Nat} {cs : List Value} (h : RdF M w v n cs) : RdC w v n cs := by
  rcases h with h | ⟨b, off, c, e, h1, _, h2⟩
  · exact .inl h
  · exact .inr ⟨b, off, c, e, h1, h2⟩
theorem RdO.rdf {lo hi : Nat} {M : Nat → Prop} {w : World} {v : Value} {n : Nat} {cs : List Value} (h : RdO lo hi w v n cs) (hm : ∀ b, M b → lo ≤ b ∧ b < hi) : RdF M w v n cs := by
  rcases h with h | ⟨b, off, c, e, h1, h0, h2⟩
  · exact .inl h
  · exact .inr ⟨b, off, c, e, h1, fun k => by have := hm b k; omega, h2⟩
theorem RdC.rdf {M : Nat → Prop} {w : World} {v : Value} {n : Nat} {cs : List Value} (h : RdC w v n cs) (hm : ∀ b, M b → w.heap.size ≤ b) : RdF M w v n cs := by
  rcases h with h | ⟨b, off, c, e, h1, h2⟩
  · exact .inl h
  · exact .inr ⟨b, off, c, e, h1, fun k => by have := hm b k; omega, h2⟩
theorem RdF.kept {M : Nat → Prop} {w w' : World} {v : Value} {n : Nat} {cs : List Value} (h : RdF M w v n cs) (hs : w.heap.size ≤ w'.heap.size) (hk : ∀ b, b < w.heap.size → ¬ M b → w'.heap[b]? = w.heap[b]?) : RdF M w' v n cs := by
  rcases h with h | ⟨b, off, c, e, h1, h0, h2⟩
  · exact .inl h
  · exact .inr ⟨b, off, c, e, Nat.lt_of_lt_of_le h1 hs, h0, fun j u hu => (World.cell?_of_block (a := ⟨b, off + j, none⟩) (hk b h1 h0)).trans (h2 j u hu)⟩
theorem RdF.moved {M M' : Nat → Prop} {w : World} {v : Value} {n : Nat} {cs : List Value} (h : RdF M w v n cs) (hm : ∀ b, M' b → b < w.heap.size → M b) : RdF M' w v n cs := by
  rcases h with h | ⟨b, off, c, e, h1, h0, h2⟩
  · exact .inl h
  · exact .inr ⟨b, off, c, e, h1, fun k => h0 (hm b k h1), h2⟩

abbrev namesB : Obj := .cells #[.string ⟨#[97]⟩, .string ⟨#[98]⟩, .string ⟨#[99]⟩] 9
def Mu (B : Nat) (vo vs : Value) (b : Nat) : Prop := b = B ∨ vo.ownBlock = some b ∨ vs.ownBlock = some b
/-- How it stands: the pool's box B, first's box C, the names' row D. -/
structure PS (N : Nat) (W : World) (B C D : Nat) (f p : Pl) (vf vu gf gu vo vs : Value) (rs : List Value) (out : List (List X)) (who : List Nm) : Prop where
  b7 : W.heap[B]? = some (boxP p vf vu)
  b9 : W.heap[C]? = some (boxP f gf gu)
  bn : W.heap[D]? = some namesB
  n7 : N ≤ B
  n9 : N ≤ C
  nn : N ≤ D
  bc : B ≠ C
  bd : B ≠ D
  cd : C ≠ D
  so : W.ownsRow N 22 1 vo out.length rs
  ss : W.ownsRow N 9 1 vs who.length (who.map fun u => .string (str u))
  mo : ∀ b, vo.ownBlock = some b → b ≠ B ∧ b ≠ C ∧ b ≠ D ∧ vs.ownBlock ≠ some b
  ms : ∀ b, vs.ownBlock = some b → b ≠ B ∧ b ≠ C ∧ b ≠ D
  rf : RdF (Mu B vo vs) W vf p.free.length (fl p.free)
  ru : RdF (Mu B vo vs) W vu p.uses.length (flU p.uses)
  cu : ∃ q c, vu = .slice q p.uses.length c ∧ p.uses.length ≤ c
  hf : RdF (Mu B vo vs) W gf f.free.length (fl f.free)
  hu : RdF (Mu B vo vs) W gu f.uses.length (flU f.uses)
  hc : ∃ q c, gu = .slice q f.uses.length c ∧ f.uses.length ≤ c
  rr : ∀ i, i < out.length → RdF (Mu B vo vs) W rs[i]! out[i]!.length (fl out[i]!)
section
variable {N : Nat} {W W' : World} {B C D : Nat} {f p q : Pl} {vf vu gf gu vo vs : Value} {rs : List Value} {out : List (List X)} {who : List Nm}
theorem PS.lB (h : PS N W B C D f p vf vu gf gu vo vs rs out who) : B < W.heap.size := (Array.getElem?_eq_some_iff.1 h.b7).1
theorem PS.lC (h : PS N W B C D f p vf vu gf gu vo vs rs out who) : C < W.heap.size := (Array.getElem?_eq_some_iff.1 h.b9).1
theorem PS.lD (h : PS N W B C D f p vf vu gf gu vo vs rs out who) : D < W.heap.size := (Array.getElem?_eq_some_iff.1 h.bn).1
theorem PS.lM (h : PS N W B C D f p vf vu gf gu vo vs rs out who) {b : Nat} (hb : Mu B vo vs b) : b < W.heap.size := by
  rcases hb with rfl | hb | hb
  · exact h.lB
  · exact (World.ownsRow.lt h.so b hb).2
  · exact (World.ownsRow.lt h.ss b hb).2
theorem PS.next (h : PS N W B C D f p vf vu gf gu vo vs rs out who) (hb : RowKit.Below W.heap.size W W') : PS N W' B C D f p vf vu gf gu vo vs rs out who := by
  have hk : ∀ b, b < W.heap.size → W'.heap[b]? = W.heap[b]? := fun b hl => hb.block b hl
  have hr : ∀ {v n cs}, RdF (Mu B vo vs) W v n cs → RdF (Mu B vo vs) W' v n cs := fun k => k.kept hb.size fun b hl _ => hk b hl
  exact ⟨(hk B h.lB).trans h.b7, (hk C h.lC).trans h.b9, (hk D h.lD).trans h.bn, h.n7, h.n9, h.nn, h.bc, h.bd, h.cd,
    World.ownsRow.kept h.so (grown_new hb) (by cases hv : vo.ownBlock <;> simp), World.ownsRow.kept h.ss (grown_new hb) (by cases hv : vs.ownBlock <;> simp), h.mo, h.ms, hr h.rf, hr h.ru, h.cu, hr h.hf, hr h.hu, h.hc, fun i hi => hr (h.rr i hi)⟩
/-- What a call made lies in no such block. -/
theorem PS.fresh (h : PS N W B C D f p vf vu gf gu vo vs rs out who) {W1 : World} {v : Value} {n : Nat} {cs : List Value} (hr : RdO 0 W.heap.size W1 v n cs) : RdF (Mu B vo vs) W1 v n cs :=
  hr.rdf fun b hb => ⟨Nat.zero_le _, h.lM hb⟩
theorem grown_row {w : World} {b : Nat} (cs : Array Value) : w.grownBy (w.setRow b cs) (some b) := ⟨rfl, rfl, rfl, by simp [World.setRow], fun k _ hk => setRow_other w b k cs fun e => hk (by rw [e])⟩
/-- The pool's box gets another pool. -/
theorem PS.store (h : PS N W B C D f p vf vu gf gu vo vs rs out who) {uf uu : Value} (h1 : RdF (Mu B vo vs) W uf q.free.length (fl q.free)) (h2 : RdF (Mu B vo vs) W uu q.uses.length (flU q.uses)) (h3 : ∃ a c, uu = .slice a q.uses.length c ∧ q.uses.length ≤ c) :
    PS N (W.setRow B #[.int .i64 q.size, .int .i64 q.grain, .int .i64 q.quota, .bool q.drain, .bool q.best, uf, uu]) B C D f q uf uu gf gu vo vs rs out who := by
  have hg := grown_row (w := W) (b := B) #[.int .i64 q.size, .int .i64 q.grain, .int .i64 q.quota, .bool q.drain, .bool q.best, uf, uu]
  have hk : ∀ b, b < W.heap.size → b ≠ B → (W.setRow B #[.int .i64 q.size, .int .i64 q.grain, .int .i64 q.quota, .bool q.drain, .bool q.best, uf, uu]).heap[b]? = W.heap[b]? := fun b hl hne => hg.block b hl (by simpa using hne)
  have hr : ∀ {v n cs}, RdF (Mu B vo vs) W v n cs → RdF (Mu B vo vs) (W.setRow B #[.int .i64 q.size, .int .i64 q.grain, .int .i64 q.quota, .bool q.drain, .bool q.best, uf, uu]) v n cs := fun k => k.kept hg.size fun b hl hm => hk b hl fun e => hm (.inl e)
  refine ⟨setRow_heap W B _ _ _ (0, 0) h.b7, (hk C h.lC (Ne.symm h.bc)).trans h.b9, (hk D h.lD (Ne.symm h.bd)).trans h.bn, h.n7, h.n9, h.nn, h.bc, h.bd, h.cd,
    World.ownsRow.kept h.so hg ?_, World.ownsRow.kept h.ss hg ?_, h.mo, h.ms, hr h1, hr h2, h3, hr h.hf, hr h.hu, h.hc, fun i hi => hr (h.rr i hi)⟩
  · cases hv : vo.ownBlock with
    | none => exact .inl rfl
    | some b => exact .inr fun e => (h.mo b hv).1 (Option.some.inj e)
  · cases hv : vs.ownBlock with
    | none => exact .inl rfl
    | some b => exact .inr fun e => (h.ms b hv).1 (Option.some.inj e)
theorem PS.kept (h : PS N W B C D f p vf vu gf gu vo vs rs out who) {v : Value} {n : Nat} {cs : List Value} (k : RdF (Mu B vo vs) W v n cs) (c : Array Value) : RdF (Mu B vo vs) (W.setRow B c) v n cs :=
  k.kept (grown_row c).size fun b hl hm => (grown_row (w := W) (b := B) c).block b hl fun e => hm (.inl (Option.some.inj e))
theorem RdF.next {M : Nat → Prop} {w w' : World} {v : Value} {n : Nat} {cs : List Value} (h : RdF M w v n cs) (hb : RowKit.Below w.heap.size w w') : RdF M w' v n cs := h.kept hb.size fun b hl _ => hb.block b hl
/-- A row more is out. -/
theorem PS.push (h : PS N W B C D f p vf vu gf gu vo vs rs out who) {v' vt : Value} {T : List X} (hT : RdF (Mu B vo vs) W vt T.length (fl T)) (ha : W'.ownsRow N 22 1 v' (out.length + 1) (rs ++ [vt])) (hg : W.grownBy W' vo.ownBlock) (hv : v'.ownBlock = vo.ownBlock ∨ v'.ownBlock = some W.heap.size) :
    PS N W' B C D f p vf vu gf gu v' vs (rs ++ [vt]) (out ++ [T]) who := by
  have hk : ∀ b, b < W.heap.size → vo.ownBlock ≠ some b → W'.heap[b]? = W.heap[b]? := fun b hl hne => hg.block b hl fun e => hne e.symm
  have hm : ∀ b, Mu B v' vs b → b < W.heap.size → Mu B vo vs b := fun b hb hl => by
    rcases hb with hb | hb | hb
    · exact .inl hb
    · rcases hv with hv | hv
      · exact .inr (.inl (hv ▸ hb))
      · rw [hv] at hb; have := Option.some.inj hb; omega
    · exact .inr (.inr hb)
  have hr : ∀ {v n cs}, RdF (Mu B vo vs) W v n cs → RdF (Mu B v' vs) W' v n cs := fun k => by
    have k1 := k.moved hm
    rcases k with k | ⟨b, off, c, e, h1, h0, h2⟩
    · exact .inl k
    · exact .inr ⟨b, off, c, e, Nat.lt_of_lt_of_le h1 hg.size, fun hb => h0 (hm b hb h1), fun j u hu => (World.cell?_of_block (a := ⟨b, off + j, none⟩) (hk b h1 fun e => h0 (.inr (.inl e)))).trans (h2 j u hu)⟩
  have hlen : rs.length = out.length := by have := h.so.1; omega
  refine ⟨(hk B h.lB fun e => (h.mo B e).1 rfl).trans h.b7, (hk C h.lC fun e => (h.mo C e).2.1 rfl).trans h.b9, (hk D h.lD fun e => (h.mo D e).2.2.1 rfl).trans h.bn, h.n7, h.n9, h.nn, h.bc, h.bd, h.cd, by rw [List.length_append]; exact ha,
    World.ownsRow.kept h.ss hg ?_, ?_, h.ms, hr h.rf, hr h.ru, h.cu, hr h.hf, hr h.hu, h.hc, fun i hi => ?_⟩
  · cases hb : vs.ownBlock with
    | none => exact .inl rfl
    | some b => exact .inr fun e => (h.mo b e.symm).2.2.2 hb
  · intro b hb
    rcases hv with hv | hv
    · exact h.mo b (hv ▸ hb)
    · rw [hv] at hb
      obtain rfl := Option.some.inj hb
      have hB := h.lB; have hC := h.lC; have hD := h.lD
      exact ⟨by omega, by omega, by omega, fun e => by have := (World.ownsRow.lt h.ss _ e).2; omega⟩
  · rw [List.length_append] at hi
    simp only [List.length_singleton] at hi
    by_cases hl : i < out.length
    · have e1 : (rs ++ [vt])[i]! = rs[i]! := by rw [getElem!_pos _ i (by simp; omega), getElem!_pos rs i (by omega), List.getElem_append_left (by omega)]
      have e2 : (out ++ [T])[i]! = out[i]! := by rw [getElem!_pos _ i (by simp; omega), getElem!_pos out i hl, List.getElem_append_left hl]
      rw [e1, e2]
      exact hr (h.rr i hl)
    · obtain rfl : i = out.length := by omega
      have e1 : (rs ++ [vt])[out.length]! = vt := by rw [getElem!_pos _ _ (by simp; omega), List.getElem_append_right (by omega)]; simp [hlen]
      have e2 : (out ++ [T])[out.length]! = T := by rw [getElem!_pos _ _ (by simp), List.getElem_append_right (by omega)]; simp
      rw [e1, e2]
      exact hr hT
/-- A name more. -/
theorem PS.name (h : PS N W B C D f p vf vu gf gu vo vs rs out who) {v' : Value} {u : Nm} (ha : W'.ownsRow N 9 1 v' (who.length + 1) ((who.map fun u => .string (str u)) ++ [.string (str u)])) (hg : W.grownBy W' vs.ownBlock) (hv : v'.ownBlock = vs.ownBlock ∨ v'.ownBlock = some W.heap.size) :
    PS N W' B C D f p vf vu gf gu vo v' rs out (who ++ [u]) := by
  have hk : ∀ b, b < W.heap.size → vs.ownBlock ≠ some b → W'.heap[b]? = W.heap[b]? := fun b hl hne => hg.block b hl fun e => hne e.symm
  have hm : ∀ b, Mu B vo v' b → b < W.heap.size → Mu B vo vs b := fun b hb hl => by
    rcases hb with hb | hb | hb
    · exact .inl hb
    · exact .inr (.inl hb)
    · rcases hv with hv | hv
      · exact .inr (.inr (hv ▸ hb))
      · rw [hv] at hb; have := Option.some.inj hb; omega
  have hr : ∀ {v n cs}, RdF (Mu B vo vs) W v n cs → RdF (Mu B vo v') W' v n cs := fun k => by
    rcases k with k | ⟨b, off, c, e, h1, h0, h2⟩
    · exact .inl k
    · exact .inr ⟨b, off, c, e, Nat.lt_of_lt_of_le h1 hg.size, fun hb => h0 (hm b hb h1), fun j u hu => (World.cell?_of_block (a := ⟨b, off + j, none⟩) (hk b h1 fun e => h0 (.inr (.inr e)))).trans (h2 j u hu)⟩
  refine ⟨(hk B h.lB fun e => (h.ms B e).1 rfl).trans h.b7, (hk C h.lC fun e => (h.ms C e).2.1 rfl).trans h.b9, (hk D h.lD fun e => (h.ms D e).2.2 rfl).trans h.bn, h.n7, h.n9, h.nn, h.bc, h.bd, h.cd,
    World.ownsRow.kept h.so hg ?_, by rw [List.length_append, List.map_append]; exact ha, ?_, ?_, hr h.rf, hr h.ru, h.cu, hr h.hf, hr h.hu, h.hc, fun i hi => hr (h.rr i hi)⟩
  · cases hb : vo.ownBlock with
    | none => exact .inl rfl
    | some b => exact .inr fun e => (h.mo b hb).2.2.2 e.symm
  · intro b hb
    have k := h.mo b hb
    refine ⟨k.1, k.2.1, k.2.2.1, fun e => ?_⟩
    rcases hv with hv | hv
    · exact k.2.2.2 (hv ▸ e)
    · rw [hv] at e
      have := (World.ownsRow.lt h.so b hb).2
      have := Option.some.inj e
      omega
  · intro b hb
    rcases hv with hv | hv
    · exact h.ms b (hv ▸ hb)
    · rw [hv] at hb
      obtain rfl := Option.some.inj hb
      have hB := h.lB; have hC := h.lC; have hD := h.lD
      exact ⟨by omega, by omega, by omega⟩
/-- The rows that are out, in a new row. -/
theorem PS.rows (h : PS N W B C D f p vf vu gf gu vo vs rs out who) (hb : RowKit.Below W.heap.size W W') {v' : Value} {rs' : List Value} {out' : List (List X)} (ha : W'.ownsRow W.heap.size 22 1 v' out'.length rs') (hN : N ≤ W.heap.size) (hrr : ∀ i, i < out'.length → RdF (Mu B vo vs) W rs'[i]! out'[i]!.length (fl out'[i]!)) :
    PS N W' B C D f p vf vu gf gu v' vs rs' out' who := by
  have k := h.next hb
  have hl := World.ownsRow.lt ha
  have hm : ∀ b, Mu B v' vs b → b < W.heap.size → Mu B vo vs b := fun b hb hlt => by
    rcases hb with hb | hb | hb
    · exact .inl hb
    · have := (hl b hb).1; omega
    · exact .inr (.inr hb)
  have hr : ∀ {v n cs}, RdF (Mu B vo vs) W v n cs → RdF (Mu B v' vs) W' v n cs := fun k => by
    rcases k with k | ⟨b, off, c, e, h1, h0, h2⟩
    · exact .inl k
    · exact .inr ⟨b, off, c, e, Nat.lt_of_lt_of_le h1 hb.size, fun hb => h0 (hm b hb h1), h2.below hb h1⟩
  have hB := h.lB; have hC := h.lC; have hD := h.lD
  refine ⟨k.b7, k.b9, k.bn, h.n7, h.n9, h.nn, h.bc, h.bd, h.cd, ?_, k.ss, fun b hb => ?_, h.ms, hr h.rf, hr h.ru, h.cu, hr h.hf, hr h.hu, h.hc, fun i hi => hr (hrr i hi)⟩
  · obtain ⟨h1, h2 | ⟨g, cap, cur, e, hb, r⟩⟩ := ha
    · exact ⟨h1, .inl h2⟩
    · exact ⟨h1, .inr ⟨g, cap, cur, e, Nat.le_trans hN hb, r⟩⟩
  · have := (hl b hb).1
    exact ⟨by omega, by omega, by omega, fun e => by have := (World.ownsRow.lt h.ss _ e).2; omega⟩
theorem PS.names (h : PS N W B C D f p vf vu gf gu vo vs rs out who) (hb : RowKit.Below W.heap.size W W') {v' : Value} {who' : List Nm} (ha : W'.ownsRow W.heap.size 9 1 v' who'.length (who'.map fun u => .string (str u))) (hN : N ≤ W.heap.size) :
    PS N W' B C D f p vf vu gf gu vo v' rs out who' := by
  have k := h.next hb
  have hl := World.ownsRow.lt ha
  have hm : ∀ b, Mu B vo v' b → b < W.heap.size → Mu B vo vs b := fun b hb hlt => by
    rcases hb with hb | hb | hb
    · exact .inl hb
    · exact .inr (.inl hb)
    · have := (hl b hb).1; omega
  have hr : ∀ {v n cs}, RdF (Mu B vo vs) W v n cs → RdF (Mu B vo v') W' v n cs := fun k => by
    rcases k with k | ⟨b, off, c, e, h1, h0, h2⟩
    · exact .inl k
    · exact .inr ⟨b, off, c, e, Nat.lt_of_lt_of_le h1 hb.size, fun hb => h0 (hm b hb h1), h2.below hb h1⟩
  have hB := h.lB; have hC := h.lC; have hD := h.lD
  refine ⟨k.b7, k.b9, k.bn, h.n7, h.n9, h.nn, h.bc, h.bd, h.cd, k.so, ?_, fun b hb => ?_, fun b hb => ?_, hr h.rf, hr h.ru, h.cu, hr h.hf, hr h.hu, h.hc, fun i hi => hr (h.rr i hi)⟩
  · obtain ⟨h1, h2 | ⟨g, cap, cur, e, hb, r⟩⟩ := ha
    · exact ⟨h1, .inl h2⟩
    · exact ⟨h1, .inr ⟨g, cap, cur, e, Nat.le_trans hN hb, r⟩⟩
  · have k := h.mo b hb
    have := (World.ownsRow.lt h.so b hb).2
    exact ⟨k.1, k.2.1, k.2.2.1, fun e => by have := (hl b e).1; omega⟩
  · have := (hl b hb).1
    exact ⟨by omega, by omega, by omega⟩
theorem PS.pool (h : PS N W B C D f p vf vu gf gu vo vs rs out who) : PolV W (aggP p vf vu) p := ⟨vf, vu, rfl, h.rf.rdc.rd, h.ru.rdc, h.cu⟩
theorem PS.first (h : PS N W B C D f p vf vu gf gu vo vs rs out who) : PolV W (aggP f gf gu) f := ⟨gf, gu, rfl, h.hf.rdc.rd, h.hu.rdc, h.hc⟩
theorem PS.row (h : PS N W B C D f p vf vu gf gu vo vs rs out who) {k : Nat} (hk : k < out.length) : Rd W rs[k]! out[k]! := (h.rr k hk).rdc.rd
theorem PS.out_at (h : PS N W B C D f p vf vu gf gu vo vs rs out who) {k : Nat} (hk : k < out.length) : ∃ g c, vo = .slice (some ⟨g, 0, none⟩) out.length c ∧ out.length ≤ c ∧ W.cell? ⟨g, k, none⟩ = some rs[k]! := by
  have hc := fun g => World.ownsRow.cells h.so (g := g)
  have hlen : rs.length = out.length := by have := h.so.1; omega
  obtain ⟨_, ⟨rfl, h2⟩ | ⟨g, cap, cur, rfl, _, _, h3, _⟩⟩ := h.so
  · omega
  · refine ⟨g, cap, rfl, h3, ?_⟩
    have := hc g rfl k rs[k]! (by rw [getElem!_pos rs k (by omega)]; exact List.getElem?_eq_getElem _)
    rw [Addr.add_lit, Nat.zero_add] at this
    exact this
theorem PS.who_at (h : PS N W B C D f p vf vu gf gu vo vs rs out who) {k : Nat} (hk : k < who.length) : ∃ g c, vs = .slice (some ⟨g, 0, none⟩) who.length c ∧ who.length ≤ c ∧ W.cell? ⟨g, k, none⟩ = some (.string (str who[k]!)) := by
  have hc := fun g => World.ownsRow.cells h.ss (g := g)
  obtain ⟨_, ⟨rfl, h2⟩ | ⟨g, cap, cur, rfl, _, _, h3, _⟩⟩ := h.ss
  · omega
  · refine ⟨g, cap, rfl, h3, ?_⟩
    have := hc g rfl k (.string (str who[k]!)) (by rw [getElem!_pos who k hk, List.getElem?_map, List.getElem?_eq_getElem hk]; rfl)
    rw [Addr.add_lit, Nat.zero_add] at this
    exact this
/-- A name of the three. -/
theorem PS.nm (h : PS N W B C D f p vf vu gf gu vo vs rs out who) {k : Nat} (hk : k < 3) : ∃ u : Nm, po.Nam u ∧ W.cell? ⟨D, k, none⟩ = some (.string (str u)) := by
  have hc := fun j => cell_of_row W D j _ _ (0, 0) h.bn
  have h0 : W.cell? ⟨D, 0, none⟩ = some (.string (str [97])) := hc 0
  have h1 : W.cell? ⟨D, 1, none⟩ = some (.string (str [98])) := hc 1
  have h2 : W.cell? ⟨D, 2, none⟩ = some (.string (str [99])) := hc 2
  have : k = 0 ∨ k = 1 ∨ k = 2 := by omega
  rcases this with rfl | rfl | rfl
  · exact ⟨[97], by decide, h0⟩
  · exact ⟨[98], by decide, h1⟩
  · exact ⟨[99], by decide, h2⟩
theorem PS.lenO (h : PS N W B C D f p vf vu gf gu vo vs rs out who) : ∃ q c, vo = .slice q out.length c ∧ out.length ≤ c := by
  obtain ⟨_, ⟨rfl, h2⟩ | ⟨g, cap, cur, rfl, _, _, h3, _⟩⟩ := h.so
  · rw [h2]; exact ⟨_, _, rfl, Nat.le_refl _⟩
  · exact ⟨_, _, rfl, h3⟩
theorem PS.lenS (h : PS N W B C D f p vf vu gf gu vo vs rs out who) : ∃ q c, vs = .slice q who.length c ∧ who.length ≤ c := by
  obtain ⟨_, ⟨rfl, h2⟩ | ⟨g, cap, cur, rfl, _, _, h3, _⟩⟩ := h.ss
  · rw [h2]; exact ⟨_, _, rfl, Nat.le_refl _⟩
  · exact ⟨_, _, rfl, h3⟩
end
end Go.Proofs.Ytdjpnlkhdilakaa.gn
set_option maxRecDepth 100000
namespace Go.Proofs.Ytdjpnlkhdilakaa.gn
open Go.RowKit Go.Shelf Go.Sort Go.Lib
open Go.Proofs.Ytdjpnlkhdilakaa.ex
open Go.Proofs.Ytdjpnlkhdilakaa.po (Nm U less Pl)

attribute [local go_sem] Oper.semAt_some

theorem run_own {t e : TypeId} {z : Value} {size bytes : Nat} (E : EltI t e z size bytes) (ty : TypeId) {base : Nat} {w : World} {v : Value} {n m c : Nat} {a : Addr} {cs ds : List Value} (ha : w.ownsRow base e size v n cs) (hr : ∀ j u, ds[j]? = some u → w.cell? (a.add j) = some u) (hd : ds.length = m * size)
    (h1 : ∀ u ∈ ds, u.oneCell' = true) (h63 : n + m ≤ maxLen) (hby : (n + m) * bytes ≤ 140737488355328) (hb : base ≤ w.heap.size) (hm : 0 < m) :
    ∃ v' w', (Builtin.append_ #[t, t] ty #[v, .slice (some a) m c]).run Try.prog w = .ok v' w' ∧ w'.ownsRow base e size v' (n + m) (cs ++ ds) ∧ w.grownBy w' v.ownBlock ∧ (v'.ownBlock = v.ownBlock ∨ v'.ownBlock = some w.heap.size) := by
  obtain ⟨i, hi, hi1, hi2, hi3⟩ := E.inf
  obtain ⟨v', w', hrun, h2, h3, h4⟩ := run_append_own (P := Try.prog) w base t ty e i z size bytes E.und hi hi1 hi2 hi3 E.zs E.sz v n cs ha a m c ds hd hr h1 h63 hby hb
  refine ⟨v', w', hrun, h2, h3, ?_⟩
  have hsmall : n + m ≤ 9223372036854775807 := by simp only [maxLen] at h63; omega
  subst hi2
  subst hi3
  rcases ha with ⟨hlen, ⟨rfl, rfl⟩ | ⟨g, cap, cur, rfl, hbg, hg, hnc, hcm, hcs, htake⟩⟩
  · have hr2 := run_append_nil (P := Try.prog) w t ty e i z E.und hi hi1 a m c ds hd hr (by omega) (by omega) (by simp only [Nat.zero_add] at hby; omega)
    have := hrun.symm.trans hr2
    simp only [Result.ok.injEq] at this
    rw [this.1]
    exact .inr rfl
  · by_cases hroom : n + m ≤ cap
    · have hfit : n * i.size + ds.length ≤ cur.size := by rw [hd, hcs, ← Nat.add_mul]; exact Nat.mul_le_mul_right _ hroom
      have hr2 := run_append_room (P := Try.prog) w t ty e i E.und hi g n cap cur hg a m c ds hd hr h1 hroom hfit
      have := hrun.symm.trans hr2
      simp only [Result.ok.injEq] at this
      rw [this.1]
      exact .inl rfl
    · have holds : ∀ j u, cs[j]? = some u → w.cell? ((⟨g, 0, none⟩ : Addr).add j) = some u := World.ownsRow.cells (w := w) (base := base) (e := e) (size := i.size) (n := n) (v := .slice (some ⟨g, 0, none⟩) n cap) ⟨hlen, .inr ⟨g, cap, cur, rfl, hbg, hg, hnc, hcm, hcs, htake⟩⟩ (g := g) rfl
      have hr2 := run_append_grow (P := Try.prog) w t ty e i z E.und hi hi1 ⟨g, 0, none⟩ n cap cs hlen holds a m c ds hd hr (by omega) (by omega) (growslice_fits (by omega) hby)
      have := hrun.symm.trans hr2
      simp only [Result.ok.injEq] at this
      rw [this.1]
      exact .inr rfl
/-- One value more: the row just built lies in the last block. -/
theorem wpl_own {t e : TypeId} {z : Value} {bytes : Nat} (E : EltI t e z 1 bytes) {w : World} {ops : Array Oper} {rest : List Oper} {o : Oper} {a : Act} {Q : Exit → Act → World → Prop} (hgd : o.guard = none) (s x : Operand)
    (ho : o.op = .call { callee := .builtin .append, args := #[s, x], argTypes := #[t, t] })
    {base : Nat} {v u : Value} {n : Nat} {cs : List Value} (hs : a.eval s = v) (ha : w.ownsRow base e 1 v n cs)
    (hx : a.eval x = .slice (some ⟨w.heap.size, 0, none⟩) 1 1) (h1 : u.oneCell' = true) (h63 : n + 1 ≤ 1000) (hby : bytes ≤ 1000) (hb : base ≤ w.heap.size)
    (h : ∀ p c w', w'.ownsRow base e 1 (.slice p (n + 1) c) (n + 1) (cs ++ [u]) → (w.alloc (.cells #[u] e)).grownBy w' v.ownBlock → ((Value.slice p (n + 1) c).ownBlock = v.ownBlock ∨ (Value.slice p (n + 1) c).ownBlock = some (w.alloc (.cells #[u] e)).heap.size) → wpList Try.prog ops Q rest (a.put o.dst (.slice p (n + 1) c)) w') :
    wpList Try.prog ops Q (o :: rest) a (w.alloc (.cells #[u] e)) := by
  refine wpList_plain hgd fun K hK => ?_
  have hn := World.alloc_heap_new w (.cells #[u] e)
  obtain ⟨v', w', hrun, h2, h3, h4⟩ := run_own E o.type (w := w.alloc (.cells #[u] e)) (m := 1) (c := 1) (a := ⟨w.heap.size, 0, none⟩) (ds := [u]) (World.ownsRow.alloc ha _) (fun j y hy => by
    rw [Addr.add_lit]
    rcases j with _ | j
    · simp only [List.getElem?_cons_zero, Option.some.injEq] at hy
      subst hy
      exact cell_of_row _ _ 0 _ _ (0, 0) hn
    · simp at hy) rfl (by intro y hy; rw [List.mem_singleton.1 hy]; exact h1) (by unfold maxLen; omega) (by have : (n + 1) * bytes ≤ 1000 * 1000 := Nat.mul_le_mul h63 hby; omega) (by simp; omega) (by omega)
  have hform : ∃ p c, v' = .slice p (n + 1) c := by
    rcases h2.2 with ⟨_, h0⟩ | ⟨g, cap, cur, e, _⟩
    · omega
    · exact ⟨_, _, e⟩
  obtain ⟨p, c, rfl⟩ := hform
  unfold Oper.wp
  simp [execOp, ho, resolve, invoke, builtin, hs, hx, hrun, Result.andThen]
  exact hK _ _ (h p c w' h2 h3 h4)
theorem eltR : EltI 47 22 (.slice none 0 0) 1 24 := by
  refine ⟨Try.underlying47, ?_, rfl, by decide⟩
  have hi : (Try.prog.info? 22).map (fun i => (i.zero, i.size, i.bytes)) = some (some (.slice none 0 0), 1, 24) := by kernel_rfl
  cases hj : Try.prog.info? 22 with
  | none => rw [hj] at hi; cases hi
  | some i0 =>
    rw [hj] at hi
    simp only [Option.map_some, Option.some.injEq, Prod.mk.injEq] at hi
    exact ⟨i0, rfl, hi.1, hi.2.1, hi.2.2⟩
theorem eltN : EltI 46 9 (.string ⟨#[]⟩) 1 16 := by
  refine ⟨Try.underlying46, ?_, rfl, by decide⟩
  have hi : (Try.prog.info? 9).map (fun i => (i.zero, i.size, i.bytes)) = some (some (.string ⟨#[]⟩), 1, 16) := by kernel_rfl
  cases hj : Try.prog.info? 9 with
  | none => rw [hj] at hi; cases hi
  | some i0 =>
    rw [hj] at hi
    simp only [Option.map_some, Option.some.injEq, Prod.mk.injEq] at hi
    exact ⟨i0, rfl, hi.1, hi.2.1, hi.2.2⟩
/-! The row with one left out: 'append(append(new, l[:k]...), l[k+1:]...)'. -/
theorem new_own (w : World) (e : TypeId) (size : Nat) : (w.alloc (.cells #[] e)).ownsRow w.heap.size e size (.slice (some ⟨w.heap.size, 0, none⟩) 0 0) 0 [] :=
  ⟨by simp, .inr ⟨w.heap.size, 0, #[], rfl, Nat.le_refl _, World.alloc_heap_new w _, Nat.le_refl _, Nat.zero_le _, by simp, by simp⟩⟩
/-- An own row's beginning, its end. -/
theorem own_cells {w : World} {N : Nat} {e : TypeId} {g n c : Nat} {cs : List Value} (h : w.ownsRow N e 1 (.slice (some ⟨g, 0, none⟩) n c) n cs) (i : Nat) : ∀ j u, (cs.drop i)[j]? = some u → w.cell? ((⟨g, 0 + i, none⟩ : Addr).add j) = some u := by
  intro j u hu
  rw [List.getElem?_drop] at hu
  have := World.ownsRow.cells h (g := g) rfl (i + j) u hu
  rw [Addr.add_lit, Nat.zero_add] at this
  rw [Addr.add_lit, Nat.zero_add]
  exact this
/-- Anything that is read, behind a row of the call's own. -/
theorem run_ow {t e : TypeId} {z : Value} {size bytes : Nat} (E : EltI t e z size bytes) (ty : TypeId) {base : Nat} {w : World} {v u : Value} {n m : Nat} {cs ds : List Value} (ha : w.ownsRow base e size v n cs) (hr : RdC w u m ds) (hd : ds.length = m * size)
    (h1 : ∀ u ∈ ds, u.oneCell' = true) (h63 : n + m ≤ maxLen) (hby : (n + m) * bytes ≤ 140737488355328) (hb : base ≤ w.heap.size) :
    ∃ v' w', (Builtin.append_ #[t, t] ty #[v, u]).run Try.prog w = .ok v' w' ∧ w'.ownsRow base e size v' (n + m) (cs ++ ds) ∧ RowKit.Below base w w' := by
  rcases hr with ⟨p', c', rfl, rfl, rfl, hz⟩ | ⟨b, off, c, rfl, hbl, hc⟩
  · have hap : ApC base e size w v n cs := .inr ha
    obtain ⟨p, c, rfl, hle⟩ := hap.form
    exact ⟨_, w, run_ap_none E ty w p p' n c c' hle, by rw [List.append_nil]; exact ha, Below.refl _ _⟩
  · obtain ⟨i, hi, hi1, hi2, hi3⟩ := E.inf
    have hcells : ∀ j u, ds[j]? = some u → w.cell? ((⟨b, off, none⟩ : Addr).add j) = some u := fun j u hu => by rw [Addr.add_lit]; exact hc j u hu
    obtain ⟨v', w', hrun, h2, h3, _⟩ := run_append_own (P := Try.prog) w base t ty e i z size bytes E.und hi hi1 hi2 hi3 E.zs E.sz v n cs ha ⟨b, off, none⟩ m c ds hd hcells h1 h63 hby hb
    exact ⟨v', w', hrun, h2, (Below.refl _ w).grown h3 hb fun k hk => (World.ownsRow.lt ha k hk).1⟩
/-- As a step of a drawn region. -/
theorem wp_ow {t e : TypeId} {z : Value} {bytes : Nat} (E : EltI t e z 1 bytes) {w : World} {o : Oper} {a : Act} {K : Act → World → Prop} {Q : Exit → Act → World → Prop} (s x : Operand)
    (ho : o.op = .call { callee := .builtin .append, args := #[s, x], argTypes := #[t, t] })
    {base : Nat} {v u : Value} {n m r : Nat} {cs ds : List Value} (hs : a.eval s = v) (hx : a.eval x = u) (ha : w.ownsRow base e 1 v n cs) (hr : RdC w u m ds) (hd : ds.length = m)
    (h1 : ∀ u ∈ ds, u.oneCell' = true) (hn : n + m = r) (h63 : r ≤ 1000) (hby : bytes ≤ 1000) (hb : base ≤ w.heap.size)
    (h : ∀ p c w', w'.ownsRow base e 1 (.slice p r c) r (cs ++ ds) → RowKit.Below base w w' → K (a.put o.dst (.slice p r c)) w') :
    o.wp Try.prog a w K Q := by
  subst hn
  obtain ⟨v', w', hrun, h2, h3⟩ := run_ow E o.type ha hr (by omega) h1 (by unfold maxLen; omega) (by have : (n + m) * bytes ≤ 1000 * 1000 := Nat.mul_le_mul h63 hby; omega) hb
  have hform : ∃ p c, v' = .slice p (n + m) c := by
    rcases h2.2 with ⟨rfl, h0⟩ | ⟨g, cap, cur, e, _⟩
    · rw [h0]; exact ⟨_, _, rfl⟩
    · exact ⟨_, _, e⟩
  obtain ⟨p, c, rfl⟩ := hform
  unfold Oper.wp
  simp [execOp, ho, resolve, invoke, builtin, hs, hx, hrun, Result.andThen]
  exact h p c w' h2 h3
/-- An own row's end, its beginning. -/
theorem own_from {t e : TypeId} (ht : Try.prog.underlying t = some (.slice (Try.prog.elem t))) (hz : ∀ W, (sizeOf (Try.prog.elem t)).run Try.prog W = .ok 1 W) {w : World} {N : Nat} {p : Option Addr} {n c : Nat} {cs : List Value} (h : w.ownsRow N e 1 (.slice p n c) n cs) (i : Nat) (hi : i ≤ n) (h0 : 0 < n) (k : Int) (hk : k = (i : Int)) :
    ∃ R, (RdC w R (n - i) (cs.drop i) ∧ ∃ q c', R = .slice q (n - i) c') ∧ ∀ W, (Instr.slice t (.slice p n c) (some (.int .i64 k)) none none).run Try.prog W = .ok R W := by
  subst hk
  have hrun : ∀ W, (Instr.slice t (.slice p n c) (some (.int .i64 (i : Int))) none none).run Try.prog W = .ok (sliced p i n c 1) W := fun W => by
    rw [run_slice_l W t p n c ht .i64 (i : Int) (by omega) (by omega), hz]
    rfl
  refine ⟨_, ⟨?_, ?_⟩, hrun⟩
  · have hc := fun g => World.ownsRow.cells h (g := g)
    have hl := h.1
    obtain ⟨_, ⟨e1, h2⟩ | ⟨g, cap, cur, e1, _, hg, h3, _⟩⟩ := h
    · omega
    · simp only [Value.slice.injEq, true_and] at e1
      obtain ⟨rfl, rfl⟩ := e1
      have hlt := (Array.getElem?_eq_some_iff.1 hg).1
      unfold sliced
      by_cases hci : c = i
      · rw [if_pos hci]
        refine .inr ⟨g, 0, c - i, rfl, hlt, fun j u hu => ?_⟩
        rw [List.drop_eq_nil_of_le (by omega)] at hu
        simp at hu
      · rw [if_neg hci]
        refine .inr ⟨g, 0 + i * 1, c - i, by simp [Addr.add_lit], hlt, fun j u hu => ?_⟩
        rw [List.getElem?_drop] at hu
        have := hc g rfl (i + j) u hu
        rw [Addr.add_lit, Nat.zero_add] at this
        rw [Nat.zero_add, Nat.mul_one]
        exact this
  · unfold sliced
    exact ⟨_, _, rfl⟩
theorem own_upto {t e : TypeId} (ht : Try.prog.underlying t = some (.slice (Try.prog.elem t))) (hz : ∀ W, (sizeOf (Try.prog.elem t)).run Try.prog W = .ok 1 W) {w : World} {N : Nat} {p : Option Addr} {n c : Nat} {cs : List Value} (h : w.ownsRow N e 1 (.slice p n c) n cs) (i : Nat) (hi : i ≤ n) (h0 : 0 < n) :
    ∃ R, (RdC w R i (cs.take i) ∧ ∃ q c', R = .slice q i c') ∧ ∀ W, (Instr.slice t (.slice p n c) none (some (.int .i64 (i : Int))) none).run Try.prog W = .ok R W := by
  have hc := fun g => World.ownsRow.cells h (g := g)
  have hl := h.1
  obtain ⟨_, ⟨e1, h2⟩ | ⟨g, cap, cur, e1, _, hg, h3, _⟩⟩ := h
  · omega
  · simp only [Value.slice.injEq, true_and] at e1
    obtain ⟨rfl, rfl⟩ := e1
    have hlt := (Array.getElem?_eq_some_iff.1 hg).1
    have hrun : ∀ W, (Instr.slice t (.slice (some ⟨g, 0, none⟩) n c) none (some (.int .i64 (i : Int))) none).run Try.prog W = .ok (sliced (some ⟨g, 0, none⟩) 0 i c 1) W := fun W => by
      rw [run_slice_h W t (some ⟨g, 0, none⟩) n c ht .i64 (i : Int) (by omega) (by omega), hz]
      rfl
    refine ⟨_, ⟨?_, ?_⟩, hrun⟩
    · unfold sliced
      rw [if_neg (by omega)]
      refine .inr ⟨g, 0, c - 0, by simp [Addr.add_lit], hlt, fun j u hu => ?_⟩
      by_cases hj : j < i
      · rw [List.getElem?_take_of_lt hj] at hu
        have := hc g rfl j u hu
        rw [Addr.add_lit] at this
        exact this
      · rw [List.getElem?_eq_none (by rw [List.length_take]; omega)] at hu
        cases hu
    · unfold sliced
      exact ⟨_, _, rfl⟩
theorem cut_at {α : Type} [Inhabited α] (l : List α) {k i : Nat} (hk : k < l.length) : (l.take k ++ l.drop (k + 1))[i]! = l[if i < k then i else i + 1]! := by
  have hl : (l.take k).length = k := by rw [List.length_take]; omega
  rw [List.getElem!_eq_getElem?_getD, List.getElem!_eq_getElem?_getD]
  by_cases h : i < k
  · rw [if_pos h, List.getElem?_append_left (by omega), List.getElem?_take_of_lt h]
  · rw [if_neg h, List.getElem?_append_right (by omega), hl, List.getElem?_drop, show k + 1 + (i - k) = i + 1 by omega]
section
variable {N : Nat} {W W' : World} {B C D : Nat} {f p q : Pl} {vf vu gf gu vo vs : Value} {rs rs2 : List Value} {out out2 : List (List X)} {who who2 : List Nm}
theorem PS.rlen (h : PS N W B C D f p vf vu gf gu vo vs rs out who) : rs.length = out.length := by have := h.so.1; omega
theorem PS.less (h : PS N W B C D f p vf vu gf gu vo vs rs out who) {k : Nat} (hk : k < out.length) : ∀ i, i < (out.take k ++ out.drop (k + 1)).length → RdF (Mu B vo vs) W (rs.take k ++ rs.drop (k + 1))[i]! (out.take k ++ out.drop (k + 1))[i]!.length (fl (out.take k ++ out.drop (k + 1))[i]!) := by
  intro i hi
  have hlen := h.rlen
  rw [cut_at rs (by omega), cut_at out hk]
  refine h.rr _ ?_
  simp only [List.length_append, List.length_take, List.length_drop] at hi
  split <;> omega
theorem PS.one (h : PS N W B C D f p vf vu gf gu vo vs rs out who) : ∀ u ∈ rs, u.oneCell' = true := by
  intro u hu
  obtain ⟨i, hi, rfl⟩ := List.getElem_of_mem hu
  have hlen := h.rlen
  have := h.rr i (by omega)
  rw [getElem!_pos rs i hi] at this
  rcases this with ⟨p, c, e, _⟩ | ⟨b, off, c, e, _⟩
  · rw [e]; rfl
  · rw [e]; rfl
theorem PS.drop_row (h : PS N W B C D f p vf vu gf gu vo vs rs out who) {k : Nat} (hk : k < out.length) (ho : out.take k ++ out.drop (k + 1) = out2) (hr : rs.take k ++ rs.drop (k + 1) = rs2) (hb : RowKit.Below W.heap.size W W') (hN : N ≤ W.heap.size) {v' : Value} (ha : W'.ownsRow W.heap.size 22 1 v' out2.length ([] ++ rs.take k ++ rs.drop (k + 1))) :
    PS N W' B C D f p vf vu gf gu v' vs rs2 out2 who := by
  rw [List.nil_append, hr] at ha
  refine h.rows hb ha hN ?_
  rw [← ho, ← hr]
  exact h.less hk
theorem PS.drop_name (h : PS N W B C D f p vf vu gf gu vo vs rs out who) {k : Nat} (ho : who.take k ++ who.drop (k + 1) = who2) (hb : RowKit.Below W.heap.size W W') (hN : N ≤ W.heap.size) {v' : Value} (ha : W'.ownsRow W.heap.size 9 1 v' who2.length ([] ++ (who.map fun u => Value.string (str u)).take k ++ (who.map fun u => Value.string (str u)).drop (k + 1))) :
    PS N W' B C D f p vf vu gf gu vo v' rs out who2 := by
  rw [List.nil_append, ← List.map_take, ← List.map_drop, ← List.map_append, ho] at ha
  exact h.names hb ha hN
theorem PS.own_rows (h : PS N W B C D f p vf vu gf gu vo vs rs out who) {p1 : Option Addr} {c1 : Nat} (he : vo = .slice p1 out.length c1) {k : Nat} (hk : k < out.length) :
    (∃ R, (RdC W R k (rs.take k) ∧ ∃ q c', R = .slice q k c') ∧ ∀ W', (Instr.slice 47 (.slice p1 out.length c1) none (some (.int .i64 (k : Int))) none).run Try.prog W' = .ok R W') ∧
    ∃ R, (RdC W R (out.length - (k + 1)) (rs.drop (k + 1)) ∧ ∃ q c', R = .slice q (out.length - (k + 1)) c') ∧ ∀ W', (Instr.slice 47 (.slice p1 out.length c1) (some (.int .i64 ((k : Int) + 1))) none none).run Try.prog W' = .ok R W' := by
  have ho := h.so
  rw [he] at ho
  have hz : ∀ W, (sizeOf (Try.prog.elem 47)).run Try.prog W = .ok 1 W := fun W => by kernel_rfl
  exact ⟨own_upto Try.underlying47 hz ho k (by omega) (by omega), own_from Try.underlying47 hz ho (k + 1) (by omega) (by omega) ((k : Int) + 1) (by omega)⟩
theorem PS.own_names (h : PS N W B C D f p vf vu gf gu vo vs rs out who) {p1 : Option Addr} {c1 : Nat} (he : vs = .slice p1 who.length c1) {k : Nat} (hk : k < who.length) :
    (∃ R, (RdC W R k ((who.map fun u => Value.string (str u)).take k) ∧ ∃ q c', R = .slice q k c') ∧ ∀ W', (Instr.slice 46 (.slice p1 who.length c1) none (some (.int .i64 (k : Int))) none).run Try.prog W' = .ok R W') ∧
    ∃ R, (RdC W R (who.length - (k + 1)) ((who.map fun u => Value.string (str u)).drop (k + 1)) ∧ ∃ q c', R = .slice q (who.length - (k + 1)) c') ∧ ∀ W', (Instr.slice 46 (.slice p1 who.length c1) (some (.int .i64 ((k : Int) + 1))) none none).run Try.prog W' = .ok R W' := by
  have ho := h.ss
  rw [he] at ho
  have hz : ∀ W, (sizeOf (Try.prog.elem 46)).run Try.prog W = .ok 1 W := fun W => by kernel_rfl
  exact ⟨own_upto Try.underlying46 hz ho k (by omega) (by omega), own_from Try.underlying46 hz ho (k + 1) (by omega) (by omega) ((k : Int) + 1) (by omega)⟩
end
end Go.Proofs.Ytdjpnlkhdilakaa.gn
