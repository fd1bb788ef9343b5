/- The contract of read. -/
import Derived.Test.YtekcjfdllclphaaGreatDoorMSlLi
import Derived.Test.YtekcjfdllclphaaGreatDoorMUnM
import Derived.Test.YtekcjfdllclphaaGreatDoorMSlEq
import Derived.Deep.Onto
section
set_option linter.unusedVariables false
set_option linter.unusedSimpArgs false
set_option maxRecDepth 100000
namespace Go.Proofs.YtekcjfdllclphaaGreatDoor.gn
open Go.RowKit Go.Shelf
open Go.Proofs.YtekcjfdllclphaaGreatDoor.un
open Go.Proofs.YtekcjfdllclphaaGreatDoor.di
open Go.Proofs.YtekcjfdllclphaaGreatDoor.sp (Slip cuts cutB isD first? pput pline pread chkS sread fldB fldB_len cuts_ne pread_take pread_bad pread_few Few cuts_mem_len cuts_len)

attribute [local go_sem] Oper.semAt_some

theorem lines_any (s : Tx) (w : World) : Calls Tryz.prog 66 #[.string (str s)] w fun e w' => e = .returned (.func (.func 106) #[] #[.pointer (some ⟨w.heap.size, 0, none⟩)]) ∧ w' = w.alloc (.cells #[.string (str s)] 9) := by
  go_enter Tryz.func66, Tryz.ntmps66
  go_wp2
  go_ret
  exact ⟨rfl, rfl⟩
theorem RdI.next {w : World} {L : List Tx} {B0 R PB k : Nat} {W W' : World} (h : RdI w L B0 R PB k W) (hb : Below W.heap.size W W') : RdI w L B0 R PB k W' := by
  obtain ⟨⟨x, g, h1, h2, h3⟩, hp, ⟨W0, l1, l2, l3, l4, l5, l6⟩, hl, hpb⟩ := h
  have hR : R ≤ W.heap.size := Nat.le_of_lt h1.box.lt
  exact ⟨⟨x, g, h1.next hb, h2, h3⟩, hp.next hb, ⟨W0, l1, l2.trans (hb.mono hR), l3, l4, l5, l6⟩, hl.next (hb.mono hR), hpb⟩
theorem low_put {B l : Nat} {W : World} (hl : B ≤ l) (o' : Obj) : Below B W (W.putObj l o') :=
  ⟨rfl, rfl, rfl, by rw [World.putObj_size]; exact Nat.le_refl _, fun k hk => World.putObj_heap_other (by omega)⟩
theorem RdI.put {w : World} {L : List Tx} {B0 R PB k l : Nat} {W : World} {o o' : Obj} (hl : R ≤ l) (h : RdI w L B0 R PB k W) (ho : W.heap[l]? = some o) (hc : o.isCells = false) (_ : o'.isCells = false) : RdI w L B0 R PB k (W.putObj l o') := by
  obtain ⟨⟨x, g, h1, h2, h3⟩, hp, ⟨W0, l1, l2, l3, l4, l5, l6⟩, hl2, hpb⟩ := h
  refine ⟨⟨x, g, h1.kept fun b hb => ?_, h2, h3⟩, ?_, ⟨W0, l1, l2.trans (low_put hl o'), l3, l4, l5, l6⟩, hl2.next (low_put hl o'), hpb⟩
  · obtain ⟨_, _, u, hu, hcu⟩ := h1.lM hb
    exact cells_ne ho hc hu hcu
  · exact (cells_ne ho hc hp rfl).trans hp
theorem RdI.calm {w : World} {L : List Tx} {B0 R PB k D : Nat} (hD : R ≤ D) : Calm D (RdI w L B0 R PB k) :=
  ⟨fun A C h hb => h.next hb, fun A l o o' hl h h1 h2 h3 => h.put (Nat.le_trans hD hl) h1 h2 h3⟩
/-- An error among the lines. -/
def RdP (w : World) (L : List Tx) (ch : List PanicEntry) (W : World) : Prop := ∃ (e : Int) (i : Nat), pread Slip.zero 1 L = .error (e, i) ∧ ch = pnc e (i : Int) ∧ Below w.heap.size w W

/-- The rows of a slip, its own, from a block on. -/
structure SO (w : World) (B : Nat) (x : Slip) (g : Gh) : Prop where
  a : w.ownsRow B 88 2 g.a x.after.length (flA x.after)
  m : w.ownsRow B 80 5 g.m x.make.length (flM x.make)
  d : w.ownsRow B 9 1 g.d x.drop.length (flS x.drop)
  u : w.ownsRow B 9 1 g.u x.use.length (flS x.use)
theorem SO.sr {w : World} {B : Nat} {x : Slip} {g : Gh} (h : SO w B x g) : SR w x g := ⟨(ApC.rdc (.inr h.a)), (ApC.rdc (.inr h.m)), (ApC.rdc (.inr h.d)), (ApC.rdc (.inr h.u)), cp_own h.a, cp_own h.m, cp_own h.d, cp_own h.u⟩
theorem SO.kept {w w' : World} {B : Nat} {x : Slip} {g : Gh} (h : SO w B x g) (hk : ∀ b, B ≤ b → w'.heap[b]? = w.heap[b]?) : SO w' B x g :=
  ⟨own_same h.a fun b hb => hk b (World.ownsRow.lt h.a b hb).1, own_same h.m fun b hb => hk b (World.ownsRow.lt h.m b hb).1, own_same h.d fun b hb => hk b (World.ownsRow.lt h.d b hb).1, own_same h.u fun b hb => hk b (World.ownsRow.lt h.u b hb).1⟩
theorem Rdr.so {w : World} {R B : Nat} {x : Slip} {line : Int} {g : Gh} (h : Rdr w R x line g) (hB : B ≤ R + 1) : SO w B x g := ⟨World.ownsRow.mono h.a hB, World.ownsRow.mono h.m hB, World.ownsRow.mono h.d hB, World.ownsRow.mono h.u hB⟩
/-- What read answers. -/
def ReadT2 (L : List Tx) (w : World) (en : Ending) (w' : World) : Prop := Below w.heap.size w w' ∧ match pread Slip.zero 1 L with
  | .error e => en = .panicked (pnc e.1 (e.2 : Int))
  | .ok x => if chkS x = true then ∃ g, en = .returned (sV x g) ∧ SO w' w.heap.size x g else en = .panicked (pnc 150 (L.length : Int))

theorem keeps_of {D : Nat} {W W' : World} {R : Nat} {x : Slip} {line : Int} {g : Gh} (h : Rdr W R x line g) (hs : W.heap.size ≤ W'.heap.size) (hk : ∀ b, b < W.heap.size → ¬ Mr R g b → W'.heap[b]? = W.heap[b]?) : KeepsFrom D W W' := by
  refine ⟨hs, fun k o _ hko ho => (hk k (Array.getElem?_eq_some_iff.1 hko).1 fun hm => ?_).trans hko⟩
  obtain ⟨_, _, u, hu, hcu⟩ := h.lM hm
  rw [hko] at hu
  cases hu
  rw [ho] at hcu
  cases hcu
/-- The slip's beginning. -/
abbrev g0 : Gh := ⟨.slice none 0 0, .slice none 0 0, .slice none 0 0, .slice none 0 0⟩
theorem rdr_zero {W : World} {R : Nat} (h : BoxA W R 107 (rcs Slip.zero g0 0)) : Rdr W R Slip.zero 0 g0 :=
  ⟨h, World.ownsRow_nil _ _ _ _, World.ownsRow_nil _ _ _ _, World.ownsRow_nil _ _ _ _, World.ownsRow_nil _ _ _ _, fun b hb => by cases hb⟩
theorem mr_zero {R b : Nat} (h : b ≠ R) : ¬ Mr R g0 b := by
  rintro (h1 | h1 | h1 | h1 | h1)
  · exact h h1
  all_goals cases h1
/-- A line has been read. -/
theorem RdI.step {w : World} {L : List Tx} {B0 R PB k : Nat} {W W2 : World} (h : RdI w L B0 R PB k W) {x y : Slip} {g g2 : Gh} (hr : Rdr W R x (k : Int) g) (hn : ¬ Mr R g PB) (hr2 : Rdr W2 R y ((k + 1 : Nat) : Int) g2) (hk : Kp R g g2 W W2) (hp : pread Slip.zero 1 (L.take (k + 1)) = .ok y) : RdI w L B0 R PB (k + 1) W2 := by
  obtain ⟨_, hpb, ⟨W0, l1, l2, l3, l4, l5, l6⟩, hl, hlt⟩ := h
  have hpz := hpb.lt
  exact ⟨⟨y, g2, hr2, hk.off hpz hn, hp⟩, (hk.same PB hpz hn).trans hpb, ⟨W0, l1, l2.trans hk.low, l3, l4, l5, l6⟩, hl.next hk.low, hlt⟩
theorem RdI.low' {w : World} {L : List Tx} {B0 R PB k : Nat} {W : World} (h : RdI w L B0 R PB k W) : Below w.heap.size w W := by
  obtain ⟨_, _, ⟨W0, l1, l2, l3, l4, l5, l6⟩, _, _⟩ := h
  exact l1.trans (l2.mono (by omega))

theorem boxes4 (w : World) (o1 o2 o3 o4 : Array Value) {t1 t2 t3 t4 : TypeId} {W4 : World} (h : (((w.alloc (.cells o1 t1)).alloc (.cells o2 t2)).alloc (.cells o3 t3)).alloc (.cells o4 t4) = W4) :
    BoxA W4 w.heap.size t1 o1 ∧ BoxA W4 (w.heap.size + 1) t2 o2 ∧ BoxA W4 (w.heap.size + 1 + 1) t3 o3 ∧ BoxA W4 (w.heap.size + 1 + 1 + 1) t4 o4 ∧ W4.heap.size = w.heap.size + 4 ∧ Below w.heap.size w W4 := by
  have b : ∀ (W : World) (o : Obj), Below W.heap.size W (W.alloc o) := fun W o => (Below.refl _ W).alloc (Nat.le_refl _) _
  have z : ∀ (W : World) (o : Obj), (W.alloc o).heap.size = W.heap.size + 1 := fun W o => by simp
  have n1 := BoxA.new w t1 o1
  obtain ⟨w1, h1⟩ : ∃ w1, w.alloc (.cells o1 t1) = w1 := ⟨_, rfl⟩
  have b1 := b w (.cells o1 t1)
  have z1 := z w (.cells o1 t1)
  rw [h1] at h n1 b1 z1
  have n2 := BoxA.new w1 t2 o2
  obtain ⟨w2, h2⟩ : ∃ w2, w1.alloc (.cells o2 t2) = w2 := ⟨_, rfl⟩
  have b2 := b w1 (.cells o2 t2)
  have z2 := z w1 (.cells o2 t2)
  rw [h2] at h n2 b2 z2
  have n3 := BoxA.new w2 t3 o3
  obtain ⟨w3, h3⟩ : ∃ w3, w2.alloc (.cells o3 t3) = w3 := ⟨_, rfl⟩
  have b3 := b w2 (.cells o3 t3)
  have z3 := z w2 (.cells o3 t3)
  rw [h3] at h n3 b3 z3
  have n4 := BoxA.new w3 t4 o4
  have b4 := b w3 (.cells o4 t4)
  have z4 := z w3 (.cells o4 t4)
  rw [h] at n4 b4 z4
  rw [z3, z2, z1] at n4
  rw [z2, z1] at n3
  rw [z1] at n2
  exact ⟨((n1.next b2).next b3).next b4, (n2.next b3).next b4, n3.next b4, n4, by omega, ((b1.trans (b2.mono b1.size)).trans (b3.mono (by omega))).trans (b4.mono (by omega))⟩
/-- How the last question may end: by a panic, in frames with one deferred block. -/
def PanQ (D : Nat) (ch0 : List PanicEntry) (W : World) : Exit → Act → World → Prop
  | .panic ch, a, w2 => a.defers = [{ target := .collected D, args := #[] }] ∧ ch = ch0 ∧ Below W.heap.size W w2
  | _, _, _ => False
set_option maxHeartbeats 8000000 in
theorem read_slip (s : Tx) (hs : s.length ≤ 10000) (w : World) (hL : LaidD w) : Calls Tryz.prog 40 #[.string (str s)] w (ReadT2 (cuts 10 s) w) := by
  refine callsF 6 Tryz.func40 rfl ?_
  simp only [Tryz.ntmps40, List.size_toArray, List.length_cons, List.length_nil, Nat.reduceAdd, Nat.reduceSub, Array.replicate_succ, Array.replicate_zero, List.push_toArray, List.append_toArray, List.nil_append, List.cons_append]
  refine wpF_seq_k (n := 6) fun K hK => ?_
  gi_wp2_with fail
  refine wpF_seq_k (n := 6) fun K hK => ?_
  gi_wp2_with fail
  refine wpF_seq ?_
  refine wpF_seq_k (n := 6) fun K hK => ?_
  gi_wp2_with (refine ⟨trivial, ?_⟩; gi_at_call 66; refine (callsIn_wide.2 (lines_any _ _)).mono ?_; rintro e w' ⟨rfl, rfl⟩)
  obtain ⟨W4, hW4⟩ : ∃ W4, ((((w.alloc (.cells #[.string { data := #[] }, .int .i64 0, .int .i64 0, .int .i64 0, .slice none 0 0, .int .i64 0, .int .i64 0, .int .i64 0, .string { data := #[] }, .slice none 0 0, .slice none 0 0, .slice none 0 0] 27)).alloc (.cells #[.string { data := #[] }, .int .i64 0, .int .i64 0, .int .i64 0, .slice none 0 0, .int .i64 0, .int .i64 0, .int .i64 0, .string { data := #[] }, .slice none 0 0, .slice none 0 0, .slice none 0 0, .int .i64 0] 107)).alloc (.cells #[.pointer (some ⟨w.heap.size + 1, 0, none⟩)] 105)).alloc (.cells #[.string (str s)] 9)) = W4 := ⟨_, rfl⟩
  have hbx : BoxA W4 w.heap.size 27 (scs Slip.zero g0) ∧ BoxA W4 (w.heap.size + 1) 107 (rcs Slip.zero g0 0) ∧ BoxA W4 (w.heap.size + 1 + 1) 105 #[.pointer (some ⟨w.heap.size + 1, 0, none⟩)] ∧ Boxed W4 (w.heap.size + 1 + 1 + 1) 9 (.string (str s)) ∧ W4.heap.size = w.heap.size + 4 ∧ Below w.heap.size w W4 := by
    exact boxes4 w _ _ _ _ hW4
  obtain ⟨x0, x1, x2, x3, x4, x5⟩ := hbx
  rw [hW4]
  clear hW4
  have hseq := lines1_seq 5 (by omega) s (by omega) (w.heap.size + 1 + 1 + 1) W4 x3
  have HLB := Lib.hid (show LaidB (w.heap.size + 1) W4 from fun W' hb => hL.next (x5.trans (hb.mono (Nat.le_succ _))))
  have HL0 := Lib.hid (cuts_mem_len 10 s)
  have hcl := cuts_len 10 s
  generalize cuts 10 s = L at *
  have hI0 : RdI w L w.heap.size (w.heap.size + 1) (w.heap.size + 1 + 1) 0 W4 :=
    ⟨⟨Slip.zero, g0, rdr_zero x1, mr_zero (by omega), rfl⟩, x2, ⟨W4, x5, Below.refl _ _, by omega, by omega, Nat.le_refl _, x0⟩, HLB.out, by omega⟩
  have HSZ := Lib.hid x4
  clear x0 x1 x2 x3 x5 hL
  refine wpF_block ?_
  refine range_p (n := 6) (α := Nat × Tx) (encs := encL) (fn0 := Tryz.f40) rfl rfl (enters_of Tryz.func106 (by kernel_rfl) rfl) hseq (Below.refl _ _) (fun _ => rfl)
    (RdI w L w.heap.size (w.heap.size + 1) (w.heap.size + 1 + 1)) (RdP w L) (fun k A h => h.laid.here) (fun k => RdI.calm (by omega)) hI0
    (fun (x : Nat × Tx) => { tmps := #[.string (str s), undef, .pointer (some ⟨w.heap.size, 0, none⟩), .pointer (some ⟨w.heap.size + 1 + 1, 0, none⟩), .int .i64 (x.1 : Nat), .string (str x.2),
      .agg #[.string { data := #[] }, .int .i64 0, .int .i64 0, .int .i64 0, .slice none 0 0, .int .i64 0, .int .i64 0, .int .i64 0, .string { data := #[] }, .slice none 0 0, .slice none 0 0, .slice none 0 0, .int .i64 0],
      .pointer (some ⟨w.heap.size + 1, 0, none⟩), .string (str s), .func (.func 106) #[] #[.pointer (some ⟨w.heap.size + 1 + 1 + 1, 0, none⟩)], .int .i64 (x.1 : Nat), .string (str x.2), undef, undef, undef, undef, undef, undef, undef, undef, undef, undef, undef, undef, undef, undef, undef, undef, undef, undef, undef, undef, undef, undef, undef, undef, undef, undef, undef, undef], defers := [] })
    ?assign ?body ?done ?pan
  case assign =>
    rintro l0 k ⟨i, line⟩ W K hI hK
    unfold encL
    gi_wp2
    exact hK
  case body =>
    rintro l0 k ⟨i, line⟩ W hx hI
    have hxk : L[k]? = some line ∧ i = 1 + k := by
      rw [numb_at] at hx
      obtain ⟨y, hy, e⟩ := Option.map_eq_some_iff.1 hx
      simp only [Prod.mk.injEq] at e
      exact ⟨by rw [hy, e.2], e.1.symm⟩
    obtain ⟨hxk, rfl⟩ := hxk
    have HI := Lib.hid hI
    obtain ⟨⟨x, g, hr, hn, hp⟩, hpb, _, hld, _⟩ := hI
    have hkL := (List.getElem?_eq_some_iff.1 hxk).1
    have hlin : line.length ≤ 20000 := by have := HL0.out line (List.mem_of_getElem? hxk); omega
    have hfew : Few x k := by
      have := pread_few (L.take k) _ _ 1 0 hp ⟨Nat.le_refl _, Nat.le_refl _, Nat.le_refl _⟩
      rwa [List.length_take, Nat.zero_add, Nat.min_eq_left (Nat.le_of_lt hkL)] at this
    have HTK := Lib.hid (pread_take hxk hp)
    have HPB := Lib.hid (fun (e : Int × Nat) (h : pline x (k + 1) line = .error e) => (show pread Slip.zero 1 L = .error e from pread_bad (k := k + 1) (by rw [pread_take hxk hp, h])))
    have c0 := hpb.cell 0 _
    have hpl := hpb.lt
    have c12 := hr.box.cell 12 _
    have f12 := hr.box.free 12
    have hrl := hr.box.lt
    obtain ⟨ik, hik⟩ : ∃ ik : Int, ((1 + k : Nat) : Int) = ik := ⟨_, rfl⟩
    have HIK := Lib.hid (show ik = ((k + 1 : Nat) : Int) by omega)
    have hr1 := hr.put (y := x) (l2 := ik) 12 (.int .i64 ik) rfl rfl rfl rfl rfl
    have HR0 := Lib.hid hr
    have HN0 := Lib.hid hn
    have HLD := Lib.hid hld
    have HXK := Lib.hid hxk
    have HFW := Lib.hid hfew
    have HP := Lib.hid hp
    have HCL := Lib.hid (show k ≤ 10001 by omega)
    have HLN := Lib.hid hlin
    dsimp only
    rw [hik]
    clear hseq hx hxk hr hn hp hpb hld hkL hlin hfew hI0 hik
    gi_upto_region 6 with fail
    obtain ⟨W1, hW1⟩ : ∃ W1, W.setCell ⟨w.heap.size + 1, 12, none⟩ (.int .i64 ik) = W1 := ⟨_, rfl⟩
    have HK1 := Lib.hid (show Kp (w.heap.size + 1) g g W W1 by rw [← hW1]; exact Kp.set g W _ 12 _)
    rw [hW1] at hr1 ⊢
    have HR1 := Lib.hid hr1
    have HL1 := Lib.hid (HLD.out.next HK1.out.low)
    have hrl1 : w.heap.size + 1 < W1.heap.size := hr1.box.lt
    have hpl1 : w.heap.size + 1 + 1 < W1.heap.size := Nat.lt_of_lt_of_le hpl HK1.out.low.size
    have c01 : W1.cell? ⟨w.heap.size + 1 + 1, 0, none⟩ = some (.pointer (some ⟨w.heap.size + 1, 0, none⟩)) := by
      rw [← hW1]
      exact (World.cell?_of_block (a := ⟨w.heap.size + 1 + 1, 0, none⟩) (Below.heap_setCell _ _ _ _ (by simp))).trans c0
    clear hr1 hW1 c0 c12 f12 hrl hpl
    by_cases hk0 : k = 0
    · have q0 : (ik == 1) = true := by rw [beq_iff_eq, HIK.out]; omega
      have hx0 : x = Slip.zero := by
        have := HP.out
        rw [hk0, List.take_zero] at this
        unfold pread at this
        exact (Except.ok.inj this).symm
      have HPL := Lib.hid (show pline x (k + 1) line = match first? line with
          | some y => .ok y
          | none => .error (150, 1) by unfold pline; rw [if_pos (by omega)]; cases first? line <;> rfl)
      have HJ := Lib.hid (job_any (by rw [← hx0]; exact HR1.out) line HLN.out HL1.out)
      have HK0 := Lib.hid hk0
      unfold JobT at HJ
      clear hk0 hx0
      cases hf : first? line with
      | none =>
        rw [hf] at HJ HPL
        clear hf
        gi_wp2_with (refine ⟨trivial, ?_⟩; gi_at_call 67; refine (CallsIn.inRound l0 (callsIn_wide.2 HJ.out)).mono ?_; rintro e w2 ⟨rfl, hb⟩; have HB := Lib.hid hb; clear hb)
        have hlk := HK1.out.lk HB.out
        refine ⟨rfl, keeps_of HR0.out hlk.1.size hlk.2, 150, 1, HPB.out _ HPL.out, by rw [HIK.out, HK0.out], HI.out.low'.trans (hlk.1.mono (Nat.le_succ _))⟩
      | some y =>
        rw [hf] at HJ HPL
        clear hf
        gi_wp2_with (refine ⟨trivial, ?_⟩; gi_at_call 67; refine (CallsIn.inRound l0 (callsIn_wide.2 HJ.out)).mono ?_; rintro e w2 ⟨rfl, g2, hr2, hk2⟩; have HR2 := Lib.hid hr2; have HK2 := Lib.hid (HK1.out.trans hk2); clear hr2 hk2)
        exact ⟨keeps_of HR0.out HK2.out.low.size HK2.out.same, HI.out.step HR0.out HN0.out (HIK.out ▸ HR2.out) HK2.out (by rw [HTK.out, HPL.out])⟩
    · have q0 : (ik == 1) = false := by rw [beq_eq_false_iff_ne, HIK.out]; omega
      have HPL := Lib.hid (show pline x (k + 1) line = if isD line = true then (if lerr line ≠ 0 then .error (lerr line, k + 1) else match pput x (ldir line) with
          | none => .error (150, k + 1)
          | some y => .ok y) else .ok x by unfold pline; rw [if_neg (by omega)]; rfl)
      have HIS := Lib.hid (show ∀ W, Calls Tryz.prog 68 #[.string (str line)] W fun e w' => e = .returned (.bool (isD line)) ∧ W = w' from fun W => Is_any line W)
      have HD := Lib.hid (directive_any HR1.out line HLN.out HL1.out (by have := HFW.out.1; have := HCL.out; omega) (by have := HFW.out.2.1; have := HCL.out; omega) (by have := HFW.out.2.2; have := HCL.out; omega))
      clear hk0
      cases hi : isD line with
      | false =>
        rw [hi] at HPL HIS
        clear hi
        gi_wp2_with (refine ⟨trivial, ?_⟩; gi_at_call 68; refine (CallsIn.inRound l0 (callsIn_wide.2 (HIS.out _))).mono ?_; rintro e w2 ⟨rfl, rfl⟩)
        exact ⟨keeps_of HR0.out HK1.out.low.size HK1.out.same, HI.out.step HR0.out HN0.out (HIK.out ▸ HR1.out) HK1.out (by rw [HTK.out, HPL.out]; rfl)⟩
      | true =>
        rw [hi, if_pos rfl] at HPL
        rw [hi] at HIS
        clear hi
        by_cases he : lerr line = 0
        · rw [if_neg (by simp [he])] at HPL
          have HD := Lib.hid (show Calls Tryz.prog 69 #[.pointer (some ⟨w.heap.size + 1, 0, none⟩), .string (str line)] W1 (StoT2 (w.heap.size + 1) g (pput x (ldir line)) ik W1) from HD.out.mono (fun e w' h => by unfold DirT at h; rw [if_pos he] at h; exact h))
          clear he
          cases hpp : pput x (ldir line) with
          | none =>
            rw [hpp] at HPL HD
            clear hpp
            gi_wp2_with (first
              | (refine ⟨trivial, ?_⟩; gi_at_call 68; refine (CallsIn.inRound l0 (callsIn_wide.2 (HIS.out _))).mono ?_; rintro e w2 ⟨rfl, rfl⟩)
              | (refine ⟨trivial, ?_⟩; gi_at_call 69; refine (CallsIn.inRound l0 (callsIn_wide.2 HD.out)).mono ?_; rintro e w3 ⟨rfl, hb⟩; have HB := Lib.hid hb; clear hb))
            have hlk := HK1.out.lk HB.out
            exact ⟨rfl, keeps_of HR0.out hlk.1.size hlk.2, 150, k + 1, HPB.out _ HPL.out, by rw [HIK.out], HI.out.low'.trans (hlk.1.mono (Nat.le_succ _))⟩
          | some y =>
            rw [hpp] at HPL HD
            clear hpp
            gi_wp2_with (first
              | (refine ⟨trivial, ?_⟩; gi_at_call 68; refine (CallsIn.inRound l0 (callsIn_wide.2 (HIS.out _))).mono ?_; rintro e w2 ⟨rfl, rfl⟩)
              | (refine ⟨trivial, ?_⟩; gi_at_call 69; refine (CallsIn.inRound l0 (callsIn_wide.2 HD.out)).mono ?_; rintro e w3 ⟨rfl, g2, hr2, hk2⟩; have HR2 := Lib.hid hr2; have HK2 := Lib.hid (HK1.out.trans hk2); clear hr2 hk2))
            exact ⟨keeps_of HR0.out HK2.out.low.size HK2.out.same, HI.out.step HR0.out HN0.out (HIK.out ▸ HR2.out) HK2.out (by rw [HTK.out, HPL.out])⟩
        · rw [if_pos he] at HPL
          have HD := Lib.hid (show Calls Tryz.prog 69 #[.pointer (some ⟨w.heap.size + 1, 0, none⟩), .string (str line)] W1 (fun en w' => en = .panicked (pnc (lerr line) ik) ∧ Lk (w.heap.size + 1) g W1 w') from HD.out.mono (fun e w' h => by unfold DirT at h; rw [if_neg he] at h; exact h))
          clear he
          gi_wp2_with (first
            | (refine ⟨trivial, ?_⟩; gi_at_call 68; refine (CallsIn.inRound l0 (callsIn_wide.2 (HIS.out _))).mono ?_; rintro e w2 ⟨rfl, rfl⟩)
            | (refine ⟨trivial, ?_⟩; gi_at_call 69; refine (CallsIn.inRound l0 (callsIn_wide.2 HD.out)).mono ?_; rintro e w3 ⟨rfl, hb⟩; have HB := Lib.hid hb; clear hb))
          have hlk := HK1.out.lk HB.out
          exact ⟨rfl, keeps_of HR0.out hlk.1.size hlk.2, lerr line, k + 1, HPB.out _ HPL.out, by rw [HIK.out], HI.out.low'.trans (hlk.1.mono (Nat.le_succ _))⟩
  case done =>
    rintro D W hDl hI hD
    show wpF _ _ _ _ _ _
    refine wpF_seq_k (n := 6) fun K0 hK0 => ?_
    have HLW := Lib.hid hI.low'
    obtain ⟨⟨x, g, hr, hn, hp⟩, hpb, ⟨W0, l1, l2, l3, l4, l5, hB0⟩, hld, hlt⟩ := hI
    rw [numb_len, List.take_length] at hp
    rw [numb_len] at hr
    have HB0 := Lib.hid (show BoxA W w.heap.size 27 (scs Slip.zero g0) from (l2.block _ l4).trans hB0)
    have HR := Lib.hid hr
    have HDL := Lib.hid hDl
    have hsw : SW x := sw_sm (sp.pread_sm L _ _ 1 (fun l hl => by have := HL0.out l hl; omega) hp sp.sm_zero)
    have hrl := hr.box.lt
    have hpl := hpb.lt
    have hDW := (Array.getElem?_eq_some_iff.1 hD).1
    have HCH := Lib.hid (fun (W2 : World) (hb : Below W.heap.size W W2) => Check_slip x g W2 ((hr.sr).next hb) hsw (hld.here.next hb))
    have HDN := Lib.hid (fun (W2 : World) (hb : Below W.heap.size W W2) => (hb.block D hDW).trans hD)
    have HRD : Hid (∀ (en : Ending) (w' : World), (match pread Slip.zero 1 L with
        | .error e => en = .panicked (pnc e.1 (e.2 : Int))
        | .ok x => if chkS x = true then ∃ g, en = .returned (sV x g) ∧ SO w' w.heap.size x g else en = .panicked (pnc 150 (L.length : Int))) = if chkS x = true then ∃ g, en = .returned (sV x g) ∧ SO w' w.heap.size x g else en = .panicked (pnc 150 (L.length : Int))) := fun en w' => by rw [hp]
    have hpc := hpb.cell 0 _
    obtain ⟨pa, ca, ea, _, _⟩ := hr.sr.ca
    obtain ⟨pm, cm, em, _, _⟩ := hr.sr.cm
    obtain ⟨pd, cd, ed, _, _⟩ := hr.sr.cd
    obtain ⟨pu, cu, eu, _, _⟩ := hr.sr.cu
    obtain ⟨us, nodes, wall, qos, after, cap, inn, out, pool, mk, dr, use⟩ := x
    obtain ⟨va, vm, vd, vu⟩ := g
    dsimp only at ea em ed eu
    subst ea em ed eu
    obtain ⟨na, hna⟩ : ∃ n, after.length = n := ⟨_, rfl⟩
    obtain ⟨nm, hnm⟩ : ∃ n, mk.length = n := ⟨_, rfl⟩
    obtain ⟨nd, hnd⟩ : ∃ n, dr.length = n := ⟨_, rfl⟩
    obtain ⟨nu, hnu⟩ : ∃ n, use.length = n := ⟨_, rfl⟩
    rw [hna, hnm, hnd, hnu] at hr HR HCH
    have HSR := Lib.hid hr.sr
    have HS : Hid (∀ W2, Below W.heap.size W W2 → (fun W2 => W2.cell? ⟨w.heap.size + 1 + 1, 0, none⟩ = some (.pointer (some ⟨w.heap.size + 1, 0, none⟩)) ∧ W2.cell? ⟨w.heap.size + 1, 0, none⟩ = some (.string (str us)) ∧ W2.cell? ⟨w.heap.size + 1, 1, none⟩ = some (.int .i64 nodes) ∧ W2.cell? ⟨w.heap.size + 1, 2, none⟩ = some (.int .i64 wall) ∧ W2.cell? ⟨w.heap.size + 1, 3, none⟩ = some (.int .i64 qos) ∧ W2.cell? ⟨w.heap.size + 1, 4, none⟩ = some (.slice pa na ca) ∧ W2.cell? ⟨w.heap.size + 1, 5, none⟩ = some (.int .i64 cap) ∧ W2.cell? ⟨w.heap.size + 1, 6, none⟩ = some (.int .i64 inn) ∧ W2.cell? ⟨w.heap.size + 1, 7, none⟩ = some (.int .i64 out) ∧ W2.cell? ⟨w.heap.size + 1, 8, none⟩ = some (.string (str pool)) ∧ W2.cell? ⟨w.heap.size + 1, 9, none⟩ = some (.slice pm nm cm) ∧ W2.cell? ⟨w.heap.size + 1, 10, none⟩ = some (.slice pd nd cd) ∧ W2.cell? ⟨w.heap.size + 1, 11, none⟩ = some (.slice pu nu cu)) W2) := fun W2 hb => ⟨(Below.cell hb hpl).trans hpc, (Below.cell hb hrl).trans (hr.box.cell 0 _), (Below.cell hb hrl).trans (hr.box.cell 1 _), (Below.cell hb hrl).trans (hr.box.cell 2 _), (Below.cell hb hrl).trans (hr.box.cell 3 _), (Below.cell hb hrl).trans (hr.box.cell 4 _), (Below.cell hb hrl).trans (hr.box.cell 5 _), (Below.cell hb hrl).trans (hr.box.cell 6 _), (Below.cell hb hrl).trans (hr.box.cell 7 _), (Below.cell hb hrl).trans (hr.box.cell 8 _), (Below.cell hb hrl).trans (hr.box.cell 9 _), (Below.cell hb hrl).trans (hr.box.cell 10 _), (Below.cell hb hrl).trans (hr.box.cell 11 _)⟩
    have hsC := HS.out W (Below.refl _ _)
    clear hna hnm hnd hnu hr hI0 hseq hpb hB0 l1 l2 l3 l4 l5 hld hp hn hpc hsw hDW hDl hD HL0 hcl hs x4
    cases hc : chkS ⟨us, nodes, wall, qos, after, cap, inn, out, pool, mk, dr, use⟩ with
    | false =>
      have HSE : Hid (sE ⟨us, nodes, wall, qos, after, cap, inn, out, pool, mk, dr, use⟩ = 150) := by show _ = _; unfold sE; rw [hc]; rfl
      rw [HSE.out] at HCH
      rw [hc] at HRD
      clear hc
      unfold sV scs at HCH
      dsimp only at hsC HCH
      obtain ⟨hpc, d0, d1, d2, d3, d4, d5, d6, d7, d8, d9, d10, d11⟩ := hsC
      have HRL := Lib.hid hrl
      refine wpIn_mono (Q := Exit.then K0 (PanQ D (pnc 150 (L.length : Int)) W)) ?_ (fun e a3 w3 h => ?_)
      rotate_left
      · cases e with
        | normal => exact h
        | panic ch =>
          obtain ⟨h1, rfl, h3⟩ := h
          have HD2 := HDN.out _ h3
          show LeavesInM _ _ _ _ _ _ a3.defers _ _
          rw [h1]
          refine ⟨by simp, .inl ⟨_, _, rfl, run_takeDeferred HD2, ?_⟩⟩
          refine ⟨(HLW.out.trans (h3.mono HLW.out.size)).trans (belowK_b (w := w) (Nat.le_refl _) _ D _ _ (by have := HDL.out; have := HSZ.out; omega) HD2 rfl rfl), ?_⟩
          rw [HRD.out]
          rfl
        | exit k => exact h.elim
        | goto k => exact h.elim
        | ret => exact h.elim
        | outgrown => exact h.elim
      refine wpIn_wide.2 ?_
      refine wp_region_held_drew (S := (fun W2 => W2.cell? ⟨w.heap.size + 1 + 1, 0, none⟩ = some (.pointer (some ⟨w.heap.size + 1, 0, none⟩)) ∧ W2.cell? ⟨w.heap.size + 1, 0, none⟩ = some (.string (str us)) ∧ W2.cell? ⟨w.heap.size + 1, 1, none⟩ = some (.int .i64 nodes) ∧ W2.cell? ⟨w.heap.size + 1, 2, none⟩ = some (.int .i64 wall) ∧ W2.cell? ⟨w.heap.size + 1, 3, none⟩ = some (.int .i64 qos) ∧ W2.cell? ⟨w.heap.size + 1, 4, none⟩ = some (.slice pa na ca) ∧ W2.cell? ⟨w.heap.size + 1, 5, none⟩ = some (.int .i64 cap) ∧ W2.cell? ⟨w.heap.size + 1, 6, none⟩ = some (.int .i64 inn) ∧ W2.cell? ⟨w.heap.size + 1, 7, none⟩ = some (.int .i64 out) ∧ W2.cell? ⟨w.heap.size + 1, 8, none⟩ = some (.string (str pool)) ∧ W2.cell? ⟨w.heap.size + 1, 9, none⟩ = some (.slice pm nm cm) ∧ W2.cell? ⟨w.heap.size + 1, 10, none⟩ = some (.slice pd nd cd) ∧ W2.cell? ⟨w.heap.size + 1, 11, none⟩ = some (.slice pu nu cu))) (by kernel_rfl) (by exact HS.out _ (drew_low W)) (fun hHeld => ?_)
      refine wpAnyH_take (i := 0) (v := ?_) (ata at0) (by kernel_rfl) (by kernel_rfl) (by kernel_rfl) (fun _ _ _ h => h) (Or.inl ⟨by rfl, ?_⟩) (by assumption) ?_
      rotate_left
      · (intro w hSw; (try dsimp only at hSw); go_simp; (first | done | with_reducible rfl))
      try simp only [Act.put, List.setIfInBounds_toArray, List.set_cons_zero, List.set_cons_succ]
      refine wpAnyH_take (i := 1) (v := ?_) (ata (atS at0)) (by kernel_rfl) (by kernel_rfl) (by kernel_rfl) (fun _ _ _ h => h) (Or.inl ⟨by rfl, ?_⟩) (by assumption) ?_
      rotate_left
      · (intro w hSw; (try dsimp only at hSw); go_simp; (first | done | with_reducible rfl))
      try simp only [Act.put, List.setIfInBounds_toArray, List.set_cons_zero, List.set_cons_succ]
      refine wpAnyH_take (i := 2) (v := ?_) (ata (atS (atS at0))) (by kernel_rfl) (by kernel_rfl) (by kernel_rfl) (fun _ _ _ h => h) (Or.inl ⟨by rfl, ?_⟩) (by assumption) ?_
      rotate_left
      · (intro w hSw; (try dsimp only at hSw); go_simp; (first | done | with_reducible rfl))
      try simp only [Act.put, List.setIfInBounds_toArray, List.set_cons_zero, List.set_cons_succ]
      refine wpAnyH_take (i := 3) (v := ?_) (ata (atS (atS (atS at0)))) (by kernel_rfl) (by kernel_rfl) (by kernel_rfl) (fun _ _ _ h => h) (Or.inl ⟨by rfl, ?_⟩) (by assumption) ?_
      rotate_left
      · (intro w hSw; (try dsimp only at hSw); go_simp; (first | done | with_reducible rfl))
      try simp only [Act.put, List.setIfInBounds_toArray, List.set_cons_zero, List.set_cons_succ]
      refine wpAnyH_take (i := 4) (v := ?_) (ata (atS (atS (atS (atS at0))))) (by kernel_rfl) (by kernel_rfl) (by kernel_rfl) (fun _ _ _ h => h) (Or.inl ⟨by rfl, ?_⟩) (by assumption) ?_
      rotate_left
      · (intro w hSw; (try dsimp only at hSw); go_simp; (first | done | with_reducible rfl))
      try simp only [Act.put, List.setIfInBounds_toArray, List.set_cons_zero, List.set_cons_succ]
      refine wpAnyH_ready (rs := [5]) (by kernel_rfl) (by simp) ?_
      refine AllReadyH.cons (ata (atS (atS (atS (atS (atS at0)))))) (fun K hK => ?_) AllReadyH.nil
      go_simp
      (go_at_call 35; ((with_reducible refine (HCH.out _ (drew_low W)).mono ?_); rintro e w2 ⟨rfl, hb2⟩); have hb2 := (drew_low W).trans (hb2.mono (drew_low W).size); have HB2 := Lib.hid hb2; clear hb2)
      refine hK.out _ _ (by exact HS.out _ HB2.out) (fun hHeld => ?_)
      clear hK K
      try simp only [Act.put, List.setIfInBounds_toArray, List.set_cons_zero, List.set_cons_succ]
      refine wpAnyH_take (i := 6) (v := ?_) (ata (atS (atS (atS (atS (atS (atS at0))))))) (by kernel_rfl) (by kernel_rfl) (by kernel_rfl) (fun _ _ _ h => h) (Or.inl ⟨by rfl, ?_⟩) (by assumption) ?_
      rotate_left
      · (intro w hSw; (try dsimp only at hSw); go_simp; (first | done | with_reducible rfl))
      try simp only [Act.put, List.setIfInBounds_toArray, List.set_cons_zero, List.set_cons_succ]
      refine wpAnyH_ready (rs := [7]) (by kernel_rfl) (by simp) ?_
      refine AllReadyH.cons (ata (atS (atS (atS (atS (atS (atS (atS at0)))))))) (fun K hK => ?_) AllReadyH.nil
      go_simp
      (go_at_call 70; ((with_reducible refine (must_no (HR.out.next HB2.out)).mono ?_); rintro e w3 ⟨rfl, rfl⟩))
      exact ⟨rfl, rfl, HB2.out⟩
    | true =>
      have HSE : Hid (sE ⟨us, nodes, wall, qos, after, cap, inn, out, pool, mk, dr, use⟩ = 0) := by show _ = _; unfold sE; rw [hc]; rfl
      rw [HSE.out] at HCH
      rw [hc] at HRD
      clear hc
      unfold sV scs at HCH
      dsimp only at hsC HCH
      obtain ⟨hpc, d0, d1, d2, d3, d4, d5, d6, d7, d8, d9, d10, d11⟩ := hsC
      have HRL := Lib.hid hrl
      refine wpIn_mono (Q := Exit.then K0 fun _ _ _ => False) ?_ (fun e a3 w3 h => ?_)
      rotate_left
      · cases e with
        | normal => exact h
        | panic ch => exact h.elim
        | exit k => exact h.elim
        | goto k => exact h.elim
        | ret => exact h.elim
        | outgrown => exact h.elim
      refine wpIn_wide.2 ?_
      go_upto_region 10 with fail
      refine wp_region_held_drew (S := (fun W2 => W2.cell? ⟨w.heap.size + 1 + 1, 0, none⟩ = some (.pointer (some ⟨w.heap.size + 1, 0, none⟩)) ∧ W2.cell? ⟨w.heap.size + 1, 0, none⟩ = some (.string (str us)) ∧ W2.cell? ⟨w.heap.size + 1, 1, none⟩ = some (.int .i64 nodes) ∧ W2.cell? ⟨w.heap.size + 1, 2, none⟩ = some (.int .i64 wall) ∧ W2.cell? ⟨w.heap.size + 1, 3, none⟩ = some (.int .i64 qos) ∧ W2.cell? ⟨w.heap.size + 1, 4, none⟩ = some (.slice pa na ca) ∧ W2.cell? ⟨w.heap.size + 1, 5, none⟩ = some (.int .i64 cap) ∧ W2.cell? ⟨w.heap.size + 1, 6, none⟩ = some (.int .i64 inn) ∧ W2.cell? ⟨w.heap.size + 1, 7, none⟩ = some (.int .i64 out) ∧ W2.cell? ⟨w.heap.size + 1, 8, none⟩ = some (.string (str pool)) ∧ W2.cell? ⟨w.heap.size + 1, 9, none⟩ = some (.slice pm nm cm) ∧ W2.cell? ⟨w.heap.size + 1, 10, none⟩ = some (.slice pd nd cd) ∧ W2.cell? ⟨w.heap.size + 1, 11, none⟩ = some (.slice pu nu cu))) (by kernel_rfl) (by exact HS.out _ (drew_low W)) (fun hHeld => ?_)
      refine wpAnyH_take (i := 0) (v := ?_) (ata at0) (by kernel_rfl) (by kernel_rfl) (by kernel_rfl) (fun _ _ _ h => h) (Or.inl ⟨by rfl, ?_⟩) (by assumption) ?_
      rotate_left
      · (intro w hSw; (try dsimp only at hSw); go_simp; (first | done | with_reducible rfl))
      try simp only [Act.put, List.setIfInBounds_toArray, List.set_cons_zero, List.set_cons_succ]
      refine wpAnyH_take (i := 1) (v := ?_) (ata (atS at0)) (by kernel_rfl) (by kernel_rfl) (by kernel_rfl) (fun _ _ _ h => h) (Or.inl ⟨by rfl, ?_⟩) (by assumption) ?_
      rotate_left
      · (intro w hSw; (try dsimp only at hSw); go_simp; (first | done | with_reducible rfl))
      try simp only [Act.put, List.setIfInBounds_toArray, List.set_cons_zero, List.set_cons_succ]
      refine wpAnyH_take (i := 2) (v := ?_) (ata (atS (atS at0))) (by kernel_rfl) (by kernel_rfl) (by kernel_rfl) (fun _ _ _ h => h) (Or.inl ⟨by rfl, ?_⟩) (by assumption) ?_
      rotate_left
      · (intro w hSw; (try dsimp only at hSw); go_simp; (first | done | with_reducible rfl))
      try simp only [Act.put, List.setIfInBounds_toArray, List.set_cons_zero, List.set_cons_succ]
      refine wpAnyH_take (i := 3) (v := ?_) (ata (atS (atS (atS at0)))) (by kernel_rfl) (by kernel_rfl) (by kernel_rfl) (fun _ _ _ h => h) (Or.inl ⟨by rfl, ?_⟩) (by assumption) ?_
      rotate_left
      · (intro w hSw; (try dsimp only at hSw); go_simp; (first | done | with_reducible rfl))
      try simp only [Act.put, List.setIfInBounds_toArray, List.set_cons_zero, List.set_cons_succ]
      refine wpAnyH_take (i := 4) (v := ?_) (ata (atS (atS (atS (atS at0))))) (by kernel_rfl) (by kernel_rfl) (by kernel_rfl) (fun _ _ _ h => h) (Or.inl ⟨by rfl, ?_⟩) (by assumption) ?_
      rotate_left
      · (intro w hSw; (try dsimp only at hSw); go_simp; (first | done | with_reducible rfl))
      try simp only [Act.put, List.setIfInBounds_toArray, List.set_cons_zero, List.set_cons_succ]
      refine wpAnyH_ready (rs := [5]) (by kernel_rfl) (by simp) ?_
      refine AllReadyH.cons (ata (atS (atS (atS (atS (atS at0)))))) (fun K hK => ?_) AllReadyH.nil
      go_simp
      (go_at_call 35; ((with_reducible refine (HCH.out _ (drew_low W)).mono ?_); rintro e w2 ⟨rfl, hb2⟩); have hb2 := (drew_low W).trans (hb2.mono (drew_low W).size); have HB2 := Lib.hid hb2; clear hb2)
      refine hK.out _ _ (by exact HS.out _ HB2.out) (fun hHeld => ?_)
      clear hK K
      try simp only [Act.put, List.setIfInBounds_toArray, List.set_cons_zero, List.set_cons_succ]
      refine wpAnyH_take (i := 6) (v := ?_) (ata (atS (atS (atS (atS (atS (atS at0))))))) (by kernel_rfl) (by kernel_rfl) (by kernel_rfl) (fun _ _ _ h => h) (Or.inl ⟨by rfl, ?_⟩) (by assumption) ?_
      rotate_left
      · (intro w hSw; (try dsimp only at hSw); go_simp; (first | done | with_reducible rfl))
      try simp only [Act.put, List.setIfInBounds_toArray, List.set_cons_zero, List.set_cons_succ]
      refine wpAnyH_ready (rs := [7]) (by kernel_rfl) (by simp) ?_
      refine AllReadyH.cons (ata (atS (atS (atS (atS (atS (atS (atS at0)))))))) (fun K hK => ?_) AllReadyH.nil
      go_simp
      (go_at_call 70; ((with_reducible refine (must_yes (HR.out.next HB2.out)).mono ?_); rintro e w3 ⟨rfl, rfl⟩))
      refine hK.out _ _ (by exact HS.out _ HB2.out) (fun hHeld => ?_)
      clear hK K
      try simp only [Act.put, List.setIfInBounds_toArray, List.set_cons_zero, List.set_cons_succ]
      refine wpAnyH_done (by kernel_rfl) ?_ _
      refine hK0 _ _ ?_
      refine wpF_of (n := 6) (wpIn_wide.2 ?_)
      clear hpc d0 d1 d2 d3 d4 d5 d6 d7 d8 d9 d10 d11 hHeld
      have hb2 := HB2.out
      obtain ⟨hpc, d0, d1, d2, d3, d4, d5, d6, d7, d8, d9, d10, d11⟩ := HS.out _ hb2
      have hrl2 : w.heap.size + 1 < w2.heap.size := Nat.lt_of_lt_of_le hrl hb2.size
      have hpl2 : w.heap.size + 1 + 1 < w2.heap.size := Nat.lt_of_lt_of_le hpl hb2.size
      have hB2 : w2.heap[w.heap.size]? = some (.cells _ 27 (0, 0)) := HB0.out.next hb2
      have HB2B := Lib.hid hB2
      clear hb2 hpl hrl
      go_wp2_with (refine wpList_store_row rfl _ _ _ rfl w.heap.size #[.string (str us), .int .i64 nodes, .int .i64 wall, .int .i64 qos, .slice pa na ca, .int .i64 cap, .int .i64 inn, .int .i64 out, .string (str pool), .slice pm nm cm, .slice pd nd cd, .slice pu nu cu] rfl rfl _ _ hB2 (by kernel_rfl) rfl (by kernel_rfl) ?_)
      have HDW := HDL.out
      have hs4 := HSZ.out
      have HD3 : (w2.setRow w.heap.size #[.string (str us), .int .i64 nodes, .int .i64 wall, .int .i64 qos, .slice pa na ca, .int .i64 cap, .int .i64 inn, .int .i64 out, .string (str pool), .slice pm nm cm, .slice pd nd cd, .slice pu nu cu]).heap[D]? = some (.deferred (some [])) := (setRow_other _ _ _ _ (by omega)).trans (HDN.out _ HB2.out)
      refine ⟨by simp, .inl ⟨_, _, rfl, run_takeDeferred HD3, ?_⟩⟩
      have HB4 : ((w2.setRow w.heap.size #[.string (str us), .int .i64 nodes, .int .i64 wall, .int .i64 qos, .slice pa na ca, .int .i64 cap, .int .i64 inn, .int .i64 out, .string (str pool), .slice pm nm cm, .slice pd nd cd, .slice pu nu cu]).putObj D (.deferred none)).heap[w.heap.size]? = some (.cells #[.string (str us), .int .i64 nodes, .int .i64 wall, .int .i64 qos, .slice pa na ca, .int .i64 cap, .int .i64 inn, .int .i64 out, .string (str pool), .slice pm nm cm, .slice pd nd cd, .slice pu nu cu] 27 (0, 0)) := (World.putObj_heap_other (by omega)).trans (setRow_heap _ _ _ _ _ _ HB2B.out)
      refine ⟨_, results_cell_row rfl _ _ _ _ _ _ _ rfl HB4 Tryz.underlying27 rfl (by kernel_rfl), ?_⟩
      refine ⟨(below_setRow (HLW.out.trans (HB2.out.mono HLW.out.size)) (Nat.le_refl _) _).trans (belowK_b (w := w) (Nat.le_refl _) _ D _ _ (by omega) HD3 rfl rfl), ?_⟩
      rw [HRD.out]
      refine ⟨⟨_, _, _, _⟩, rfl, ((HR.out.next HB2.out).kept fun b hb => ?_).so (by omega)⟩
      obtain ⟨hb1, _, u, hu, hcu⟩ := (HR.out.next HB2.out).lM hb
      have hu2 : (w2.setRow w.heap.size #[.string (str us), .int .i64 nodes, .int .i64 wall, .int .i64 qos, .slice pa na ca, .int .i64 cap, .int .i64 inn, .int .i64 out, .string (str pool), .slice pm nm cm, .slice pd nd cd, .slice pu nu cu]).heap[b]? = some u := (setRow_other _ _ _ _ (by omega)).trans hu
      exact ((cells_ne HD3 rfl hu2 hcu).trans hu2).trans hu.symm
  case pan =>
    rintro D ch W hDl ⟨e, i, hp, rfl, hb⟩ hD
    refine ⟨by simp, .inl ⟨_, _, rfl, run_takeDeferred hD, ?_⟩⟩
    refine ⟨hb.trans (belowK_b (w := w) (Nat.le_refl _) _ D _ _ (by have := HSZ.out; omega) hD rfl rfl), ?_⟩
    rw [hp]
end Go.Proofs.YtekcjfdllclphaaGreatDoor.gn
end
