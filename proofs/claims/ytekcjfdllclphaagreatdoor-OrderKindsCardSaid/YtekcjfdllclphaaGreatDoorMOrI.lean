/- The contract of order.Same. (Written by gen_orI.py.) -/
import Derived.Test.YtekcjfdllclphaaGreatDoorMOrB
import Derived.Test.YtekcjfdllclphaaGreatDoorMSlSa
import Derived.Great.Ranges
import Derived.Test.YtekcjfdllclphaaGreatDoorMGenTail
import Derived.Test.YtekcjfdllclphaaGreatDoorMOrF
import Derived.Test.YtekcjfdllclphaaGreatDoorMSlQ
section
set_option linter.unusedVariables false
set_option linter.unusedSimpArgs false
namespace Go.Proofs.YtekcjfdllclphaaGreatDoor.gn
open Go.RowKit
open Go.Proofs.YtekcjfdllclphaaGreatDoor.un
open Go.Proofs.YtekcjfdllclphaaGreatDoor.di
open Go.Proofs.YtekcjfdllclphaaGreatDoor.sp (Slip)
open Go.Proofs.YtekcjfdllclphaaGreatDoor.od (Ord)

theorem ocel {w : World} {b : Nat} {o : Ord} {g : Gh} (h : OrdB w b o g) : w.cell? ⟨b, 0, none⟩ = some (.int .u8 (o.kind : Nat)) ∧ w.cell? ⟨b, 1, none⟩ = some (.int .i64 o.job) ∧ w.cell? ⟨b, 2, none⟩ = some (.int .i64 o.n) ∧ w.cell? ⟨b, 3, none⟩ = some (.string (str o.name)) ∧ w.cell? ⟨b, 4, none⟩ = some (.string (str o.pool)) ∧ w.cell? ⟨b, 5, none⟩ = some (.string (str o.user)) ∧ w.cell? ⟨b, 6, none⟩ = some (.int .i64 o.size) ∧ w.cell? ⟨b, 7, none⟩ = some (.bool o.yes) ∧ w.cell? ⟨b, 8, none⟩ = some (.string (str o.slip.user)) ∧ w.cell? ⟨b, 9, none⟩ = some (.int .i64 o.slip.nodes) ∧ w.cell? ⟨b, 10, none⟩ = some (.int .i64 o.slip.wall) ∧ w.cell? ⟨b, 11, none⟩ = some (.int .i64 o.slip.qos) ∧ w.cell? ⟨b, 12, none⟩ = some (g.a) ∧ w.cell? ⟨b, 13, none⟩ = some (.int .i64 o.slip.cap) ∧ w.cell? ⟨b, 14, none⟩ = some (.int .i64 o.slip.inn) ∧ w.cell? ⟨b, 15, none⟩ = some (.int .i64 o.slip.out) ∧ w.cell? ⟨b, 16, none⟩ = some (.string (str o.slip.pool)) ∧ w.cell? ⟨b, 17, none⟩ = some (g.m) ∧ w.cell? ⟨b, 18, none⟩ = some (g.d) ∧ w.cell? ⟨b, 19, none⟩ = some (g.u) ∧ b < w.heap.size :=
  ⟨BoxA.cell h 0 _, BoxA.cell h 1 _, BoxA.cell h 2 _, BoxA.cell h 3 _, BoxA.cell h 4 _, BoxA.cell h 5 _, BoxA.cell h 6 _, BoxA.cell h 7 _, BoxA.cell h 8 _, BoxA.cell h 9 _, BoxA.cell h 10 _, BoxA.cell h 11 _, BoxA.cell h 12 _, BoxA.cell h 13 _, BoxA.cell h 14 _, BoxA.cell h 15 _, BoxA.cell h 16 _, BoxA.cell h 17 _, BoxA.cell h 18 _, BoxA.cell h 19 _, BoxA.lt h⟩
theorem dec_ord (x y : Ord) : decide (x = y) = (decide (x.kind = y.kind) && decide (x.job = y.job) && decide (x.n = y.n) && decide (x.name = y.name) && decide (x.pool = y.pool) && decide (x.user = y.user) && decide (x.size = y.size) && decide (x.yes = y.yes) && decide (x.slip = y.slip)) := by
  obtain ⟨a, b, c, d, e, f, g, h, i⟩ := x
  obtain ⟨a', b', c', d', e', f', g', h', i'⟩ := y
  rw [Bool.eq_iff_iff]
  simp only [decide_eq_true_eq, Bool.and_eq_true, Ord.mk.injEq]
  simp only [and_assoc]
theorem osame_end {tmps : Array Value} {b D : Bool} {w W : World} (h : tmps.getD 4 undef = .bool b) (hD : D = b) (hb : Below w.heap.size w W) : bodyPost Tryz.prog Tryz.f15 (Told (.bool D) w) Exit.ret ⟨tmps, []⟩ W := by
  refine bodyPost_ret (v := .bool b) ?_ rfl ⟨by rw [hD], hb⟩
  rw [results_tmp rfl, h]
set_option maxRecDepth 100000 in
set_option maxHeartbeats 16000000 in
theorem Same_ord (x y : Ord) (g g' : Gh) (w : World) (h : SR w x.slip g) (h' : SR w y.slip g') : Calls Tryz.prog 15 #[oV x g, oV y g'] w (Told (.bool (decide (x = y))) w) := by
  obtain ⟨wb, hwb⟩ : ∃ wb, (w.alloc (.cells (ocs x g) 29)).alloc (.cells (ocs y g') 29) = wb := ⟨_, rfl⟩
  have hb0 : Below w.heap.size w wb := by rw [← hwb]; exact ((Below.refl _ _).alloc (Nat.le_refl _) _).alloc (by simp) _
  have hx1 : OrdB wb w.heap.size x g := by rw [← hwb]; exact BoxA.next (BoxA.new w _ _) ((Below.refl _ _).alloc (Nat.le_refl _) _)
  have hx2 : OrdB wb (w.heap.size + 1) y g' := by
    have := BoxA.new (w.alloc (.cells (ocs x g) 29)) 29 (ocs y g')
    rw [World.size_alloc, hwb] at this
    exact this
  have HB0 := Lib.hid hb0
  have HWB := Lib.hid hwb
  have HS := Lib.hid (Same_slip x.slip y.slip g g' wb (h.next hb0) (h'.next hb0))
  have HCX := ocel hx1
  have HCY := ocel hx2
  have HDX := Lib.hid (dec_ord x y)
  clear h h' hb0 hwb hx1 hx2
  obtain ⟨va, vm, vd, vu⟩ := g
  obtain ⟨va', vm', vd', vu'⟩ := g'
  obtain ⟨b8, hb8⟩ : ∃ b, decide (x.slip = y.slip) = b := ⟨_, rfl⟩
  rw [hb8] at HS HDX
  clear hb8
  obtain ⟨k, job, n, nm, pl, us, sz, yes, ⟨su, sn, sw, sq, sa, sc, si, so, sp, sm, sd, sx⟩⟩ := x
  obtain ⟨k', job', n', nm', pl', us', sz', yes', ⟨su', sn', sw', sq', sa', sc', si', so', sp', sm', sd', sx'⟩⟩ := y
  unfold oV ocs at *
  unfold sV scs at HS
  dsimp only at *
  generalize hD : decide ((⟨k, job, n, nm, pl, us, sz, yes, ⟨su, sn, sw, sq, sa, sc, si, so, sp, sm, sd, sx⟩⟩ : Ord) = ⟨k', job', n', nm', pl', us', sz', yes', ⟨su', sn', sw', sq', sa', sc', si', so', sp', sm', sd', sx'⟩⟩) = D at *
  obtain ⟨b0, hb0⟩ : ∃ b, decide (k = k') = b := ⟨_, rfl⟩
  have q0 : ((k : Int) == (k' : Int)) = b0 := by rw [← hb0, Bool.eq_iff_iff, beq_iff_eq, decide_eq_true_eq]; omega
  obtain ⟨b1, hb1⟩ : ∃ b, decide (job = job') = b := ⟨_, rfl⟩
  have q1 : (job == job') = b1 := by rw [← hb1, Bool.eq_iff_iff, beq_iff_eq, decide_eq_true_eq]
  obtain ⟨b2, hb2⟩ : ∃ b, decide (n = n') = b := ⟨_, rfl⟩
  have q2 : (n == n') = b2 := by rw [← hb2, Bool.eq_iff_iff, beq_iff_eq, decide_eq_true_eq]
  obtain ⟨b3, hb3⟩ : ∃ b, decide (nm = nm') = b := ⟨_, rfl⟩
  have q3 : ((str nm).toList == (str nm').toList) = b3 := by rw [eq_str]; exact hb3
  have r3 : decide ((str nm).toList = (str nm').toList) = b3 := by rw [str_toList, str_toList]; exact hb3
  obtain ⟨b4, hb4⟩ : ∃ b, decide (pl = pl') = b := ⟨_, rfl⟩
  have q4 : ((str pl).toList == (str pl').toList) = b4 := by rw [eq_str]; exact hb4
  have r4 : decide ((str pl).toList = (str pl').toList) = b4 := by rw [str_toList, str_toList]; exact hb4
  obtain ⟨b5, hb5⟩ : ∃ b, decide (us = us') = b := ⟨_, rfl⟩
  have q5 : ((str us).toList == (str us').toList) = b5 := by rw [eq_str]; exact hb5
  have r5 : decide ((str us).toList = (str us').toList) = b5 := by rw [str_toList, str_toList]; exact hb5
  obtain ⟨b6, hb6⟩ : ∃ b, decide (sz = sz') = b := ⟨_, rfl⟩
  have q6 : (sz == sz') = b6 := by rw [← hb6, Bool.eq_iff_iff, beq_iff_eq, decide_eq_true_eq]
  obtain ⟨b7, hb7⟩ : ∃ b, decide (yes = yes') = b := ⟨_, rfl⟩
  have q7 : (yes == yes') = b7 := by rw [← hb7, Bool.eq_iff_iff, beq_iff_eq, decide_eq_true_eq]
  have HF := Lib.hid (show D = (b0 && b1 && b2 && b3 && b4 && b5 && b6 && b7 && b8) by rw [HDX.out, hb0, hb1, hb2, hb3, hb4, hb5, hb6, hb7])
  clear HDX hD hb0 hb1 hb2 hb3 hb4 hb5 hb6 hb7
  obtain ⟨c0, c1, c2, c3, c4, c5, c6, c7, c8, c9, c10, c11, c12, c13, c14, c15, c16, c17, c18, c19, clt⟩ := HCX
  obtain ⟨d0, d1, d2, d3, d4, d5, d6, d7, d8, d9, d10, d11, d12, d13, d14, d15, d16, d17, d18, d19, dlt⟩ := HCY
  go_enter Tryz.func15, Tryz.ntmps15
  apply wp_seq_k
  intro K hK
  apply wp_region_lit
  refine Great.wpList_boxTo rfl _ _ rfl _ rfl w.heap.size rfl #[.int .u8 (k : Nat), .int .i64 job, .int .i64 n, .string (str nm), .string (str pl), .string (str us), .int .i64 sz, .bool yes, .string (str su), .int .i64 sn, .int .i64 sw, .int .i64 sq, va, .int .i64 sc, .int .i64 si, .int .i64 so, .string (str sp), vm, vd, vu] rfl ?_
  simp only [Act.put, List.setIfInBounds_toArray, List.set_cons_zero, List.set_cons_succ]
  refine Great.wpList_boxTo rfl _ _ rfl _ rfl (w.heap.size + 1) (World.size_alloc _ _) #[.int .u8 (k' : Nat), .int .i64 job', .int .i64 n', .string (str nm'), .string (str pl'), .string (str us'), .int .i64 sz', .bool yes', .string (str su'), .int .i64 sn', .int .i64 sw', .int .i64 sq', va', .int .i64 sc', .int .i64 si', .int .i64 so', .string (str sp'), vm', vd', vu'] rfl ?_
  rw [HWB.out]
  simp only [Act.put, List.setIfInBounds_toArray, List.set_cons_zero, List.set_cons_succ]
  go_upto_region 1 with fail
  apply wp_region_lit
  repeat ((fail_if_success (refine guard_split (g := 5) (pol := true) (b := b0) rfl ?_ ?_ ?_)); first | go_values | go_skip | go_guarded | go_step | go_upon)
  refine guard_split (g := 5) (pol := true) (b := b0) rfl (by kernel_rfl) (fun hbb => ?_) (fun hbb => ?_)
  rotate_left
  · subst hbb
    refine tail_at 4 (.bool false) (by kernel_rfl) (fun tmps ht => ?_)
    go_wp2
    exact osame_end ht (show D = false by rw [HF.out]; rfl) (HB0.out)
  subst hbb
  repeat ((fail_if_success (refine guard_split (g := 12) (pol := true) (b := b1) rfl ?_ ?_ ?_)); first | go_values | go_skip | go_guarded | go_step | go_upon)
  refine guard_split (g := 12) (pol := true) (b := b1) rfl (by kernel_rfl) (fun hbb => ?_) (fun hbb => ?_)
  rotate_left
  · subst hbb
    refine tail_at 4 (.bool false) (by kernel_rfl) (fun tmps ht => ?_)
    go_wp2
    exact osame_end ht (show D = false by rw [HF.out]; rfl) (HB0.out)
  subst hbb
  repeat ((fail_if_success (refine guard_split (g := 19) (pol := true) (b := b2) rfl ?_ ?_ ?_)); first | go_values | go_skip | go_guarded | go_step | go_upon)
  refine guard_split (g := 19) (pol := true) (b := b2) rfl (by kernel_rfl) (fun hbb => ?_) (fun hbb => ?_)
  rotate_left
  · subst hbb
    refine tail_at 4 (.bool false) (by kernel_rfl) (fun tmps ht => ?_)
    go_wp2
    exact osame_end ht (show D = false by rw [HF.out]; rfl) (HB0.out)
  subst hbb
  repeat ((fail_if_success (refine guard_split (g := 26) (pol := true) (b := b3) rfl ?_ ?_ ?_)); first | go_values | go_skip | go_guarded | go_step | go_upon)
  refine guard_split (g := 26) (pol := true) (b := b3) rfl (by kernel_rfl) (fun hbb => ?_) (fun hbb => ?_)
  rotate_left
  · subst hbb
    refine tail_at 4 (.bool false) (by kernel_rfl) (fun tmps ht => ?_)
    go_wp2
    exact osame_end ht (show D = false by rw [HF.out]; rfl) (HB0.out)
  subst hbb
  repeat ((fail_if_success (refine guard_split (g := 33) (pol := true) (b := b4) rfl ?_ ?_ ?_)); first | go_values | go_skip | go_guarded | go_step | go_upon)
  refine guard_split (g := 33) (pol := true) (b := b4) rfl (by kernel_rfl) (fun hbb => ?_) (fun hbb => ?_)
  rotate_left
  · subst hbb
    refine tail_at 4 (.bool false) (by kernel_rfl) (fun tmps ht => ?_)
    go_wp2
    exact osame_end ht (show D = false by rw [HF.out]; rfl) (HB0.out)
  subst hbb
  repeat ((fail_if_success (refine guard_split (g := 40) (pol := true) (b := b5) rfl ?_ ?_ ?_)); first | go_values | go_skip | go_guarded | go_step | go_upon)
  refine guard_split (g := 40) (pol := true) (b := b5) rfl (by kernel_rfl) (fun hbb => ?_) (fun hbb => ?_)
  rotate_left
  · subst hbb
    refine tail_at 4 (.bool false) (by kernel_rfl) (fun tmps ht => ?_)
    go_wp2
    exact osame_end ht (show D = false by rw [HF.out]; rfl) (HB0.out)
  subst hbb
  repeat ((fail_if_success (refine guard_split (g := 47) (pol := true) (b := b6) rfl ?_ ?_ ?_)); first | go_values | go_skip | go_guarded | go_step | go_upon)
  refine guard_split (g := 47) (pol := true) (b := b6) rfl (by kernel_rfl) (fun hbb => ?_) (fun hbb => ?_)
  rotate_left
  · subst hbb
    refine tail_at 4 (.bool false) (by kernel_rfl) (fun tmps ht => ?_)
    go_wp2
    exact osame_end ht (show D = false by rw [HF.out]; rfl) (HB0.out)
  subst hbb
  repeat ((fail_if_success (refine guard_split (g := 54) (pol := true) (b := b7) rfl ?_ ?_ ?_)); first | go_values | go_skip | go_guarded | go_step | go_upon)
  refine guard_split (g := 54) (pol := true) (b := b7) rfl (by kernel_rfl) (fun hbb => ?_) (fun hbb => ?_)
  rotate_left
  · subst hbb
    refine tail_at 4 (.bool false) (by kernel_rfl) (fun tmps ht => ?_)
    go_wp2
    exact osame_end ht (show D = false by rw [HF.out]; rfl) (HB0.out)
  subst hbb
  go_wp2_with ((go_at_call 36; ((with_reducible refine HS.out.mono ?_); rintro e w4 ⟨rfl, hb⟩); have A4 := Lib.hid hb; clear hb))
  exact osame_end rfl (show D = b8 by rw [HF.out]; rfl) (HB0.out.trans (A4.out.mono HB0.out.size))
end Go.Proofs.YtekcjfdllclphaaGreatDoor.gn
end
section
set_option linter.unusedVariables false
set_option linter.unusedSimpArgs false
namespace Go.Proofs.YtekcjfdllclphaaGreatDoor.gn
open Go.RowKit
open Go.Proofs.YtekcjfdllclphaaGreatDoor.un
open Go.Proofs.YtekcjfdllclphaaGreatDoor.di
open Go.Proofs.YtekcjfdllclphaaGreatDoor.sp (Slip within? okW jobW userK)
open Go.Proofs.YtekcjfdllclphaaGreatDoor.od (Ord okO stO numV sizV resK badW nK lo hi fsO keysO hasJ hasN hasU hasP)

/-- A letter's closure, its key, its text. -/
def letN : Nat → FuncId
  | 116 => 79
  | 113 => 81
  | 109 => 82
  | 106 => 83
  | 114 => 84
  | 97 => 86
  | 117 => 87
  | 110 => 89
  | 112 => 90
  | 99 => 91
  | _ => 0
def letK : Nat → Tx
  | 116 => nK
  | 113 => nK
  | 109 => nK
  | 106 => jobW
  | 114 => resK
  | 97 => accK
  | 117 => userK
  | 110 => nameK
  | 112 => poolK
  | 99 => capK
  | _ => []
def letX (o : Ord) : Nat → Tx
  | 116 => txt o.n
  | 113 => txt o.n
  | 109 => txt o.n
  | 106 => txt o.job
  | 114 => if o.yes then okW else badW
  | 97 => if o.yes then pubV else priV
  | 117 => o.user
  | 110 => o.name
  | 112 => o.pool
  | 99 => stxt o.size
  | _ => []
def letF (o : Ord) (c : UInt8) : Tx × Tx := (letK c.toNat, letX o c.toNat)
theorem letters_fs (o : Ord) : (lettersO o.kind).map (letF o) = fsO o := by
  obtain ⟨k, job, n, name, pool, user, size, yes, slip⟩ := o
  show (lettersO k).map _ = _
  by_cases h : 1 ≤ k ∧ k ≤ 18
  · rcases od.eighteen h with rfl | rfl | rfl | rfl | rfl | rfl | rfl | rfl | rfl | rfl | rfl | rfl | rfl | rfl | rfl | rfl | rfl | rfl <;> rfl
  · rw [(no_word h).2]
    have h1 : hasJ k = false := by unfold hasJ; rw [decide_eq_false]; omega
    have h2 : hasN k = false := by unfold hasN; rw [decide_eq_false]; omega
    have h3 : hasU k = false := by unfold hasU; rw [decide_eq_false]; omega
    have h4 : hasP k = false := by unfold hasP; rw [decide_eq_false]; omega
    unfold fsO
    dsimp only
    rw [h1, h2, h3, h4, if_neg (show ¬ k = 7 by omega), if_neg (show ¬ k = 15 by omega), if_neg (show ¬ k = 15 by omega)]
    rfl
theorem let_cases {k : Nat} {c : UInt8} (h : c ∈ lettersO k) : (c = 116 ∧ k = 1) ∨ (c = 113 ∧ k = 6) ∨ (c = 109 ∧ 9 ≤ k ∧ k ≤ 12) ∨ c = 106 ∨ c = 114 ∨ c = 97 ∨ c = 117 ∨ c = 110 ∨ c = 112 ∨ c = 99 := by
  by_cases hk : 1 ≤ k ∧ k ≤ 18
  · rcases od.eighteen hk with rfl | rfl | rfl | rfl | rfl | rfl | rfl | rfl | rfl | rfl | rfl | rfl | rfl | rfl | rfl | rfl | rfl | rfl <;> simp [lettersO] at h <;> first | (subst h; simp; done) | (rcases h with rfl | rfl | rfl | rfl | rfl <;> simp; done) | (rcases h with rfl | rfl <;> simp; done)
  · rw [(no_word hk).2] at h
    cases h
theorem let_any (c0 bo : Nat) (o : Ord) (g : Gh) (c : UInt8) (hc : c ∈ lettersO o.kind) (w : World) (hp : PtrO w c0 bo) (ho : OrdB w bo o g) (hw : OW o) (hL : LaidU w) : Calls Tryz.prog (letN c.toNat) #[.pointer (some ⟨c0, 0, none⟩)] w (LetT bo o.kind g (letK c.toNat) (letX o c.toNat) w) := by
  rcases let_cases hc with ⟨rfl, hk⟩ | ⟨rfl, hk⟩ | ⟨rfl, hk⟩ | rfl | rfl | rfl | rfl | rfl | rfl | rfl
  · exact let_t c0 bo o.kind (by rw [hk]; rfl) (by rw [hk]; rfl) o g w hp ho hw hL
  · exact let_q c0 bo o.kind (by rw [hk]; rfl) (by rw [hk]; rfl) o g w hp ho hw hL
  · exact let_m c0 bo o.kind (by unfold lo; rw [if_neg (by omega)]) (by unfold hi; rw [if_neg (by omega), if_neg (by omega)]) o g w hp ho hw hL
  · exact let_j c0 bo o.kind o g w hp ho hw hL
  · exact let_r c0 bo o.kind o g w hp ho hw hL
  · exact let_a c0 bo o.kind o g w hp ho hw hL
  · exact let_u c0 bo o.kind o g w hp ho hw hL
  · exact let_n c0 bo o.kind o g w hp ho hw hL
  · exact let_p c0 bo o.kind o g w hp ho hw hL
  · exact let_c c0 bo o.kind o g w hp ho hw hL

theorem let_enter {k : Nat} {c : UInt8} (hc : c ∈ lettersO k) (x : Value) (W : World) : (callFunc (letN c.toNat) #[x]).run Tryz.prog W = .ok (.enter (letN c.toNat) #[x]) W := by
  rcases let_cases hc with ⟨rfl, _⟩ | ⟨rfl, _⟩ | ⟨rfl, _⟩ | rfl | rfl | rfl | rfl | rfl | rfl | rfl <;> kernel_rfl
def clo1 (fn : FuncId) (c : Nat) : Value := .func (.func fn) #[] #[.pointer (some ⟨c, 0, none⟩)]
/-- The map of the letters, for the order whose pointer is in block c. -/
def LetM (w : World) (b c bo : Nat) : Prop := ∃ n f, MapR w b n f ∧ (∀ (k : Nat) (x : UInt8), x ∈ lettersO k → f (x.toNat : Int) = some (clo1 (letN x.toNat) c)) ∧ PtrO w c bo
theorem LetM.next {w w' : World} {b c bo : Nat} (h : LetM w b c bo) (hb : Below w.heap.size w w') : LetM w' b c bo := by
  obtain ⟨n, f, h1, h2, h3⟩ := h
  exact ⟨n, f, h1.next hb, h2, h3.next hb⟩
theorem zeroLF (W : World) : (zeroValue 95).run Tryz.prog W = .ok .nilFunc W := by kernel_rfl
theorem LetM.look {w : World} {b c bo : Nat} (h : LetM w b c bo) {k : Nat} {x : UInt8} (hx : x ∈ lettersO k) : (Instr.lookup 93 (.map (some b)) (.int .i32 (x.toNat : Int)) false).run Tryz.prog w = .ok (clo1 (letN x.toNat) c) w := by
  obtain ⟨n, f, h1, h2, _⟩ := h
  have hw : (Lit.int .i32 (x.toNat : Int)).wf = true := by
    rcases let_cases hx with ⟨rfl, _⟩ | ⟨rfl, _⟩ | ⟨rfl, _⟩ | rfl | rfl | rfl | rfl | rfl | rfl | rfl <;> decide
  rw [h1.look Tryz.underlying93 (zeroLF w) hw, h2 k x hx]
  rfl

set_option maxRecDepth 100000 in
set_option maxHeartbeats 3200000 in
theorem letters_any (bo : Nat) (w : World) : Calls Tryz.prog 50 #[.pointer (some ⟨bo, 0, none⟩)] w fun e w' => ∃ b c, e = .returned (.map (some b)) ∧ LetM w' b c bo ∧ w.heap.size ≤ b ∧ w.heap.size ≤ c ∧ Below w.heap.size w w' := by
  have ht := Tryz.underlying93
  have p0 : PtrO (w.alloc (.cells #[.pointer (some ⟨bo, 0, none⟩)] 65)) w.heap.size bo := BoxA.new _ _ _
  have b0 : Below w.heap.size w (w.alloc (.cells #[.pointer (some ⟨bo, 0, none⟩)] 65)) := (Below.refl _ w).alloc (Nat.le_refl _) _
  obtain ⟨z, hz⟩ : ∃ z, w.alloc (.cells #[.pointer (some ⟨bo, 0, none⟩)] 65) = z := ⟨_, rfl⟩
  have sz : z.heap.size = w.heap.size + 1 := by rw [← hz]; simp
  rw [hz] at p0 b0
  have y0 : Below z.heap.size z (z.alloc (.map #[] 0)) := (Below.refl _ _).alloc (Nat.le_refl _) _
  have m0 := MapR.new z
  have P0 := p0.next y0
  have B0 : Below w.heap.size w (z.alloc (.map #[] 0)) := b0.trans (y0.mono b0.size)
  obtain ⟨v1, r1, m1, g1⟩ := m0.put (x := 116) ht (by decide) (by decide) (clo1 79 w.heap.size)
  obtain ⟨v2, r2, m2, g2⟩ := m1.put (x := 113) ht (by decide) (by decide) (clo1 81 w.heap.size)
  obtain ⟨v3, r3, m3, g3⟩ := m2.put (x := 109) ht (by decide) (by decide) (clo1 82 w.heap.size)
  obtain ⟨v4, r4, m4, g4⟩ := m3.put (x := 106) ht (by decide) (by decide) (clo1 83 w.heap.size)
  obtain ⟨v5, r5, m5, g5⟩ := m4.put (x := 114) ht (by decide) (by decide) (clo1 84 w.heap.size)
  obtain ⟨v6, r6, m6, g6⟩ := m5.put (x := 97) ht (by decide) (by decide) (clo1 86 w.heap.size)
  obtain ⟨v7, r7, m7, g7⟩ := m6.put (x := 117) ht (by decide) (by decide) (clo1 87 w.heap.size)
  obtain ⟨v8, r8, m8, g8⟩ := m7.put (x := 110) ht (by decide) (by decide) (clo1 89 w.heap.size)
  obtain ⟨v9, r9, m9, g9⟩ := m8.put (x := 112) ht (by decide) (by decide) (clo1 90 w.heap.size)
  obtain ⟨v10, r10, m10, g10⟩ := m9.put (x := 99) ht (by decide) (by decide) (clo1 91 w.heap.size)
  have hg : But z.heap.size (z.alloc (.map #[] 0)) v10 := (((((((((g1.trans g2).trans g3).trans g4).trans g5).trans g6).trans g7).trans g8).trans g9).trans g10)
  have HB := Lib.hid (B0.grown hg B0.size (fun j hj => by cases hj; rw [sz]; omega))
  have HS := Lib.hid (show LetM v10 z.heap.size w.heap.size bo from
    ⟨_, _, m10, fun k x hx => by rcases let_cases hx with ⟨rfl, _⟩ | ⟨rfl, _⟩ | ⟨rfl, _⟩ | rfl | rfl | rfl | rfl | rfl | rfl | rfl <;> rfl, BoxA.but P0 hg (by rw [sz]; omega)⟩)
  have u1 : (Instr.mapUpdate 93 (.map (some (w.heap.size + 1))) (.int .i32 116) (.func (.func 79) #[] #[.pointer (some ⟨w.heap.size, 0, none⟩)])).run Tryz.prog (z.alloc (.map #[] 0)) = .ok () v1 := by rw [← sz]; exact r1
  have u2 : (Instr.mapUpdate 93 (.map (some (w.heap.size + 1))) (.int .i32 113) (.func (.func 81) #[] #[.pointer (some ⟨w.heap.size, 0, none⟩)])).run Tryz.prog v1 = .ok () v2 := by rw [← sz]; exact r2
  have u3 : (Instr.mapUpdate 93 (.map (some (w.heap.size + 1))) (.int .i32 109) (.func (.func 82) #[] #[.pointer (some ⟨w.heap.size, 0, none⟩)])).run Tryz.prog v2 = .ok () v3 := by rw [← sz]; exact r3
  have u4 : (Instr.mapUpdate 93 (.map (some (w.heap.size + 1))) (.int .i32 106) (.func (.func 83) #[] #[.pointer (some ⟨w.heap.size, 0, none⟩)])).run Tryz.prog v3 = .ok () v4 := by rw [← sz]; exact r4
  have u5 : (Instr.mapUpdate 93 (.map (some (w.heap.size + 1))) (.int .i32 114) (.func (.func 84) #[] #[.pointer (some ⟨w.heap.size, 0, none⟩)])).run Tryz.prog v4 = .ok () v5 := by rw [← sz]; exact r5
  have u6 : (Instr.mapUpdate 93 (.map (some (w.heap.size + 1))) (.int .i32 97) (.func (.func 86) #[] #[.pointer (some ⟨w.heap.size, 0, none⟩)])).run Tryz.prog v5 = .ok () v6 := by rw [← sz]; exact r6
  have u7 : (Instr.mapUpdate 93 (.map (some (w.heap.size + 1))) (.int .i32 117) (.func (.func 87) #[] #[.pointer (some ⟨w.heap.size, 0, none⟩)])).run Tryz.prog v6 = .ok () v7 := by rw [← sz]; exact r7
  have u8 : (Instr.mapUpdate 93 (.map (some (w.heap.size + 1))) (.int .i32 110) (.func (.func 89) #[] #[.pointer (some ⟨w.heap.size, 0, none⟩)])).run Tryz.prog v7 = .ok () v8 := by rw [← sz]; exact r8
  have u9 : (Instr.mapUpdate 93 (.map (some (w.heap.size + 1))) (.int .i32 112) (.func (.func 90) #[] #[.pointer (some ⟨w.heap.size, 0, none⟩)])).run Tryz.prog v8 = .ok () v9 := by rw [← sz]; exact r9
  have u10 : (Instr.mapUpdate 93 (.map (some (w.heap.size + 1))) (.int .i32 99) (.func (.func 91) #[] #[.pointer (some ⟨w.heap.size, 0, none⟩)])).run Tryz.prog v9 = .ok () v10 := by rw [← sz]; exact r10
  rw [← hz] at u1
  have SZ := Lib.hid sz
  have hmm := @run_makeMap Tryz.prog
  clear p0 b0 sz y0 m0 P0 B0 r1 r2 r3 r4 r5 r6 r7 r8 r9 r10 m1 m2 m3 m4 m5 m6 m7 m8 m9 m10 g1 g2 g3 g4 g5 g6 g7 g8 g9 g10 hg hz
  go_enter Tryz.func50, Tryz.ntmps50
  go_wp2
  go_ret
  exact ⟨z.heap.size, w.heap.size, by rw [SZ.out]; rfl, HS.out, by rw [SZ.out]; omega, Nat.le_refl _, HB.out⟩
end Go.Proofs.YtekcjfdllclphaaGreatDoor.gn
end
