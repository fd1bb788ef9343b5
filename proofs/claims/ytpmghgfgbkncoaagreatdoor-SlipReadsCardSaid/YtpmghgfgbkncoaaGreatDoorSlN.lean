/- Slips, plain: a text is read again. (Written ahead of the code.) -/
import Derived.Test.YtpmghgfgbkncoaaGreatDoorSlM
set_option linter.unusedVariables false
namespace Go.Proofs.YtpmghgfgbkncoaaGreatDoor.sp
open Go.Proofs.YtpmghgfgbkncoaaGreatDoor.un
open Go.Proofs.YtpmghgfgbkncoaaGreatDoor.di
open Go.Lib (decDigits)

theorem frun_cons {x : Slip} {seen : List Tx} {f : Fl} {ws : List Tx} (h : (61 : UInt8) ∉ f.1) : frun (x, seen) (wtx f :: ws) = if f.1 ∈ seen then none else match fput x f with
    | none => none
    | some y => frun (y, seen ++ [f.1]) ws := by
  rw [frun, cut_wtx h]
  all_goals rfl
theorem within_txt {n : Int} {a b : Nat} (h0 : (a : Int) ≤ n) (h1 : n ≤ b) (hb : b ≤ 1099511627776) : within? (txt n) a b = some n.toNat := by
  obtain ⟨m, rfl⟩ : ∃ m : Nat, n = (m : Int) := ⟨n.toNat, by omega⟩
  unfold within?
  rw [txt_in (show m ≤ top by unfold top; omega), num_dec (show m ≤ top by unfold top; omega)]
  dsimp only
  rw [if_pos ⟨by omega, by omega⟩]
  rfl
theorem toNat_back {n : Int} (h : 0 ≤ n) : ((n.toNat : Nat) : Int) = n := by omega
theorem fput_user (x : Slip) (v : Tx) : fput x (userK, v) = some { x with user := v } := rfl
theorem fput_nodes (x : Slip) {n : Int} (h0 : 1 ≤ n) (h1 : n ≤ 64) : fput x (nodesK, txt n) = some { x with nodes := n } := by
  unfold fput
  rw [if_neg (by first | decide | (dsimp only; decide)), if_pos rfl, within_txt (a := 1) (b := 64) h0 h1 (by decide)]
  show some { x with nodes := ((n.toNat : Nat) : Int) } = _
  rw [toNat_back (by omega)]
theorem fput_wall (x : Slip) {n : Int} (h0 : 1 ≤ n) (h1 : n ≤ 1048576) : fput x (wallK, txt n) = some { x with wall := n } := by
  unfold fput
  rw [if_neg (by first | decide | (dsimp only; decide)), if_neg (by first | decide | (dsimp only; decide)), if_pos rfl, within_txt (a := 1) (b := 1048576) h0 h1 (by decide)]
  show some { x with wall := ((n.toNat : Nat) : Int) } = _
  rw [toNat_back (by omega)]
theorem fput_qos (x : Slip) {n : Int} (h0 : 0 ≤ n) (h1 : n ≤ 9) : fput x (qosK, txt n) = some { x with qos := n } := by
  unfold fput
  rw [if_neg (by first | decide | (dsimp only; decide)), if_neg (by first | decide | (dsimp only; decide)), if_neg (by first | decide | (dsimp only; decide)), if_pos rfl, within_txt (a := 0) (b := 9) h0 h1 (by decide)]
  show some { x with qos := ((n.toNat : Nat) : Int) } = _
  rw [toNat_back (by omega)]
theorem dep_read {d : Int × Bool} (h0 : 1 ≤ d.1) (h1 : d.1 ≤ 1073741824) : dep? (depT d) = some d := by
  obtain ⟨n, b⟩ := d
  unfold dep? depT
  have hc : (58 : UInt8) ∉ (if b = true then anyW else okW) := by cases b <;> decide
  rw [cutB_at 58 _ _ hc]
  dsimp only
  rw [within_txt (a := 1) (b := 1073741824) h0 h1 (by decide)]
  dsimp only
  rw [if_pos (by cases b <;> decide), toNat_back (by simp at h0; omega)]
  cases b <;> rfl
theorem dec_no {n : Nat} {c : UInt8} (h : dig c = false) : c ∉ decDigits n := fun hm => by
  have := dec_dig n c hm
  rw [h] at this
  cases this
theorem txt_no {n : Int} {c : UInt8} (h : dig c = false) : c ∉ txt n := by
  unfold txt
  split
  · exact dec_no h
  · simp
theorem depT_no (d : Int × Bool) {c : UInt8} (h : dig c = false) (h1 : c ∉ anyW) (h2 : c ∉ okW) (h3 : c ≠ 58) : c ∉ depT d := by
  unfold depT
  intro hm
  rcases List.mem_append.1 hm with hm | hm
  · split at hm
    · exact h1 hm
    · exact h2 hm
  · rcases List.mem_cons.1 hm with e | hm
    · exact h3 e
    · exact txt_no h hm
theorem mapM_deps : ∀ (l : List (Int × Bool)), (∀ d ∈ l, 1 ≤ d.1 ∧ d.1 ≤ 1073741824) → (l.map depT).mapM dep? = some l
  | [], _ => rfl
  | d :: r, h => by
    have ih := mapM_deps r fun x hx => h x (by simp [hx])
    rw [List.map_cons, List.mapM_cons, dep_read (h d (by simp)).1 (h d (by simp)).2, ih]
    rfl
theorem fput_after (x : Slip) {l : List (Int × Bool)} (hl : l ≠ []) (h : ∀ d ∈ l, 1 ≤ d.1 ∧ d.1 ≤ 1073741824) : fput x (afterK, joinC 44 (l.map depT)) = some { x with after := l } := by
  unfold fput
  rw [if_neg (by first | decide | (dsimp only; decide)), if_neg (by first | decide | (dsimp only; decide)), if_neg (by first | decide | (dsimp only; decide)), if_neg (by first | decide | (dsimp only; decide)), if_pos rfl]
  dsimp only
  rw [cuts_join 44 _ (by simp [hl]) (fun w hw => by
    obtain ⟨d, _, rfl⟩ := List.mem_map.1 hw
    exact depT_no d (by decide) (by decide) (by decide) (by decide)), mapM_deps l h]
  rfl
/-- What a slip that may be has. -/
structure Ok (x : Slip) : Prop where
  user : isName x.user = true
  nodes : 1 ≤ x.nodes ∧ x.nodes ≤ 64
  wall : 1 ≤ x.wall ∧ x.wall ≤ 1048576
  qos : 0 ≤ x.qos ∧ x.qos ≤ 9
  after : x.after.length ≤ 8 ∧ (x.after.map (·.1)).Nodup ∧ ∀ d ∈ x.after, 1 ≤ d.1 ∧ d.1 ≤ 1073741824
  cap : 0 ≤ x.cap ∧ x.cap ≤ 1099511627776
  pool0 : x.cap = 0 → x.pool = []
  pool1 : x.cap ≠ 0 → isName x.pool = true
  inn : 0 ≤ x.inn ∧ x.inn ≤ x.cap
  out : 0 ≤ x.out ∧ x.out ≤ x.cap
  make : ∀ d ∈ x.make, d.kind = 4 ∧ chk d = true
  makeN : nameL (x.make.map (·.name))
  drop : nameL x.drop
  use : nameL x.use
  apart : ∀ d ∈ x.make, d.name ∉ x.use
theorem chkS_iff (x : Slip) : chkS x = true ↔ Ok x := by
  unfold chkS
  rw [decide_eq_true_eq]
  exact ⟨fun ⟨a, b, c, d, e, f, g, h, i, j, k, l, m, n, o⟩ => ⟨a, b, c, d, e, f, g, h, i, j, k, l, m, n, o⟩, fun ⟨a, b, c, d, e, f, g, h, i, j, k, l, m, n, o⟩ => ⟨a, b, c, d, e, f, g, h, i, j, k, l, m, n, o⟩⟩
/-- The first line's part of a slip. -/
def head1 (x : Slip) : Slip := { Slip.zero with user := x.user, nodes := x.nodes, wall := x.wall, qos := x.qos, after := x.after }
theorem plain_join {c : UInt8} (hc : c ≠ 32) (hc2 : c ≠ 10) : ∀ (L : List Tx), (∀ w ∈ L, plain w) → plain (joinC c L)
  | [], _ => ⟨by simp [joinC], by simp [joinC]⟩
  | [a], h => h a (by simp)
  | a :: b :: r, h => by
    rw [joinC_cons c a (by simp)]
    refine plain_app (h a (by simp)) ?_
    have ih := plain_join hc hc2 (b :: r) fun w hw => h w (by simp [hw])
    exact ⟨fun hm => (List.mem_cons.1 hm).elim (fun e => hc e.symm) ih.1, fun hm => (List.mem_cons.1 hm).elim (fun e => hc2 e.symm) ih.2⟩
theorem plain_dep (d : Int × Bool) : plain (depT d) := ⟨depT_no d (by decide) (by decide) (by decide) (by decide), depT_no d (by decide) (by decide) (by decide) (by decide)⟩
theorem fsS_mem {x : Slip} (h : Ok x) {f : Fl} (hf : f ∈ fsS x) : plain (wtx f) ∧ (61 : UInt8) ∉ f.1 := by
  have p61 : plain [61] := by unfold plain; decide
  have key : ∀ (a b : Tx), plain a → plain b → plain (wtx (a, b)) := fun a b ha hb => by
    show plain (a ++ ([61] ++ b))
    exact plain_app ha (plain_app p61 hb)
  unfold fsS at hf
  rcases List.mem_append.1 hf with hf | hf
  · rcases List.mem_append.1 hf with hf | hf
    · simp only [List.mem_cons, List.not_mem_nil, or_false] at hf
      rcases hf with rfl | rfl | rfl
      · exact ⟨key _ _ (by unfold plain; decide) (plain_name h.user), show (61 : UInt8) ∉ userK by decide⟩
      · exact ⟨key _ _ (by unfold plain; decide) (plain_txt _), show (61 : UInt8) ∉ nodesK by decide⟩
      · exact ⟨key _ _ (by unfold plain; decide) (plain_txt _), show (61 : UInt8) ∉ wallK by decide⟩
    · split at hf
      · simp only [List.mem_cons, List.not_mem_nil, or_false] at hf
        subst hf
        exact ⟨key _ _ (by unfold plain; decide) (plain_txt _), show (61 : UInt8) ∉ qosK by decide⟩
      · simp at hf
  · split at hf
    · simp at hf
    · simp only [List.mem_cons, List.not_mem_nil, or_false] at hf
      subst hf
      refine ⟨key _ _ (by unfold plain; decide) (plain_join (by decide) (by decide) _ fun w hw => ?_), show (61 : UInt8) ∉ afterK by decide⟩
      obtain ⟨d, _, rfl⟩ := List.mem_map.1 hw
      exact plain_dep d
theorem line1_cuts {x : Slip} (h : Ok x) : cuts 32 (line1 x) = jobW :: (fsS x).map wtx := by
  unfold line1
  refine cuts_join 32 _ (by simp) fun w hw => ?_
  rcases List.mem_cons.1 hw with rfl | hw
  · decide
  · obtain ⟨f, hf, rfl⟩ := List.mem_map.1 hw
    exact (fsS_mem h hf).1.1
theorem first_read {x : Slip} (h : Ok x) : first? (line1 x) = some (head1 x) := by
  have hr : ∃ seen, frun (Slip.zero, []) ((fsS x).map wtx) = some (head1 x, seen) ∧ userK ∈ seen ∧ nodesK ∈ seen ∧ wallK ∈ seen := by
    have hz : (fsS x).map wtx = wtx (userK, x.user) :: wtx (nodesK, txt x.nodes) :: wtx (wallK, txt x.wall) :: ((if 0 < x.qos then [(qosK, txt x.qos)] else []) ++ (if x.after = [] then [] else [(afterK, joinC 44 (x.after.map depT))])).map wtx := by
      unfold fsS
      rw [List.append_assoc, List.map_append]
      rfl
    rw [hz, frun_cons (show (61 : UInt8) ∉ userK by decide), if_neg (by simp), fput_user]
    dsimp only
    rw [frun_cons (show (61 : UInt8) ∉ nodesK by decide), if_neg (by first | decide | (dsimp only; decide)), fput_nodes _ h.nodes.1 h.nodes.2]
    dsimp only
    rw [frun_cons (show (61 : UInt8) ∉ wallK by decide), if_neg (by first | decide | (dsimp only; decide)), fput_wall _ h.wall.1 h.wall.2]
    dsimp only
    by_cases hq : 0 < x.qos
    · rw [if_pos hq]
      by_cases ha : x.after = []
      · rw [if_pos ha]
        show ∃ seen, frun _ [wtx (qosK, txt x.qos)] = _ ∧ _
        rw [frun_cons (show (61 : UInt8) ∉ qosK by decide), if_neg (by first | decide | (dsimp only; decide)), fput_qos _ h.qos.1 h.qos.2]
        exact ⟨[userK, nodesK, wallK, qosK], by unfold head1; rw [ha]; rfl, by decide⟩
      · rw [if_neg ha]
        show ∃ seen, frun _ [wtx (qosK, txt x.qos), wtx (afterK, joinC 44 (x.after.map depT))] = _ ∧ _
        rw [frun_cons (show (61 : UInt8) ∉ qosK by decide), if_neg (by first | decide | (dsimp only; decide)), fput_qos _ h.qos.1 h.qos.2]
        dsimp only
        rw [frun_cons (show (61 : UInt8) ∉ afterK by decide), if_neg (by first | decide | (dsimp only; decide)), fput_after _ ha h.after.2.2]
        exact ⟨[userK, nodesK, wallK, qosK, afterK], rfl, by decide⟩
    · rw [if_neg hq]
      have hq0 : x.qos = 0 := by have := h.qos.1; omega
      by_cases ha : x.after = []
      · rw [if_pos ha]
        exact ⟨[userK, nodesK, wallK], by unfold head1; rw [ha, hq0]; rfl, by decide⟩
      · rw [if_neg ha]
        show ∃ seen, frun _ [wtx (afterK, joinC 44 (x.after.map depT))] = _ ∧ _
        rw [frun_cons (show (61 : UInt8) ∉ afterK by decide), if_neg (by first | decide | (dsimp only; decide)), fput_after _ ha h.after.2.2]
        exact ⟨[userK, nodesK, wallK, afterK], by unfold head1; rw [hq0]; rfl, by decide⟩
  obtain ⟨seen, h1, h2⟩ := hr
  unfold first?
  rw [line1_cuts h]
  dsimp only
  rw [if_pos rfl, h1]
  dsimp only
  rw [if_pos h2]
end Go.Proofs.YtpmghgfgbkncoaaGreatDoor.sp
