/- FilesBegin: the log behind appends and behind a failure, plain; slices of strings that came in. -/
import Derived.Test.YtdfiofjnijnodaaFiY
import Derived.SliceStrings
import Derived.Lib.SmallJoins
set_option linter.unusedVariables false
namespace Go.Proofs.Ytdfiofjnijnodaa.fi
def lg : Nm := [108, 111, 103]
/-- The directory with one file, which was sure, and appends behind it. -/
def logS (first : List UInt8) (L : List (List UInt8)) : FS := ⟨20000, [(lg, (first, false))], L.map (.app lg)⟩
theorem log_replay (b : List UInt8) : ∀ L : List (List UInt8), replay (L.map (.app lg)) [(lg, (b, false))] = [(lg, (b ++ L.flatten, false))] := by
  intro L
  induction L generalizing b with
  | nil => simp [replay]
  | cons t r ih =>
    have h1 : doOp (.app lg t) [(lg, (b, false))] = [(lg, (b ++ t, false))] := by simp [doOp, fi.mod, addF]
    show replay (r.map (.app lg)) (doOp (.app lg t) [(lg, (b, false))]) = _
    rw [h1, ih]
    simp
theorem log_now (first : List UInt8) (L : List (List UInt8)) : (logS first L).now = [(lg, (first ++ L.flatten, false))] := log_replay first L
theorem log_look (first : List UInt8) (L : List (List UInt8)) : (logS first L).look lg = 0 := by
  unfold FS.look
  rw [log_now]
  rw [if_pos (by decide)]
  simp [get]
theorem log_left (first : List UInt8) (L : List (List UInt8)) : (logS first L).left = 20000 - ((first ++ L.flatten).length : Int) := by
  unfold FS.left
  rw [log_now]
  simp [tot, logS]
theorem log_app (first : List UInt8) (L : List (List UInt8)) (t : List UInt8) (h : (first ++ L.flatten).length + t.length ≤ 20000) : (logS first L).app lg t = (0, logS first (L ++ [t])) := by
  unfold FS.app
  rw [if_neg (by rw [log_look]; decide), if_neg (by rw [log_left]; omega)]
  simp [FS.done, logS]
theorem log_wt (first : List UInt8) (L : List (List UInt8)) : (logS first L).wt = 1 + first.length + (L.length + L.flatten.length) := by
  have : ∀ M : List (List UInt8), wts (M.map (.app lg)) = M.length + M.flatten.length := by
    intro M
    induction M with
    | nil => rfl
    | cons t r ih => simp only [List.map_cons, wts, FOp.wt, ih, List.length_cons, List.flatten_cons, List.length_append]; omega
  simp [FS.wt, logS, wt, this]
theorem log_damaged (f : Fault) (b : List UInt8) : ∀ (L : List (List UInt8)) (i : Nat), crashes f i (L.map (.app lg)) [(lg, (b, true))] = [(lg, (b, true))] := by
  intro L
  induction L with
  | nil => intro i; rfl
  | cons t r ih =>
    intro i
    have h1 : doOp (.app lg t) [(lg, (b, true))] = [(lg, (b, true))] := by simp [doOp, fi.mod, addF]
    have h2 : short lg t f.cut [(lg, (b, true))] = [(lg, (b, true))] := by simp [short, fi.mod, shortF]
    simp only [List.map_cons, crashes, h1, h2, ih]
    split <;> (try split) <;> rfl
theorem log_crashes (f : Fault) : ∀ (L : List (List UInt8)) (b : List UInt8) (i : Nat), ∃ q r d, crashes f i (L.map (.app lg)) [(lg, (b, false))] = [(lg, (b ++ q, d))] ∧ L.flatten = q ++ r := by
  intro L
  induction L with
  | nil => intro b i; exact ⟨[], [], false, by simp [crashes], rfl⟩
  | cons t r ih =>
    intro b i
    have h1 : doOp (.app lg t) [(lg, (b, false))] = [(lg, (b ++ t, false))] := by simp [doOp, fi.mod, addF]
    have h2 : short lg t f.cut [(lg, (b, false))] = [(lg, (b ++ t.take f.cut.toNat, true))] := by simp [short, fi.mod, shortF]
    simp only [List.map_cons, crashes, h1, h2, log_damaged]
    split
    · exact ⟨[], _, false, by simp, rfl⟩
    · split
      · exact ⟨t.take f.cut.toNat, t.drop f.cut.toNat ++ r.flatten, true, rfl, by rw [List.flatten_cons, ← List.append_assoc, List.take_append_drop]⟩
      · obtain ⟨q, p, d, e1, e2⟩ := ih (b ++ t) (i + 1)
        exact ⟨t ++ q, p, d, by rw [e1, List.append_assoc], by rw [List.flatten_cons, e2, List.append_assoc]⟩
/-- The directory behind a failure. -/
def logC (b : List UInt8) : FS := ⟨20000, [(lg, (b, false))], []⟩
theorem log_crash (f : Fault) (first : List UInt8) (L : List (List UInt8)) : ∃ q r, (logS first L).crash f = logC (first ++ q) ∧ L.flatten = q ++ r := by
  obtain ⟨q, r, d, e1, e2⟩ := log_crashes f L first 0
  refine ⟨q, r, ?_, e2⟩
  simp only [FS.crash, logS, logC, e1]
  rfl
theorem logC_look (b : List UInt8) : (logC b).look lg = 0 := rfl
theorem logC_bytes (b : List UInt8) : (logC b).bytes lg = b := rfl
theorem log_1 : (FS.new 20000).make lg = (0, ⟨20000, [], [.make lg]⟩) := by kernel_rfl
theorem log_2 (first : List UInt8) (h : first.length ≤ 300) : (FS.mk 20000 [] [.make lg]).app lg first = (0, ⟨20000, [], [.make lg, .app lg first]⟩) := by
  unfold FS.app
  have h1 : (FS.mk 20000 [] [.make lg]).look lg = 0 := by kernel_rfl
  have h2 : (FS.mk 20000 [] [.make lg]).left = 20000 := by kernel_rfl
  rw [if_neg (by rw [h1]; decide), if_neg (by rw [h2]; omega)]
  rfl
theorem log_3 (first : List UInt8) : (FS.mk 20000 [] [.make lg, .app lg first]).sync = logS first [] := rfl
end Go.Proofs.Ytdfiofjnijnodaa.fi

namespace Go.Proofs.Ytdfiofjnijnodaa.gn
open Go.RowKit
open Go.Proofs.Ytdfiofjnijnodaa.fi

/-- A slice of strings that came in. -/
def Strs (w : World) (v : Value) (L : List (List UInt8)) : Prop :=
  ∃ A c, v = .slice A L.length c ∧ L.length ≤ c ∧ c ≤ maxLen ∧ (L.length = 0 ∨ ∃ b o, A = some ⟨b, o, none⟩ ∧ ∀ j (h : j < L.length), w.cell? ⟨b, o + j, none⟩ = some (.string (str L[j]))) ∧ ∀ s ∈ L, s.length ≤ maxLen
theorem cells9 : Try.prog.cellsOf 9 = 1 := by kernel_rfl
theorem open_strs1 {H : Type} {enc : TypeId × Value → H} {W : World} {fuel : Nat} {v : Value} {x : DataW H × List MemPlace}
    (h : DataW.trod enc Try.prog W 0 (fun _ => true) true fuel 40 [v] = some x) : ∃ L, Strs W v L := by
  rcases Go.ChangeShapes.open_strings Try.underlying40 Try.underlying9 cells9 h with ⟨hcs, _⟩ | ⟨a, len, cap, ss, hcs, _, hle, hm, hz, _, hcell, hw⟩
  · simp at hcs
    subst hcs
    exact ⟨[], none, 0, rfl, Nat.le_refl _, Nat.zero_le _, .inl rfl, fun s hs => by cases hs⟩
  · simp at hcs hz
    subst hcs
    have hl : ((ss.take len).map fun s => s.data.toList).length = len := by rw [List.length_map, List.length_take]; omega
    refine ⟨(ss.take len).map fun s => s.data.toList, some a, cap, by rw [hl], by rw [hl]; exact hle, hm, ?_, fun s hs => ?_⟩
    · by_cases h0 : len = 0
      · exact .inl (hl.trans h0)
      · obtain ⟨b, off, spot⟩ := a
        have hspot : spot = none := by simpa [Addr.add] using World.cell?_spot (hcell 0 (by omega))
        subst hspot
        refine .inr ⟨b, off, rfl, fun j hj => ?_⟩
        rw [hl] at hj
        have hadd : (⟨b, off, none⟩ : Addr).add j = ⟨b, off + j, none⟩ := by unfold Addr.add; split <;> simp_all
        have := hcell j (by omega)
        rw [hadd] at this
        rw [this]
        simp [List.getD, List.getElem?_eq_getElem (show j < ss.length by omega), str_of]
    · obtain ⟨t, ht, rfl⟩ := List.mem_map.1 hs
      simpa using hw t (List.take_subset _ _ ht)
end Go.Proofs.Ytdfiofjnijnodaa.gn
