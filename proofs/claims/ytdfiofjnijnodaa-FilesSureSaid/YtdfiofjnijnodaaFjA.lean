/- The document's rows of files: what a name's place is, what fits. -/
import Derived.Test.YtdfiofjnijnodaaFiV
import Derived.Laws.OwnMore
set_option linter.unusedVariables false
namespace Go.Proofs.Ytdfiofjnijnodaa.gn
open Go.RowKit
open Go.Proofs.Ytdfiofjnijnodaa.fi

/-- A file of the document's: its name, its bytes, is it hurt. -/
abbrev DF := ByteArray × ByteArray × Bool
def flatF (L : List DF) : List Value := L.flatMap fun f => [.string f.1, .string f.2.1, .bool f.2.2]
theorem flatF_cons (f : DF) (L : List DF) : flatF (f :: L) = .string f.1 :: .string f.2.1 :: .bool f.2.2 :: flatF L := rfl
theorem flatF_app (L M : List DF) : flatF (L ++ M) = flatF L ++ flatF M := by simp [flatF]
theorem flatF_len (L : List DF) : (flatF L).length = L.length * 3 := by
  induction L with
  | nil => rfl
  | cons c r ih => rw [flatF_cons]; simp only [List.length_cons, ih]; omega
theorem flatF_one (L : List DF) : ∀ u ∈ flatF L, u.oneCell' = true := by
  induction L with
  | nil => intro u hu; cases hu
  | cons c r ih =>
    intro u hu
    rw [flatF_cons] at hu
    simp only [List.mem_cons] at hu
    rcases hu with rfl | rfl | rfl | hu
    · rfl
    · rfl
    · rfl
    · exact ih u hu
theorem flatF_at {f : DF} : ∀ (L : List DF) (i : Nat), L[i]? = some f → (flatF L)[i * 3]? = some (.string f.1) ∧ (flatF L)[i * 3 + 1]? = some (.string f.2.1) ∧ (flatF L)[i * 3 + 2]? = some (.bool f.2.2)
  | [], i, h => by simp at h
  | c :: r, 0, h => by
    simp only [List.getElem?_cons_zero, Option.some.injEq] at h
    subst h
    exact ⟨rfl, rfl, rfl⟩
  | c :: r, i + 1, h => by
    have := flatF_at r i (by simpa using h)
    rw [flatF_cons, show (i + 1) * 3 = i * 3 + 1 + 1 + 1 by omega]
    simpa using this
theorem flatF_drop (L : List DF) : ∀ k, flatF (L.drop k) = (flatF L).drop (k * 3) := by
  induction L with
  | nil => intro k; simp [flatF]
  | cons c r ih =>
    intro k
    cases k with
    | zero => simp
    | succ k =>
      rw [flatF_cons, show (k + 1) * 3 = k * 3 + 1 + 1 + 1 by omega]
      simpa using ih k
theorem flatF_take (L : List DF) : ∀ k, flatF (L.take k) = (flatF L).take (k * 3) := by
  induction L with
  | nil => intro k; simp [flatF]
  | cons c r ih =>
    intro k
    cases k with
    | zero => simp [flatF]
    | succ k =>
      rw [List.take_succ_cons, flatF_cons, flatF_cons, show (k + 1) * 3 = k * 3 + 1 + 1 + 1 by omega]
      simpa using ih k
/-- A row of files in memory, from block B on. -/
def FR (w : World) (B : Nat) (v : Value) (L : List DF) : Prop := w.ownsRow B 88 3 v L.length (flatF L)
theorem FR.form {w : World} {B : Nat} {v : Value} {L : List DF} (h : FR w B v L) : (v = .slice none 0 0 ∧ L = []) ∨ ∃ g c, v = .slice (some ⟨g, 0, none⟩) L.length c ∧ B ≤ g ∧ L.length ≤ c ∧ c ≤ maxLen := by
  rcases h.2 with ⟨rfl, hn⟩ | ⟨g, cap, cur, rfl, hb, _, h1, h2, _⟩
  · exact .inl ⟨rfl, List.eq_nil_of_length_eq_zero hn⟩
  · exact .inr ⟨g, cap, rfl, hb, h1, h2⟩
theorem FR.cells {w : World} {B g n c : Nat} {L : List DF} (h : FR w B (.slice (some ⟨g, 0, none⟩) n c) L) {i : Nat} {f : DF} (hi : L[i]? = some f) :
    w.cell? ⟨g, i * 3, none⟩ = some (.string f.1) ∧ w.cell? ⟨g, i * 3 + 1, none⟩ = some (.string f.2.1) ∧ w.cell? ⟨g, i * 3 + 2, none⟩ = some (.bool f.2.2) := by
  obtain ⟨h1, h2, h3⟩ := flatF_at L i hi
  have k1 := World.ownsRow.cells h (g := g) rfl _ _ h1
  have k2 := World.ownsRow.cells h (g := g) rfl _ _ h2
  have k3 := World.ownsRow.cells h (g := g) rfl _ _ h3
  have hadd : ∀ j, (⟨g, 0, none⟩ : Addr).add j = ⟨g, j, none⟩ := fun j => by unfold Addr.add; split <;> simp_all
  rw [hadd] at k1 k2 k3
  exact ⟨k1, k2, k3⟩
theorem FR.below {w w' : World} {B : Nat} {v : Value} {L : List DF} (h : FR w B v L) (hb : Below w.heap.size w w') : FR w' B v L := row_below h hb
theorem FR.mono {w : World} {B B' : Nat} {v : Value} {L : List DF} (h : FR w B v L) (hB : B' ≤ B) : FR w B' v L := row_mono h hB
theorem FR.lt {w : World} {B g n c : Nat} {L : List DF} (h : FR w B (.slice (some ⟨g, 0, none⟩) n c) L) : g < w.heap.size := (World.ownsRow.lt h g rfl).2

theorem toList_data (x : ByteArray) : x.toList = x.data.toList := by
  have := str_toList x.data.toList
  rwa [str_of] at this
theorem toList_inj {x y : ByteArray} : x.toList = y.toList ↔ x = y := by
  refine ⟨fun h => ?_, fun h => by rw [h]⟩
  rw [toList_data, toList_data] at h
  rw [← str_of x, ← str_of y, h]
/-- A name's place among files. -/
def atI (x : ByteArray) : List DF → Int
  | [] => -1
  | f :: r => if f.1 = x then 0 else if atI x r < 0 then -1 else atI x r + 1
theorem atI_cases (x : ByteArray) (L : List DF) : atI x L = -1 ∨ ∃ k : Nat, atI x L = (k : Int) ∧ k < L.length := by
  induction L with
  | nil => exact .inl rfl
  | cons f r ih =>
    unfold atI
    split
    · exact .inr ⟨0, rfl, by simp⟩
    · rcases ih with h | ⟨k, h1, h2⟩
      · rw [h]; exact .inl rfl
      · rw [h1, if_neg (by omega)]
        exact .inr ⟨k + 1, by omega, by simp; omega⟩
theorem atI_skip (x : ByteArray) : ∀ (L : List DF) (k : Nat), k ≤ L.length → (∀ j f, j < k → L[j]? = some f → f.1 ≠ x) → atI x L = if atI x (L.drop k) < 0 then -1 else atI x (L.drop k) + k
  | L, 0, _, _ => by
    rw [List.drop_zero]
    rcases atI_cases x L with h | ⟨k, h1, h2⟩
    · rw [h]; rfl
    · rw [h1, if_neg (by omega)]; omega
  | [], k + 1, hk, _ => by simp at hk
  | f :: r, k + 1, hk, hne => by
    have h1 : f.1 ≠ x := hne 0 f (by omega) rfl
    have h2 := atI_skip x r k (by simpa using hk) fun j g hj hg => hne (j + 1) g (by omega) (by simpa using hg)
    rw [atI, if_neg h1, h2, List.drop_succ_cons]
    rcases atI_cases x (r.drop k) with h | ⟨m, h3, _⟩
    · rw [h]; rfl
    · rw [h3, if_neg (by omega), if_neg (by omega)]; omega
theorem atI_hit (x : ByteArray) {L : List DF} {k : Nat} {f : DF} (h : L[k]? = some f) (hx : f.1 = x) (hne : ∀ j f, j < k → L[j]? = some f → f.1 ≠ x) : atI x L = (k : Int) := by
  obtain ⟨hlt, rfl⟩ := List.getElem?_eq_some_iff.1 h
  rw [atI_skip x L k (by omega) hne, List.drop_eq_getElem_cons hlt, atI, if_pos hx]
  simp
theorem atI_miss (x : ByteArray) {L : List DF} (hne : ∀ j f, j < L.length → L[j]? = some f → f.1 ≠ x) : atI x L = -1 := by
  rw [atI_skip x L L.length (Nat.le_refl _) hne, List.drop_length]
  rfl

set_option maxHeartbeats 4000000 in
theorem dat_any5 (w : World) (B : Nat) (v : Value) (L : List DF) (x : ByteArray) (h : FR w B v L) :
    Calls Try.prog 43 #[v, .string x] w fun e w' => e = .returned (.int .i64 (atI x L)) ∧ w = w' := by
  rcases h.form with ⟨rfl, rfl⟩ | ⟨g, c, rfl, _, hc, hcm⟩
  · clear h
    go_enter Try.func43, Try.ntmps43
    go_wp2
    go_loop [5] (fun i => i = .int .i64 0) (fun i => 0)
    case atStart => rfl
    case round =>
      subst hrel
      go_wp2
      go_ret
      exact ⟨rfl, rfl⟩
  · have HF := Lib.hid h
    unfold maxLen at hcm
    clear h
    go_enter Try.func43, Try.ntmps43
    go_wp2
    go_loop [5] (fun i => ∃ k : Nat, k ≤ L.length ∧ i = .int .i64 k ∧ ∀ j f, j < k → L[j]? = some f → f.1 ≠ x) (fun i => L.length - (intOf i).toNat)
    case atStart => exact ⟨0, Nat.zero_le _, rfl, fun j f hj => by omega⟩
    case round =>
      obtain ⟨k, hk, rfl, hne⟩ := hrel
      have HN := Lib.hid hne
      clear hne
      by_cases hlt : k < L.length
      · obtain ⟨f, hf⟩ : ∃ f, L[k]? = some f := ⟨L[k], List.getElem?_eq_getElem hlt⟩
        obtain ⟨c1, c2, c3⟩ := HF.out.cells hf
        have HK := Lib.hid hf
        clear hf
        have hI : (0 : Int) ≤ (k : Int) := by omega
        have hI2 : (k : Int) < (L.length : Int) := by omega
        obtain ⟨y, z, u⟩ := f
        simp only at c1 c2 c3
        by_cases hx : y = x
        · subst hx
          have HA := Lib.hid (atI_hit y HK.out rfl HN.out)
          go_wp2
          go_ret
          exact ⟨fret HA.out.symm, rfl⟩
        · have hx2 : (y.toList == x.toList) = false := by simpa [toList_inj] using hx
          go_wp2
          go_round
          case rel =>
            refine ⟨k + 1, by omega, by go_num, fun j f hj hf => ?_⟩
            by_cases e : j = k
            · subst e
              rw [HK.out] at hf
              cases hf
              exact hx
            · exact HN.out j f (by omega) hf
          case measure => simp [intOf]; omega
      · have HA := Lib.hid (atI_miss x fun j f hj hf => HN.out j f (by omega) hf)
        go_wp2
        go_ret
        exact ⟨fret HA.out.symm, rfl⟩

/-- May a name be? -/
def fitB (x : ByteArray) : Bool := decide (0 < (x.size : Int)) && decide ((x.size : Int) ≤ 32)
theorem fits_any5 (w : World) (x : ByteArray) : Calls Try.prog 42 #[.string x] w fun e w' => e = .returned (.bool (fitB x)) ∧ w = w' := by
  by_cases h1 : 0 < (x.size : Int)
  · by_cases h2 : (x.size : Int) ≤ 32
    · have : fitB x = true := by simp only [fitB, decide_eq_true h1, decide_eq_true h2]; rfl
      rw [this]
      go_enter Try.func42, Try.ntmps42
      go_wp2
      go_ret
      exact ⟨rfl, rfl⟩
    · have : fitB x = false := by simp only [fitB, decide_eq_false h2]; simp
      rw [this]
      go_enter Try.func42, Try.ntmps42
      go_wp2
      go_ret
      exact ⟨rfl, rfl⟩
  · have : fitB x = false := by simp only [fitB, decide_eq_false h1]; rfl
    rw [this]
    go_enter Try.func42, Try.ntmps42
    go_wp2
    go_ret
    exact ⟨rfl, rfl⟩
/-- A text's beginning. -/
def cutN (n : Int) (s : ByteArray) : Nat := if n < 0 then 0 else if (s.size : Int) < n then s.size else n.toNat
def cutS (n : Int) (s : ByteArray) : ByteArray := s.extract 0 (cutN n s)
theorem cutS_size (n : Int) (s : ByteArray) : (cutS n s).size ≤ s.size := by
  unfold cutS
  rw [ByteArray.size_extract]
  omega
theorem scut_any (w : World) (n : Int) (s : ByteArray) (hs : s.size ≤ 1099511627776) : Calls Try.prog 55 #[.int .i64 n, .string s] w fun e w' => e = .returned (.string (cutS n s)) ∧ w = w' := by
  by_cases h1 : n < 0
  · have e : cutS n s = s.extract 0 0 := by simp [cutS, cutN, h1]
    rw [e]
    have hI : ¬ (s.size : Int) < 0 := by omega
    go_enter Try.func55, Try.ntmps55
    go_wp2
    go_ret
    exact ⟨rfl, rfl⟩
  · obtain ⟨k, rfl⟩ : ∃ k : Nat, n = (k : Int) := ⟨n.toNat, by omega⟩
    by_cases h2 : (s.size : Int) < (k : Int)
    · have e : cutS (k : Int) s = s.extract 0 s.size := by simp only [cutS, cutN, if_neg h1, if_pos h2]
      rw [e]
      have hI : (0 : Int) ≤ (s.size : Int) := by omega
      go_enter Try.func55, Try.ntmps55
      go_wp2
      go_ret
      exact ⟨rfl, rfl⟩
    · have e : cutS (k : Int) s = s.extract 0 k := by simp only [cutS, cutN, if_neg h1, if_neg h2]; rfl
      rw [e]
      have hI : (0 : Int) ≤ (k : Int) := by omega
      go_enter Try.func55, Try.ntmps55
      go_wp2
      go_ret
      exact ⟨rfl, rfl⟩
end Go.Proofs.Ytdfiofjnijnodaa.gn
