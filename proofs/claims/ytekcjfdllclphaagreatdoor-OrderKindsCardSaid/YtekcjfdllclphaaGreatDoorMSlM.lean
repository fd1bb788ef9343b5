/- Slips, plain: a text between any byte, the first line's fields, the lines, what a text denotes, by the document. (Written ahead of the code.) -/
import Derived.Test.YtekcjfdllclphaaGreatDoorMDiO
section
set_option linter.unusedVariables false
namespace Go.Proofs.YtekcjfdllclphaaGreatDoor.sp
open Go.Proofs.YtekcjfdllclphaaGreatDoor.un
open Go.Proofs.YtekcjfdllclphaaGreatDoor.di

/-! ### a text, between a byte -/
def cuts (c : UInt8) : Tx → List Tx
  | [] => [[]]
  | b :: r => if b = c then [] :: cuts c r else match cuts c r with
    | h :: t => (b :: h) :: t
    | [] => [[b]]
theorem cuts_bl (c : UInt8) (r : Tx) : cuts c (c :: r) = [] :: cuts c r := by rw [cuts, if_pos rfl]
theorem cuts_nb {c b : UInt8} (h : b ≠ c) (r : Tx) : cuts c (b :: r) = match cuts c r with
    | h :: t => (b :: h) :: t
    | [] => [[b]] := by rw [cuts, if_neg h]
theorem cuts_ne (c : UInt8) : ∀ l : Tx, cuts c l ≠ []
  | [] => by simp [cuts]
  | b :: r => by
    unfold cuts
    split
    · simp
    · split <;> simp
theorem words_cuts : ∀ l : Tx, words l = cuts 32 l
  | [] => rfl
  | b :: r => by
    rw [words, cuts, words_cuts r]
    all_goals (split <;> first | rfl | (cases cuts 32 r <;> rfl))
def joinC (c : UInt8) : List Tx → Tx
  | [] => []
  | [a] => a
  | a :: b :: r => a ++ c :: joinC c (b :: r)
theorem joinC_cons (c : UInt8) (a : Tx) {L : List Tx} (h : L ≠ []) : joinC c (a :: L) = a ++ c :: joinC c L := by
  cases L with
  | nil => exact absurd rfl h
  | cons b r => rfl
theorem joinW_C : ∀ L : List Tx, joinW L = joinC 32 L
  | [] => rfl
  | [a] => rfl
  | a :: b :: r => by rw [joinW_cons a (by simp), joinC_cons 32 a (by simp), joinW_C (b :: r)]
theorem join_cuts (c : UInt8) : ∀ l : Tx, joinC c (cuts c l) = l
  | [] => rfl
  | b :: r => by
    have ih := join_cuts c r
    unfold cuts
    by_cases hb : b = c
    · rw [if_pos hb, joinC_cons c [] (cuts_ne c r), ih, hb]
      rfl
    · rw [if_neg hb]
      cases hw : cuts c r with
      | nil => exact absurd hw (cuts_ne c r)
      | cons h t =>
        rw [hw] at ih
        dsimp only
        cases t with
        | nil => rw [← ih]; rfl
        | cons d t =>
          rw [← ih]
          rfl
theorem cuts_clean (c : UInt8) : ∀ (l : Tx) (w : Tx), w ∈ cuts c l → c ∉ w
  | [], w, h => by
    simp [cuts] at h
    subst h
    simp
  | b :: r, w, h => by
    have ih := cuts_clean c r
    unfold cuts at h
    by_cases hb : b = c
    · rw [if_pos hb] at h
      rcases List.mem_cons.1 h with rfl | h
      · simp
      · exact ih w h
    · rw [if_neg hb] at h
      cases hw : cuts c r with
      | nil => exact absurd hw (cuts_ne c r)
      | cons x t =>
        rw [hw] at h ih
        dsimp only at h
        rcases List.mem_cons.1 h with rfl | h
        · have := ih x (by simp)
          simp only [List.mem_cons, not_or]
          exact ⟨fun e => hb e.symm, this⟩
        · exact ih w (by simp [h])
theorem cuts_app (c : UInt8) : ∀ (a : Tx) (r : Tx), c ∉ a → cuts c (a ++ c :: r) = a :: cuts c r
  | [], r, _ => cuts_bl c r
  | b :: a, r, h => by
    simp only [List.mem_cons, not_or] at h
    have ih := cuts_app c a r h.2
    show cuts c (b :: (a ++ c :: r)) = _
    rw [cuts_nb (fun e => h.1 e.symm), ih]
theorem cuts_one (c : UInt8) : ∀ (a : Tx), c ∉ a → cuts c a = [a]
  | [], _ => rfl
  | b :: a, h => by
    simp only [List.mem_cons, not_or] at h
    rw [cuts_nb (fun e => h.1 e.symm), cuts_one c a h.2]
theorem cuts_join (c : UInt8) : ∀ (L : List Tx), L ≠ [] → (∀ w ∈ L, c ∉ w) → cuts c (joinC c L) = L
  | [], h, _ => absurd rfl h
  | [a], _, h => cuts_one c a (h a (by simp))
  | a :: b :: r, _, h => by
    rw [joinC_cons c a (by simp), cuts_app c a _ (h a (by simp)), cuts_join c (b :: r) (by simp) (fun w hw => h w (by simp [hw]))]
theorem joinC_snoc (c : UInt8) : ∀ (L : List Tx) (x : Tx), L ≠ [] → joinC c (L ++ [x]) = joinC c L ++ c :: x
  | [], _, h => absurd rfl h
  | [a], x, _ => rfl
  | a :: b :: r, x, _ => by
    rw [List.cons_append, joinC_cons c a (by simp), joinC_snoc c (b :: r) x (by simp), joinC_cons c a (by simp), List.append_assoc]
    rfl
theorem cuts_two (c : UInt8) : ∀ (a r : Tx), cuts c (a ++ c :: r) = cuts c a ++ cuts c r
  | [], r => cuts_bl c r
  | b :: a, r => by
    have ih := cuts_two c a r
    by_cases hb : b = c
    · subst hb
      show cuts b (b :: (a ++ b :: r)) = cuts b (b :: a) ++ cuts b r
      rw [cuts_bl, cuts_bl, ih]
      rfl
    · show cuts c (b :: (a ++ c :: r)) = cuts c (b :: a) ++ cuts c r
      rw [cuts_nb hb, cuts_nb hb, ih]
      cases hw : cuts c a with
      | nil => exact absurd hw (cuts_ne c a)
      | cons h t => rfl
theorem joinC_len (c : UInt8) : ∀ (L : List Tx) (m : Nat), (∀ w ∈ L, w.length ≤ m) → (joinC c L).length ≤ L.length * (m + 1)
  | [], m, _ => by simp [joinC]
  | [a], m, h => by
    have := h a (by simp)
    simp [joinC]
    omega
  | a :: b :: r, m, h => by
    have h1 := h a (by simp)
    have h2 := joinC_len c (b :: r) m fun w hw => h w (by simp [hw])
    rw [joinC_cons c a (by simp), List.length_append, List.length_cons, List.length_cons (a := a), Nat.add_mul]
    omega
/-- What stands ahead of the first of a byte, and behind it. -/
def cutB (c : UInt8) : Tx → Option (Tx × Tx)
  | [] => none
  | b :: r => if b = c then some ([], r) else (cutB c r).map fun p => (b :: p.1, p.2)
theorem cut_B : ∀ l : Tx, cut l = cutB 61 l
  | [] => rfl
  | b :: r => by
    unfold cut cutB
    rw [cut_B r]
theorem cutB_at (c : UInt8) : ∀ (k v : Tx), c ∉ k → cutB c (k ++ c :: v) = some (k, v)
  | [], v, _ => by
    show cutB c (c :: v) = _
    unfold cutB
    rw [if_pos rfl]
  | b :: k, v, h => by
    simp only [List.mem_cons, not_or] at h
    show cutB c (b :: (k ++ c :: v)) = _
    unfold cutB
    rw [if_neg (fun e => h.1 e.symm), cutB_at c k v h.2]
    rfl

/-! ### slips -/
structure Slip where
  user : Tx
  nodes : Int
  wall : Int
  qos : Int
  after : List (Int × Bool)
  cap : Int
  inn : Int
  out : Int
  pool : Tx
  make : List Dir
  drop : List Tx
  use : List Tx
deriving DecidableEq
def Slip.zero : Slip := ⟨[], 0, 0, 0, [], 0, 0, 0, [], [], [], []⟩

def jobW : Tx := [106, 111, 98]
def userK : Tx := [117, 115, 101, 114]
def nodesK : Tx := [110, 111, 100, 101, 115]
def wallK : Tx := [119, 97, 108, 108]
def qosK : Tx := [113, 111, 115]
def afterK : Tx := [97, 102, 116, 101, 114]
def okW : Tx := [111, 107]
def anyW : Tx := [97, 110, 121]
/-- A number's text, within bounds. -/
def within? (s : Tx) (a b : Nat) : Option Nat := match num? s with
  | some n => if a ≤ n ∧ n ≤ b then some n else none
  | none => none
def dep? (p : Tx) : Option (Int × Bool) := match cutB 58 p with
  | some f => match within? f.2 1 1073741824 with
    | some n => if f.1 = okW ∨ f.1 = anyW then some ((n : Int), decide (f.1 = anyW)) else none
    | none => none
  | none => none
/-- A field of the first line. -/
def fput (x : Slip) (f : Fl) : Option Slip :=
  if f.1 = userK then some { x with user := f.2 }
  else if f.1 = nodesK then (within? f.2 1 64).map fun n => { x with nodes := (n : Int) }
  else if f.1 = wallK then (within? f.2 1 1048576).map fun n => { x with wall := (n : Int) }
  else if f.1 = qosK then (within? f.2 0 9).map fun n => { x with qos := (n : Int) }
  else if f.1 = afterK then ((cuts 44 f.2).mapM dep?).map fun l => { x with after := l }
  else none
def frun : Slip × List Tx → List Tx → Option (Slip × List Tx)
  | s, [] => some s
  | s, w :: ws => match cut w with
    | none => none
    | some f => if f.1 ∈ s.2 then none else match fput s.1 f with
      | none => none
      | some x => frun (x, s.2 ++ [f.1]) ws
def first? (l : Tx) : Option Slip := match cuts 32 l with
  | j :: ws => if j = jobW then match frun (Slip.zero, []) ws with
    | some s => if userK ∈ s.2 ∧ nodesK ∈ s.2 ∧ wallK ∈ s.2 then some s.1 else none
    | none => none
    else none
  | [] => none
/-- A line that must be a directive's. -/
def isD (l : Tx) : Bool := decide (l = bbW) || ([35, 66, 66, 32] : Tx).isPrefixOf l
def put (x : Slip) (d : Dir) : Slip :=
  if d.kind = 1 then { x with cap := d.size, pool := d.pool }
  else if d.kind = 2 then { x with inn := d.size }
  else if d.kind = 3 then { x with out := d.size }
  else if d.kind = 4 then { x with make := x.make ++ [d] }
  else if d.kind = 5 then { x with drop := x.drop ++ [d.name] }
  else if d.kind = 6 then { x with use := x.use ++ [d.name] }
  else x
/-- The lines behind the first one: the slip, or the first error and its line. -/
def lrun : Slip × List Nat → Nat → List Tx → Except (Int × Nat) (Slip × List Nat)
  | s, _, [] => .ok s
  | s, i, l :: r => if isD l = true then
      if lerr l ≠ 0 then .error (lerr l, i)
      else if (ldir l).kind ≤ 3 ∧ (ldir l).kind ∈ s.2 then .error (150, i)
      else lrun (put s.1 (ldir l), (ldir l).kind :: s.2) (i + 1) r
    else lrun s (i + 1) r
def nameL (l : List Tx) : Prop := l.length ≤ 4 ∧ l.Nodup ∧ ∀ n ∈ l, isName n = true
instance (l : List Tx) : Decidable (nameL l) := by unfold nameL; infer_instance
/-- May a slip be? -/
def chkS (x : Slip) : Bool := decide (isName x.user = true ∧ (1 ≤ x.nodes ∧ x.nodes ≤ 64) ∧ (1 ≤ x.wall ∧ x.wall ≤ 1048576) ∧ (0 ≤ x.qos ∧ x.qos ≤ 9)
  ∧ (x.after.length ≤ 8 ∧ (x.after.map (·.1)).Nodup ∧ ∀ d ∈ x.after, 1 ≤ d.1 ∧ d.1 ≤ 1073741824)
  ∧ (0 ≤ x.cap ∧ x.cap ≤ 1099511627776) ∧ (x.cap = 0 → x.pool = []) ∧ (x.cap ≠ 0 → isName x.pool = true)
  ∧ (0 ≤ x.inn ∧ x.inn ≤ x.cap) ∧ (0 ≤ x.out ∧ x.out ≤ x.cap)
  ∧ (∀ d ∈ x.make, d.kind = 4 ∧ chk d = true) ∧ nameL (x.make.map (·.name)) ∧ nameL x.drop ∧ nameL x.use ∧ ∀ d ∈ x.make, d.name ∉ x.use)
/-- What a text denotes: the slip, the error, its line. -/
def sread (s : Tx) : Slip × Int × Nat := if 10000 < s.length then (Slip.zero, 3, 0) else match cuts 10 s with
  | [] => (Slip.zero, 150, 1)
  | l :: r => match first? l with
    | none => (Slip.zero, 150, 1)
    | some x => match lrun (x, []) 2 r with
      | .error e => (Slip.zero, e.1, e.2)
      | .ok st => if chkS st.1 = true then (st.1, 0, 0) else (Slip.zero, 150, r.length + 1)
/-! ### the text -/
def depT (d : Int × Bool) : Tx := (if d.2 = true then anyW else okW) ++ 58 :: txt d.1
def fsS (x : Slip) : List Fl := [(userK, x.user), (nodesK, txt x.nodes), (wallK, txt x.wall)] ++ (if 0 < x.qos then [(qosK, txt x.qos)] else []) ++ (if x.after = [] then [] else [(afterK, joinC 44 (x.after.map depT))])
def line1 (x : Slip) : Tx := joinC 32 (jobW :: (fsS x).map wtx)
def dirsS (x : Slip) : List Dir := (if 0 < x.cap then [⟨1, [], x.pool, x.cap, false⟩] else []) ++ (if 0 < x.inn then [⟨2, [], [], x.inn, false⟩] else []) ++ (if 0 < x.out then [⟨3, [], [], x.out, false⟩] else [])
  ++ x.make ++ x.drop.map (fun n => ⟨5, n, [], 0, false⟩) ++ x.use.map (fun n => ⟨6, n, [], 0, false⟩)
def txtS (x : Slip) : Tx := joinC 10 (line1 x :: (dirsS x).map dtx)
end Go.Proofs.YtekcjfdllclphaaGreatDoor.sp
end
section
set_option linter.unusedVariables false
namespace Go.Proofs.YtekcjfdllclphaaGreatDoor.sp
open Go.Proofs.YtekcjfdllclphaaGreatDoor.un
open Go.Proofs.YtekcjfdllclphaaGreatDoor.di
open Go.Lib (decDigits)

theorem frun_cons {x : Slip} {seen : List Tx} {f : Fl} {ws : List Tx} (h : (61 : UInt8) ∉ f.1) : frun (x, seen) (wtx f :: ws) = if f.1 ∈ seen then none else match fput x f with
    | none => none
    | some y => frun (y, seen ++ [f.1]) ws := by
  rw [frun, cut_wtx h]
  all_goals rfl
theorem within_txt {n : Int} {a b : Nat} (h0 : (a : Int) ≤ n) (h1 : n ≤ b) (hb : b ≤ 1099511627776) : within? (txt n) a b = some n.toNat := by
  obtain ⟨m, rfl⟩ : ∃ m : Nat, n = (m : Int) := ⟨n.toNat, by omega⟩
  unfold within?
  rw [txt_in (show m ≤ top by unfold top; omega), num_dec (show m ≤ top by unfold top; omega)]
  dsimp only
  rw [if_pos ⟨by omega, by omega⟩]
  rfl
theorem toNat_back {n : Int} (h : 0 ≤ n) : ((n.toNat : Nat) : Int) = n := by omega
theorem fput_user (x : Slip) (v : Tx) : fput x (userK, v) = some { x with user := v } := rfl
theorem fput_nodes (x : Slip) {n : Int} (h0 : 1 ≤ n) (h1 : n ≤ 64) : fput x (nodesK, txt n) = some { x with nodes := n } := by
  unfold fput
  rw [if_neg (by first | decide | (dsimp only; decide)), if_pos rfl, within_txt (a := 1) (b := 64) h0 h1 (by decide)]
  show some { x with nodes := ((n.toNat : Nat) : Int) } = _
  rw [toNat_back (by omega)]
theorem fput_wall (x : Slip) {n : Int} (h0 : 1 ≤ n) (h1 : n ≤ 1048576) : fput x (wallK, txt n) = some { x with wall := n } := by
  unfold fput
  rw [if_neg (by first | decide | (dsimp only; decide)), if_neg (by first | decide | (dsimp only; decide)), if_pos rfl, within_txt (a := 1) (b := 1048576) h0 h1 (by decide)]
  show some { x with wall := ((n.toNat : Nat) : Int) } = _
  rw [toNat_back (by omega)]
theorem fput_qos (x : Slip) {n : Int} (h0 : 0 ≤ n) (h1 : n ≤ 9) : fput x (qosK, txt n) = some { x with qos := n } := by
  unfold fput
  rw [if_neg (by first | decide | (dsimp only; decide)), if_neg (by first | decide | (dsimp only; decide)), if_neg (by first | decide | (dsimp only; decide)), if_pos rfl, within_txt (a := 0) (b := 9) h0 h1 (by decide)]
  show some { x with qos := ((n.toNat : Nat) : Int) } = _
  rw [toNat_back (by omega)]
theorem dep_read {d : Int × Bool} (h0 : 1 ≤ d.1) (h1 : d.1 ≤ 1073741824) : dep? (depT d) = some d := by
  obtain ⟨n, b⟩ := d
  unfold dep? depT
  have hc : (58 : UInt8) ∉ (if b = true then anyW else okW) := by cases b <;> decide
  rw [cutB_at 58 _ _ hc]
  dsimp only
  rw [within_txt (a := 1) (b := 1073741824) h0 h1 (by decide)]
  dsimp only
  rw [if_pos (by cases b <;> decide), toNat_back (by simp at h0; omega)]
  cases b <;> rfl
theorem dec_no {n : Nat} {c : UInt8} (h : dig c = false) : c ∉ decDigits n := fun hm => by
  have := dec_dig n c hm
  rw [h] at this
  cases this
theorem txt_no {n : Int} {c : UInt8} (h : dig c = false) : c ∉ txt n := by
  unfold txt
  split
  · exact dec_no h
  · simp
theorem depT_no (d : Int × Bool) {c : UInt8} (h : dig c = false) (h1 : c ∉ anyW) (h2 : c ∉ okW) (h3 : c ≠ 58) : c ∉ depT d := by
  unfold depT
  intro hm
  rcases List.mem_append.1 hm with hm | hm
  · split at hm
    · exact h1 hm
    · exact h2 hm
  · rcases List.mem_cons.1 hm with e | hm
    · exact h3 e
    · exact txt_no h hm
theorem mapM_deps : ∀ (l : List (Int × Bool)), (∀ d ∈ l, 1 ≤ d.1 ∧ d.1 ≤ 1073741824) → (l.map depT).mapM dep? = some l
  | [], _ => rfl
  | d :: r, h => by
    have ih := mapM_deps r fun x hx => h x (by simp [hx])
    rw [List.map_cons, List.mapM_cons, dep_read (h d (by simp)).1 (h d (by simp)).2, ih]
    rfl
theorem fput_after (x : Slip) {l : List (Int × Bool)} (hl : l ≠ []) (h : ∀ d ∈ l, 1 ≤ d.1 ∧ d.1 ≤ 1073741824) : fput x (afterK, joinC 44 (l.map depT)) = some { x with after := l } := by
  unfold fput
  rw [if_neg (by first | decide | (dsimp only; decide)), if_neg (by first | decide | (dsimp only; decide)), if_neg (by first | decide | (dsimp only; decide)), if_neg (by first | decide | (dsimp only; decide)), if_pos rfl]
  dsimp only
  rw [cuts_join 44 _ (by simp [hl]) (fun w hw => by
    obtain ⟨d, _, rfl⟩ := List.mem_map.1 hw
    exact depT_no d (by decide) (by decide) (by decide) (by decide)), mapM_deps l h]
  rfl
/-- What a slip that may be has. -/
structure Ok (x : Slip) : Prop where
  user : isName x.user = true
  nodes : 1 ≤ x.nodes ∧ x.nodes ≤ 64
  wall : 1 ≤ x.wall ∧ x.wall ≤ 1048576
  qos : 0 ≤ x.qos ∧ x.qos ≤ 9
  after : x.after.length ≤ 8 ∧ (x.after.map (·.1)).Nodup ∧ ∀ d ∈ x.after, 1 ≤ d.1 ∧ d.1 ≤ 1073741824
  cap : 0 ≤ x.cap ∧ x.cap ≤ 1099511627776
  pool0 : x.cap = 0 → x.pool = []
  pool1 : x.cap ≠ 0 → isName x.pool = true
  inn : 0 ≤ x.inn ∧ x.inn ≤ x.cap
  out : 0 ≤ x.out ∧ x.out ≤ x.cap
  make : ∀ d ∈ x.make, d.kind = 4 ∧ chk d = true
  makeN : nameL (x.make.map (·.name))
  drop : nameL x.drop
  use : nameL x.use
  apart : ∀ d ∈ x.make, d.name ∉ x.use
theorem chkS_iff (x : Slip) : chkS x = true ↔ Ok x := by
  unfold chkS
  rw [decide_eq_true_eq]
  exact ⟨fun ⟨a, b, c, d, e, f, g, h, i, j, k, l, m, n, o⟩ => ⟨a, b, c, d, e, f, g, h, i, j, k, l, m, n, o⟩, fun ⟨a, b, c, d, e, f, g, h, i, j, k, l, m, n, o⟩ => ⟨a, b, c, d, e, f, g, h, i, j, k, l, m, n, o⟩⟩
/-- The first line's part of a slip. -/
def head1 (x : Slip) : Slip := { Slip.zero with user := x.user, nodes := x.nodes, wall := x.wall, qos := x.qos, after := x.after }
theorem plain_join {c : UInt8} (hc : c ≠ 32) (hc2 : c ≠ 10) : ∀ (L : List Tx), (∀ w ∈ L, plain w) → plain (joinC c L)
  | [], _ => ⟨by simp [joinC], by simp [joinC]⟩
  | [a], h => h a (by simp)
  | a :: b :: r, h => by
    rw [joinC_cons c a (by simp)]
    refine plain_app (h a (by simp)) ?_
    have ih := plain_join hc hc2 (b :: r) fun w hw => h w (by simp [hw])
    exact ⟨fun hm => (List.mem_cons.1 hm).elim (fun e => hc e.symm) ih.1, fun hm => (List.mem_cons.1 hm).elim (fun e => hc2 e.symm) ih.2⟩
theorem plain_dep (d : Int × Bool) : plain (depT d) := ⟨depT_no d (by decide) (by decide) (by decide) (by decide), depT_no d (by decide) (by decide) (by decide) (by decide)⟩
theorem fsS_mem {x : Slip} (h : Ok x) {f : Fl} (hf : f ∈ fsS x) : plain (wtx f) ∧ (61 : UInt8) ∉ f.1 := by
  have p61 : plain [61] := by unfold plain; decide
  have key : ∀ (a b : Tx), plain a → plain b → plain (wtx (a, b)) := fun a b ha hb => by
    show plain (a ++ ([61] ++ b))
    exact plain_app ha (plain_app p61 hb)
  unfold fsS at hf
  rcases List.mem_append.1 hf with hf | hf
  · rcases List.mem_append.1 hf with hf | hf
    · simp only [List.mem_cons, List.not_mem_nil, or_false] at hf
      rcases hf with rfl | rfl | rfl
      · exact ⟨key _ _ (by unfold plain; decide) (plain_name h.user), show (61 : UInt8) ∉ userK by decide⟩
      · exact ⟨key _ _ (by unfold plain; decide) (plain_txt _), show (61 : UInt8) ∉ nodesK by decide⟩
      · exact ⟨key _ _ (by unfold plain; decide) (plain_txt _), show (61 : UInt8) ∉ wallK by decide⟩
    · split at hf
      · simp only [List.mem_cons, List.not_mem_nil, or_false] at hf
        subst hf
        exact ⟨key _ _ (by unfold plain; decide) (plain_txt _), show (61 : UInt8) ∉ qosK by decide⟩
      · simp at hf
  · split at hf
    · simp at hf
    · simp only [List.mem_cons, List.not_mem_nil, or_false] at hf
      subst hf
      refine ⟨key _ _ (by unfold plain; decide) (plain_join (by decide) (by decide) _ fun w hw => ?_), show (61 : UInt8) ∉ afterK by decide⟩
      obtain ⟨d, _, rfl⟩ := List.mem_map.1 hw
      exact plain_dep d
theorem line1_cuts {x : Slip} (h : Ok x) : cuts 32 (line1 x) = jobW :: (fsS x).map wtx := by
  unfold line1
  refine cuts_join 32 _ (by simp) fun w hw => ?_
  rcases List.mem_cons.1 hw with rfl | hw
  · decide
  · obtain ⟨f, hf, rfl⟩ := List.mem_map.1 hw
    exact (fsS_mem h hf).1.1
theorem first_read {x : Slip} (h : Ok x) : first? (line1 x) = some (head1 x) := by
  have hr : ∃ seen, frun (Slip.zero, []) ((fsS x).map wtx) = some (head1 x, seen) ∧ userK ∈ seen ∧ nodesK ∈ seen ∧ wallK ∈ seen := by
    have hz : (fsS x).map wtx = wtx (userK, x.user) :: wtx (nodesK, txt x.nodes) :: wtx (wallK, txt x.wall) :: ((if 0 < x.qos then [(qosK, txt x.qos)] else []) ++ (if x.after = [] then [] else [(afterK, joinC 44 (x.after.map depT))])).map wtx := by
      unfold fsS
      rw [List.append_assoc, List.map_append]
      rfl
    rw [hz, frun_cons (show (61 : UInt8) ∉ userK by decide), if_neg (by simp), fput_user]
    dsimp only
    rw [frun_cons (show (61 : UInt8) ∉ nodesK by decide), if_neg (by first | decide | (dsimp only; decide)), fput_nodes _ h.nodes.1 h.nodes.2]
    dsimp only
    rw [frun_cons (show (61 : UInt8) ∉ wallK by decide), if_neg (by first | decide | (dsimp only; decide)), fput_wall _ h.wall.1 h.wall.2]
    dsimp only
    by_cases hq : 0 < x.qos
    · rw [if_pos hq]
      by_cases ha : x.after = []
      · rw [if_pos ha]
        show ∃ seen, frun _ [wtx (qosK, txt x.qos)] = _ ∧ _
        rw [frun_cons (show (61 : UInt8) ∉ qosK by decide), if_neg (by first | decide | (dsimp only; decide)), fput_qos _ h.qos.1 h.qos.2]
        exact ⟨[userK, nodesK, wallK, qosK], by unfold head1; rw [ha]; rfl, by decide⟩
      · rw [if_neg ha]
        show ∃ seen, frun _ [wtx (qosK, txt x.qos), wtx (afterK, joinC 44 (x.after.map depT))] = _ ∧ _
        rw [frun_cons (show (61 : UInt8) ∉ qosK by decide), if_neg (by first | decide | (dsimp only; decide)), fput_qos _ h.qos.1 h.qos.2]
        dsimp only
        rw [frun_cons (show (61 : UInt8) ∉ afterK by decide), if_neg (by first | decide | (dsimp only; decide)), fput_after _ ha h.after.2.2]
        exact ⟨[userK, nodesK, wallK, qosK, afterK], rfl, by decide⟩
    · rw [if_neg hq]
      have hq0 : x.qos = 0 := by have := h.qos.1; omega
      by_cases ha : x.after = []
      · rw [if_pos ha]
        exact ⟨[userK, nodesK, wallK], by unfold head1; rw [ha, hq0]; rfl, by decide⟩
      · rw [if_neg ha]
        show ∃ seen, frun _ [wtx (afterK, joinC 44 (x.after.map depT))] = _ ∧ _
        rw [frun_cons (show (61 : UInt8) ∉ afterK by decide), if_neg (by first | decide | (dsimp only; decide)), fput_after _ ha h.after.2.2]
        exact ⟨[userK, nodesK, wallK, afterK], by unfold head1; rw [hq0]; rfl, by decide⟩
  obtain ⟨seen, h1, h2⟩ := hr
  unfold first?
  rw [line1_cuts h]
  dsimp only
  rw [if_pos rfl, h1]
  dsimp only
  rw [if_pos h2]
end Go.Proofs.YtekcjfdllclphaaGreatDoor.sp
end
