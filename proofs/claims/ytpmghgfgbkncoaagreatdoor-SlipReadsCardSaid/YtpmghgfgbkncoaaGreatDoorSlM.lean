/- Slips, plain: a text between any byte, the first line's fields, the lines, what a text denotes, by the document. (Written ahead of the code.) -/
import Derived.Test.YtpmghgfgbkncoaaGreatDoorDiQ
set_option linter.unusedVariables false
namespace Go.Proofs.YtpmghgfgbkncoaaGreatDoor.sp
open Go.Proofs.YtpmghgfgbkncoaaGreatDoor.un
open Go.Proofs.YtpmghgfgbkncoaaGreatDoor.di

/-! ### a text, between a byte -/
def cuts (c : UInt8) : Tx → List Tx
  | [] => [[]]
  | b :: r => if b = c then [] :: cuts c r else match cuts c r with
    | h :: t => (b :: h) :: t
    | [] => [[b]]
theorem cuts_bl (c : UInt8) (r : Tx) : cuts c (c :: r) = [] :: cuts c r := by rw [cuts, if_pos rfl]
theorem cuts_nb {c b : UInt8} (h : b ≠ c) (r : Tx) : cuts c (b :: r) = match cuts c r with
    | h :: t => (b :: h) :: t
    | [] => [[b]] := by rw [cuts, if_neg h]
theorem cuts_ne (c : UInt8) : ∀ l : Tx, cuts c l ≠ []
  | [] => by simp [cuts]
  | b :: r => by
    unfold cuts
    split
    · simp
    · split <;> simp
theorem words_cuts : ∀ l : Tx, words l = cuts 32 l
  | [] => rfl
  | b :: r => by
    rw [words, cuts, words_cuts r]
    all_goals (split <;> first | rfl | (cases cuts 32 r <;> rfl))
def joinC (c : UInt8) : List Tx → Tx
  | [] => []
  | [a] => a
  | a :: b :: r => a ++ c :: joinC c (b :: r)
theorem joinC_cons (c : UInt8) (a : Tx) {L : List Tx} (h : L ≠ []) : joinC c (a :: L) = a ++ c :: joinC c L := by
  cases L with
  | nil => exact absurd rfl h
  | cons b r => rfl
theorem joinW_C : ∀ L : List Tx, joinW L = joinC 32 L
  | [] => rfl
  | [a] => rfl
  | a :: b :: r => by rw [joinW_cons a (by simp), joinC_cons 32 a (by simp), joinW_C (b :: r)]
theorem join_cuts (c : UInt8) : ∀ l : Tx, joinC c (cuts c l) = l
  | [] => rfl
  | b :: r => by
    have ih := join_cuts c r
    unfold cuts
    by_cases hb : b = c
    · rw [if_pos hb, joinC_cons c [] (cuts_ne c r), ih, hb]
      rfl
    · rw [if_neg hb]
      cases hw : cuts c r with
      | nil => exact absurd hw (cuts_ne c r)
      | cons h t =>
        rw [hw] at ih
        dsimp only
        cases t with
        | nil => rw [← ih]; rfl
        | cons d t =>
          rw [← ih]
          rfl
theorem cuts_clean (c : UInt8) : ∀ (l : Tx) (w : Tx), w ∈ cuts c l → c ∉ w
  | [], w, h => by
    simp [cuts] at h
    subst h
    simp
  | b :: r, w, h => by
    have ih := cuts_clean c r
    unfold cuts at h
    by_cases hb : b = c
    · rw [if_pos hb] at h
      rcases List.mem_cons.1 h with rfl | h
      · simp
      · exact ih w h
    · rw [if_neg hb] at h
      cases hw : cuts c r with
      | nil => exact absurd hw (cuts_ne c r)
      | cons x t =>
        rw [hw] at h ih
        dsimp only at h
        rcases List.mem_cons.1 h with rfl | h
        · have := ih x (by simp)
          simp only [List.mem_cons, not_or]
          exact ⟨fun e => hb e.symm, this⟩
        · exact ih w (by simp [h])
theorem cuts_app (c : UInt8) : ∀ (a : Tx) (r : Tx), c ∉ a → cuts c (a ++ c :: r) = a :: cuts c r
  | [], r, _ => cuts_bl c r
  | b :: a, r, h => by
    simp only [List.mem_cons, not_or] at h
    have ih := cuts_app c a r h.2
    show cuts c (b :: (a ++ c :: r)) = _
    rw [cuts_nb (fun e => h.1 e.symm), ih]
theorem cuts_one (c : UInt8) : ∀ (a : Tx), c ∉ a → cuts c a = [a]
  | [], _ => rfl
  | b :: a, h => by
    simp only [List.mem_cons, not_or] at h
    rw [cuts_nb (fun e => h.1 e.symm), cuts_one c a h.2]
theorem cuts_join (c : UInt8) : ∀ (L : List Tx), L ≠ [] → (∀ w ∈ L, c ∉ w) → cuts c (joinC c L) = L
  | [], h, _ => absurd rfl h
  | [a], _, h => cuts_one c a (h a (by simp))
  | a :: b :: r, _, h => by
    rw [joinC_cons c a (by simp), cuts_app c a _ (h a (by simp)), cuts_join c (b :: r) (by simp) (fun w hw => h w (by simp [hw]))]
theorem joinC_snoc (c : UInt8) : ∀ (L : List Tx) (x : Tx), L ≠ [] → joinC c (L ++ [x]) = joinC c L ++ c :: x
  | [], _, h => absurd rfl h
  | [a], x, _ => rfl
  | a :: b :: r, x, _ => by
    rw [List.cons_append, joinC_cons c a (by simp), joinC_snoc c (b :: r) x (by simp), joinC_cons c a (by simp), List.append_assoc]
    rfl
theorem cuts_two (c : UInt8) : ∀ (a r : Tx), cuts c (a ++ c :: r) = cuts c a ++ cuts c r
  | [], r => cuts_bl c r
  | b :: a, r => by
    have ih := cuts_two c a r
    by_cases hb : b = c
    · subst hb
      show cuts b (b :: (a ++ b :: r)) = cuts b (b :: a) ++ cuts b r
      rw [cuts_bl, cuts_bl, ih]
      rfl
    · show cuts c (b :: (a ++ c :: r)) = cuts c (b :: a) ++ cuts c r
      rw [cuts_nb hb, cuts_nb hb, ih]
      cases hw : cuts c a with
      | nil => exact absurd hw (cuts_ne c a)
      | cons h t => rfl
theorem joinC_len (c : UInt8) : ∀ (L : List Tx) (m : Nat), (∀ w ∈ L, w.length ≤ m) → (joinC c L).length ≤ L.length * (m + 1)
  | [], m, _ => by simp [joinC]
  | [a], m, h => by
    have := h a (by simp)
    simp [joinC]
    omega
  | a :: b :: r, m, h => by
    have h1 := h a (by simp)
    have h2 := joinC_len c (b :: r) m fun w hw => h w (by simp [hw])
    rw [joinC_cons c a (by simp), List.length_append, List.length_cons, List.length_cons (a := a), Nat.add_mul]
    omega
/-- What stands ahead of the first of a byte, and behind it. -/
def cutB (c : UInt8) : Tx → Option (Tx × Tx)
  | [] => none
  | b :: r => if b = c then some ([], r) else (cutB c r).map fun p => (b :: p.1, p.2)
theorem cut_B : ∀ l : Tx, cut l = cutB 61 l
  | [] => rfl
  | b :: r => by
    unfold cut cutB
    rw [cut_B r]
theorem cutB_at (c : UInt8) : ∀ (k v : Tx), c ∉ k → cutB c (k ++ c :: v) = some (k, v)
  | [], v, _ => by
    show cutB c (c :: v) = _
    unfold cutB
    rw [if_pos rfl]
  | b :: k, v, h => by
    simp only [List.mem_cons, not_or] at h
    show cutB c (b :: (k ++ c :: v)) = _
    unfold cutB
    rw [if_neg (fun e => h.1 e.symm), cutB_at c k v h.2]
    rfl

/-! ### slips -/
structure Slip where
  user : Tx
  nodes : Int
  wall : Int
  qos : Int
  after : List (Int × Bool)
  cap : Int
  inn : Int
  out : Int
  pool : Tx
  make : List Dir
  drop : List Tx
  use : List Tx
deriving DecidableEq
def Slip.zero : Slip := ⟨[], 0, 0, 0, [], 0, 0, 0, [], [], [], []⟩

def jobW : Tx := [106, 111, 98]
def userK : Tx := [117, 115, 101, 114]
def nodesK : Tx := [110, 111, 100, 101, 115]
def wallK : Tx := [119, 97, 108, 108]
def qosK : Tx := [113, 111, 115]
def afterK : Tx := [97, 102, 116, 101, 114]
def okW : Tx := [111, 107]
def anyW : Tx := [97, 110, 121]
/-- A number's text, within bounds. -/
def within? (s : Tx) (a b : Nat) : Option Nat := match num? s with
  | some n => if a ≤ n ∧ n ≤ b then some n else none
  | none => none
def dep? (p : Tx) : Option (Int × Bool) := match cutB 58 p with
  | some f => match within? f.2 1 1073741824 with
    | some n => if f.1 = okW ∨ f.1 = anyW then some ((n : Int), decide (f.1 = anyW)) else none
    | none => none
  | none => none
/-- A field of the first line. -/
def fput (x : Slip) (f : Fl) : Option Slip :=
  if f.1 = userK then some { x with user := f.2 }
  else if f.1 = nodesK then (within? f.2 1 64).map fun n => { x with nodes := (n : Int) }
  else if f.1 = wallK then (within? f.2 1 1048576).map fun n => { x with wall := (n : Int) }
  else if f.1 = qosK then (within? f.2 0 9).map fun n => { x with qos := (n : Int) }
  else if f.1 = afterK then ((cuts 44 f.2).mapM dep?).map fun l => { x with after := l }
  else none
def frun : Slip × List Tx → List Tx → Option (Slip × List Tx)
  | s, [] => some s
  | s, w :: ws => match cut w with
    | none => none
    | some f => if f.1 ∈ s.2 then none else match fput s.1 f with
      | none => none
      | some x => frun (x, s.2 ++ [f.1]) ws
def first? (l : Tx) : Option Slip := match cuts 32 l with
  | j :: ws => if j = jobW then match frun (Slip.zero, []) ws with
    | some s => if userK ∈ s.2 ∧ nodesK ∈ s.2 ∧ wallK ∈ s.2 then some s.1 else none
    | none => none
    else none
  | [] => none
/-- A line that must be a directive's. -/
def isD (l : Tx) : Bool := decide (l = bbW) || ([35, 66, 66, 32] : Tx).isPrefixOf l
def put (x : Slip) (d : Dir) : Slip :=
  if d.kind = 1 then { x with cap := d.size, pool := d.pool }
  else if d.kind = 2 then { x with inn := d.size }
  else if d.kind = 3 then { x with out := d.size }
  else if d.kind = 4 then { x with make := x.make ++ [d] }
  else if d.kind = 5 then { x with drop := x.drop ++ [d.name] }
  else if d.kind = 6 then { x with use := x.use ++ [d.name] }
  else x
/-- The lines behind the first one: the slip, or the first error and its line. -/
def lrun : Slip × List Nat → Nat → List Tx → Except (Int × Nat) (Slip × List Nat)
  | s, _, [] => .ok s
  | s, i, l :: r => if isD l = true then
      if lerr l ≠ 0 then .error (lerr l, i)
      else if (ldir l).kind ≤ 3 ∧ (ldir l).kind ∈ s.2 then .error (150, i)
      else lrun (put s.1 (ldir l), (ldir l).kind :: s.2) (i + 1) r
    else lrun s (i + 1) r
def nameL (l : List Tx) : Prop := l.length ≤ 4 ∧ l.Nodup ∧ ∀ n ∈ l, isName n = true
instance (l : List Tx) : Decidable (nameL l) := by unfold nameL; infer_instance
/-- May a slip be? -/
def chkS (x : Slip) : Bool := decide (isName x.user = true ∧ (1 ≤ x.nodes ∧ x.nodes ≤ 64) ∧ (1 ≤ x.wall ∧ x.wall ≤ 1048576) ∧ (0 ≤ x.qos ∧ x.qos ≤ 9)
  ∧ (x.after.length ≤ 8 ∧ (x.after.map (·.1)).Nodup ∧ ∀ d ∈ x.after, 1 ≤ d.1 ∧ d.1 ≤ 1073741824)
  ∧ (0 ≤ x.cap ∧ x.cap ≤ 1099511627776) ∧ (x.cap = 0 → x.pool = []) ∧ (x.cap ≠ 0 → isName x.pool = true)
  ∧ (0 ≤ x.inn ∧ x.inn ≤ x.cap) ∧ (0 ≤ x.out ∧ x.out ≤ x.cap)
  ∧ (∀ d ∈ x.make, d.kind = 4 ∧ chk d = true) ∧ nameL (x.make.map (·.name)) ∧ nameL x.drop ∧ nameL x.use ∧ ∀ d ∈ x.make, d.name ∉ x.use)
/-- What a text denotes: the slip, the error, its line. -/
def sread (s : Tx) : Slip × Int × Nat := if 10000 < s.length then (Slip.zero, 3, 0) else match cuts 10 s with
  | [] => (Slip.zero, 150, 1)
  | l :: r => match first? l with
    | none => (Slip.zero, 150, 1)
    | some x => match lrun (x, []) 2 r with
      | .error e => (Slip.zero, e.1, e.2)
      | .ok st => if chkS st.1 = true then (st.1, 0, 0) else (Slip.zero, 150, r.length + 1)
/-! ### the text -/
def depT (d : Int × Bool) : Tx := (if d.2 = true then anyW else okW) ++ 58 :: txt d.1
def fsS (x : Slip) : List Fl := [(userK, x.user), (nodesK, txt x.nodes), (wallK, txt x.wall)] ++ (if 0 < x.qos then [(qosK, txt x.qos)] else []) ++ (if x.after = [] then [] else [(afterK, joinC 44 (x.after.map depT))])
def line1 (x : Slip) : Tx := joinC 32 (jobW :: (fsS x).map wtx)
def dirsS (x : Slip) : List Dir := (if 0 < x.cap then [⟨1, [], x.pool, x.cap, false⟩] else []) ++ (if 0 < x.inn then [⟨2, [], [], x.inn, false⟩] else []) ++ (if 0 < x.out then [⟨3, [], [], x.out, false⟩] else [])
  ++ x.make ++ x.drop.map (fun n => ⟨5, n, [], 0, false⟩) ++ x.use.map (fun n => ⟨6, n, [], 0, false⟩)
def txtS (x : Slip) : Tx := joinC 10 (line1 x :: (dirsS x).map dtx)
end Go.Proofs.YtpmghgfgbkncoaaGreatDoor.sp
