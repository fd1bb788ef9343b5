/- The contract of the iterator lines$1. -/
import Derived.Test.YtekcjfdllclphaaGreatDoorMSlF
import Derived.Test.YtekcjfdllclphaaGreatDoorMUnM
import Derived.Shelf.Abstract
import Derived.IntWalk
import Derived.OwnWalkIn
import Derived.TacticsInMore
import Derived.LoopNIn
import Derived.Outline
import Derived.LoopIn
import Derived.Sort.CutIn
import Derived.Test.YtekcjfdllclphaaGreatDoorMSlCk
section
set_option linter.unusedVariables false
set_option linter.unusedSimpArgs false
set_option maxRecDepth 100000
namespace Go.Proofs.YtekcjfdllclphaaGreatDoor.gn
open Go.RowKit Go.Shelf
open Go.Proofs.YtekcjfdllclphaaGreatDoor.un
open Go.Proofs.YtekcjfdllclphaaGreatDoor.di
open Go.Proofs.YtekcjfdllclphaaGreatDoor.sp (Slip cuts cutB fldB fldB_len cuts_ne cuts_app cuts_one cutB_some cutB_mem)

attribute [local go_sem] Oper.semAt_some

/-- Lines with their numbers. -/
def numb : Nat → List Tx → List (Nat × Tx)
  | _, [] => []
  | i, l :: r => (i, l) :: numb (i + 1) r
theorem numb_len : ∀ (i : Nat) (L : List Tx), (numb i L).length = L.length
  | _, [] => rfl
  | i, l :: r => by simp [numb, numb_len (i + 1) r]
theorem numb_at : ∀ (i : Nat) (L : List Tx) (k : Nat), (numb i L)[k]? = (L[k]?).map fun l => (i + k, l)
  | _, [], k => by simp [numb]
  | i, l :: r, 0 => by simp [numb]
  | i, l :: r, k + 1 => by
    simp only [numb, List.getElem?_cons_succ]
    rw [numb_at (i + 1) r k]
    congr 1
    funext x
    rw [show i + 1 + k = i + (k + 1) by omega]
def encL (x : Nat × Tx) : Array Value := #[.int .i64 (x.1 : Nat), .string (str x.2)]
/-- Where the iterator stands. -/
def LnS (s : Tx) (k : Nat) (rest : Tx) (more : Bool) : Prop := if more = true then (cuts 10 s).drop k = cuts 10 rest ∧ rest.length ≤ s.length else k = (cuts 10 s).length
theorem cuts_way (rest : Tx) : cuts 10 rest = (fldB 10 rest).1 :: (if (cutB 10 rest).isSome = true then cuts 10 (fldB 10 rest).2 else []) := by
  unfold fldB
  cases hc : cutB 10 rest with
  | none => exact cuts_one 10 rest ((cutB_mem 10).1 hc)
  | some f =>
    obtain ⟨e, hn⟩ := cutB_some 10 rest f.1 f.2 hc
    simp only [Option.getD_some, Option.isSome_some, if_true]
    rw [e, cuts_app 10 f.1 f.2 hn]
theorem LnS.step {s : Tx} {k : Nat} {rest : Tx} (h : LnS s k rest true) : (cuts 10 s)[k]? = some (fldB 10 rest).1 ∧ k < (cuts 10 s).length ∧ LnS s (k + 1) (fldB 10 rest).2 (cutB 10 rest).isSome := by
  unfold LnS at h
  rw [if_pos rfl] at h
  obtain ⟨h, hl⟩ := h
  have hw := cuts_way rest
  rw [← h] at hw
  have hk : (cuts 10 s)[k]? = some (fldB 10 rest).1 := by
    have : ((cuts 10 s).drop k)[0]? = some (fldB 10 rest).1 := by rw [hw]; rfl
    rwa [List.getElem?_drop, Nat.add_zero] at this
  have hlt := (List.getElem?_eq_some_iff.1 hk).1
  have hd : (cuts 10 s).drop (k + 1) = if (cutB 10 rest).isSome = true then cuts 10 (fldB 10 rest).2 else [] := by
    rw [← List.drop_drop, hw]
    rfl
  refine ⟨hk, hlt, ?_⟩
  unfold LnS
  cases hc : (cutB 10 rest).isSome with
  | true =>
    rw [hc, if_pos rfl] at hd
    rw [if_pos rfl]
    exact ⟨hd, Nat.le_trans (fldB_len 10 rest).2 hl⟩
  | false =>
    rw [hc, if_neg (by decide)] at hd
    rw [if_neg (by decide)]
    have := congrArg List.length hd
    simp only [List.length_drop, List.length_nil] at this
    omega

set_option maxHeartbeats 4000000 in
theorem lines1_seq (n : Nat) (hn : 1 ≤ n) (s : Tx) (hs : s.length ≤ 100000) (lB : Nat) (w : World) (hB : Boxed w lB 9 (.string (str s))) :
    SeqP n Tryz.prog 106 #[.pointer (some ⟨lB, 0, none⟩)] encL (numb 1 (cuts 10 s)) LaidD w := by
  intro l0 J Jp W hW hok hJb hY h0
  have kB := (show Boxed W lB 9 (.string (str s)) from (hW.block lB (lt_of_block hB)).trans hB).cell
  have sB : lB < W.heap.size := Nat.lt_of_lt_of_le (lt_of_block hB) hW.size
  obtain ⟨N, hN⟩ : ∃ N, (cuts 10 s).length = N := ⟨_, rfl⟩
  have hNb := sp.cuts_len 10 s
  rw [hN] at hNb
  have HN := Lib.hid hN
  have HY := Lib.hid hY
  have HJ := Lib.hid hJb
  have HO := Lib.hid hok
  have H0 := Lib.hid h0
  have HS := Lib.hid hs
  have HL0 := Lib.hid (show LnS s 0 s true by unfold LnS; rw [if_pos rfl]; exact ⟨rfl, Nat.le_refl _⟩)
  have hN2 : N ≤ 100001 := by omega
  clear hY hJb hok h0 hB hW hN hNb hs
  refine callsIn_of_wp Tryz.func106 rfl trivial ?_ rfl
  simp only [Tryz.ntmps106, List.size_toArray, List.length_cons, List.length_nil, Nat.reduceAdd, Nat.reduceSub, Array.replicate_succ, Array.replicate_zero, List.push_toArray, List.append_toArray, List.nil_append, List.cons_append]
  gi_wp2_with fail
  gi_loopw [3, 4, 5] (fun s3 s4 s5 wr => ∃ (k : Nat) (rest : Tx) (more : Bool), s3 = .string (str rest) ∧ s4 = .bool more ∧ s5 = .int .i64 ((k : Int) + 1) ∧ k ≤ N ∧ Aside (LnS s k rest more) ∧ Aside (J k wr)) (fun _ _ s5 _ => N + 1 - (intOf s5).toNat)
  case atStart => exact ⟨0, s, true, rfl, rfl, rfl, Nat.zero_le _, HL0.out, H0.out⟩
  case round =>
    obtain ⟨k, rest, more, rfl, rfl, rfl, hk, hln, hj⟩ := hrel
    have HLN := Lib.hid (show LnS s k rest more from hln)
    have HJK := Lib.hid (show J k wr from hj)
    clear hln hj HL0 H0
    cases more with
    | true =>
      have hst := HLN.out.step
      have hrl : rest.length ≤ 100000 := by
        have := HLN.out
        unfold LnS at this
        rw [if_pos rfl] at this
        have := HS.out
        omega
      have HC := Lib.hid (cut_c 10 rest hrl wr (HO.out k wr HJK.out))
      have hkN : k < N := by have := hst.2.1; rw [HN.out] at this; exact this
      obtain ⟨line, hline⟩ : ∃ line, (fldB 10 rest).1 = line := ⟨_, rfl⟩
      obtain ⟨rest2, hrest2⟩ : ∃ r, (fldB 10 rest).2 = r := ⟨_, rfl⟩
      obtain ⟨more2, hmore2⟩ : ∃ m, (cutB 10 rest).isSome = m := ⟨_, rfl⟩
      rw [hline, hrest2, hmore2] at HC
      rw [hline, hrest2, hmore2] at hst
      have HX := Lib.hid (show (numb 1 (cuts 10 s))[k]? = some (1 + k, line) by rw [numb_at, hst.1]; rfl)
      have HST := Lib.hid hst.2.2
      have e1 : ((1 + k : Nat) : Int) = (k : Int) + 1 := by omega
      have HE := Lib.hid e1
      clear hst hrl hline hrest2 hmore2 e1
      gi_upto_region 6 with fail
      refine ⟨trivial, ?_⟩
      gi_at_call 16
      refine (callsIn_wide.2 HC.out).mono ?_
      rintro e w2 ⟨rfl, hb2⟩
      have HB2 := Lib.hid hb2
      clear hb2
      gi_upto_region 6 with fail
      obtain ⟨fn, tmps, assign, body, hy, hR⟩ := HY.out k (1 + k, line) w2 (HJ.out k wr w2 HJK.out HB2.out) HX.out
      unfold encL at hy
      dsimp only at hy
      rw [HE.out] at hy
      gi_wp2_with fail
      refine hR.mono ?_
      rintro e W4 (⟨rfl, hJ4⟩ | ⟨ch, rfl, hJp⟩)
      · have HJ4 := Lib.hid hJ4
        clear hR hy hJ4
        gi_wp2_with fail
        go_roundw
        case rel => exact ⟨k + 1, rest2, more2, rfl, rfl, by go_num, by omega, HST.out, HJ4.out⟩
        case measure => simp [intOf]; omega
      · clear hR hy
        exact ⟨rfl, .inr ⟨ch, rfl, hJp⟩⟩
    | false =>
      have hkN : k = N := by
        have := HLN.out
        unfold LnS at this
        rw [if_neg (by decide), HN.out] at this
        exact this
      have HL := Lib.hid (show (numb 1 (cuts 10 s)).length = k by rw [numb_len, HN.out, hkN])
      clear hkN
      gi_wp2_with fail
      go_end0
      exact .inl ⟨_, rfl, by rw [HL.out]; exact HJK.out⟩
end Go.Proofs.YtekcjfdllclphaaGreatDoor.gn
end
section
set_option linter.unusedVariables false
set_option linter.unusedSimpArgs false
set_option maxRecDepth 100000
namespace Go.Proofs.YtekcjfdllclphaaGreatDoor.sp
open Go.Proofs.YtekcjfdllclphaaGreatDoor.un
open Go.Proofs.YtekcjfdllclphaaGreatDoor.di

theorem pread_app : ∀ (a : List Tx) (x : Slip) (i : Nat) (b : List Tx), pread x i (a ++ b) = match pread x i a with
    | .ok y => pread y (i + a.length) b
    | .error e => .error e
  | [], x, i, b => rfl
  | l :: a, x, i, b => by
    have ih := fun y => pread_app a y (i + 1) b
    rw [List.cons_append, pread, pread]
    cases hp : pline x i l with
    | error e => rfl
    | ok y =>
      dsimp only
      rw [ih, List.length_cons, show i + 1 + a.length = i + (a.length + 1) by omega]
theorem pread_take {L : List Tx} {k : Nat} {l : Tx} {x : Slip} (hl : L[k]? = some l) (h : pread Slip.zero 1 (L.take k) = .ok x) : pread Slip.zero 1 (L.take (k + 1)) = pline x (k + 1) l := by
  have hk := (List.getElem?_eq_some_iff.1 hl).1
  rw [List.take_add_one, hl, pread_app, h]
  dsimp only
  rw [List.length_take, Nat.min_eq_left (Nat.le_of_lt hk), Nat.add_comm 1 k]
  show pread x (k + 1) [l] = _
  unfold pread
  cases pline x (k + 1) l with
  | error e => rfl
  | ok y => rfl
theorem pread_bad {L : List Tx} {k : Nat} {e : Int × Nat} (h : pread Slip.zero 1 (L.take k) = .error e) : pread Slip.zero 1 L = .error e := by
  rw [← List.take_append_drop k L, pread_app, h]
/-- Few more. -/
def Few (x : Slip) (k : Nat) : Prop := x.make.length ≤ k ∧ x.drop.length ≤ k ∧ x.use.length ≤ k
theorem frun_few : ∀ (ws : List Tx) (a st : Slip × List Tx), frun a ws = some st → st.1.make = a.1.make ∧ st.1.drop = a.1.drop ∧ st.1.use = a.1.use
  | [], a, st, h => by
    unfold frun at h
    cases h
    exact ⟨rfl, rfl, rfl⟩
  | w :: r, a, st, h => by
    unfold frun at h
    cases hcut : cut w with
    | none => rw [hcut] at h; cases h
    | some f =>
      rw [hcut] at h
      dsimp only at h
      split at h
      · cases h
      · cases hp : fput a.1 f with
        | none => rw [hp] at h; cases h
        | some y =>
          rw [hp] at h
          obtain ⟨i1, i2, i3⟩ := frun_few r _ st h
          rw [i1, i2, i3]
          unfold fput at hp
          split at hp
          · cases hp; exact ⟨rfl, rfl, rfl⟩
          split at hp
          · obtain ⟨n, _, rfl⟩ := Option.map_eq_some_iff.1 hp; exact ⟨rfl, rfl, rfl⟩
          split at hp
          · obtain ⟨n, _, rfl⟩ := Option.map_eq_some_iff.1 hp; exact ⟨rfl, rfl, rfl⟩
          split at hp
          · obtain ⟨n, _, rfl⟩ := Option.map_eq_some_iff.1 hp; exact ⟨rfl, rfl, rfl⟩
          split at hp
          · obtain ⟨n, _, rfl⟩ := Option.map_eq_some_iff.1 hp; exact ⟨rfl, rfl, rfl⟩
          · cases hp
theorem first_few {l : Tx} {x : Slip} (hf : first? l = some x) : Few x 0 := by
  unfold first? at hf
  cases hw : cuts 32 l with
  | nil => rw [hw] at hf; cases hf
  | cons j ws =>
    rw [hw] at hf
    dsimp only at hf
    split at hf
    · cases hr : frun (Slip.zero, []) ws with
      | none => rw [hr] at hf; cases hf
      | some st =>
        rw [hr] at hf
        dsimp only at hf
        obtain ⟨i1, i2, i3⟩ := frun_few ws _ st hr
        split at hf
        · cases hf
          unfold Few
          rw [i1, i2, i3]
          exact ⟨Nat.le_refl _, Nat.le_refl _, Nat.le_refl _⟩
        · cases hf
    · cases hf
theorem put_few (x : Slip) (d : Dir) {k : Nat} (h : Few x k) : Few (put x d) (k + 1) := by
  obtain ⟨a, b, c⟩ := h
  unfold put
  split
  · exact ⟨by show x.make.length ≤ _; omega, by show x.drop.length ≤ _; omega, by show x.use.length ≤ _; omega⟩
  split
  · exact ⟨by show x.make.length ≤ _; omega, by show x.drop.length ≤ _; omega, by show x.use.length ≤ _; omega⟩
  split
  · exact ⟨by show x.make.length ≤ _; omega, by show x.drop.length ≤ _; omega, by show x.use.length ≤ _; omega⟩
  split
  · exact ⟨by simp; omega, by show x.drop.length ≤ _; omega, by show x.use.length ≤ _; omega⟩
  split
  · exact ⟨by show x.make.length ≤ _; omega, by simp; omega, by show x.use.length ≤ _; omega⟩
  split
  · exact ⟨by show x.make.length ≤ _; omega, by show x.drop.length ≤ _; omega, by simp; omega⟩
  · exact ⟨by omega, by omega, by omega⟩
theorem pline_few {x y : Slip} {i k : Nat} {l : Tx} (h : pline x i l = .ok y) (hx : Few x k) : Few y (k + 1) := by
  have up : ∀ z : Slip, z.make = x.make → z.drop = x.drop → z.use = x.use → Few z (k + 1) := fun z h1 h2 h3 => by
    obtain ⟨a, b, c⟩ := hx
    unfold Few
    rw [h1, h2, h3]
    exact ⟨by omega, by omega, by omega⟩
  unfold pline at h
  split at h
  · cases hf : first? l with
    | none => rw [hf] at h; cases h
    | some z =>
      rw [hf] at h
      cases h
      obtain ⟨a, b, c⟩ := first_few hf
      exact ⟨by omega, by omega, by omega⟩
  split at h
  · split at h
    · cases h
    · cases hp : pput x (ldir l) with
      | none => rw [hp] at h; cases h
      | some z =>
        rw [hp] at h
        cases h
        unfold pput at hp
        split at hp
        · split at hp
          · cases hp; exact up _ rfl rfl rfl
          · cases hp
        split at hp
        · split at hp
          · cases hp; exact up _ rfl rfl rfl
          · cases hp
        split at hp
        · split at hp
          · cases hp; exact up _ rfl rfl rfl
          · cases hp
        · cases hp; exact put_few x _ hx
  · cases h
    exact up _ rfl rfl rfl
theorem pread_few : ∀ (L : List Tx) (x y : Slip) (i k : Nat), pread x i L = .ok y → Few x k → Few y (k + L.length)
  | [], x, y, i, k, h, hx => by unfold pread at h; cases h; exact hx
  | l :: L, x, y, i, k, h, hx => by
    rw [pread] at h
    cases hp : pline x i l with
    | error e => rw [hp] at h; cases h
    | ok z =>
      rw [hp] at h
      have := pread_few L z y (i + 1) (k + 1) h (pline_few hp hx)
      rw [List.length_cons, show k + (L.length + 1) = k + 1 + L.length by omega]
      exact this
end Go.Proofs.YtekcjfdllclphaaGreatDoor.sp
namespace Go.Proofs.YtekcjfdllclphaaGreatDoor.gn
open Go.RowKit Go.Shelf
open Go.Proofs.YtekcjfdllclphaaGreatDoor.un
open Go.Proofs.YtekcjfdllclphaaGreatDoor.di
open Go.Proofs.YtekcjfdllclphaaGreatDoor.sp (Slip cuts cutB isD first? pput pline pread chkS sread fldB fldB_len cuts_ne pread_take pread_bad pread_few Few cuts_mem_len cuts_len)

attribute [local go_sem] Oper.semAt_some

/-- How read stands ahead of line k (from 0 on): the result's box B0, the reader R, the pointer's box PB. -/
structure RdI (w : World) (L : List Tx) (B0 R PB : Nat) (k : Nat) (W : World) : Prop where
  st : ∃ x g, Rdr W R x (k : Int) g ∧ ¬ Mr R g PB ∧ pread Slip.zero 1 (L.take k) = .ok x
  p : BoxA W PB 105 #[.pointer (some ⟨R, 0, none⟩)]
  low : ∃ W0, Below w.heap.size w W0 ∧ Below R W0 W ∧ R ≤ W0.heap.size ∧ B0 < R ∧ w.heap.size ≤ B0 ∧ BoxA W0 B0 27 (scs Slip.zero ⟨.slice none 0 0, .slice none 0 0, .slice none 0 0, .slice none 0 0⟩)
  laid : LaidB R W
  pb : R < PB
theorem cells_ne {W : World} {l : Nat} {o o' : Obj} (h : W.heap[l]? = some o) (ho : o.isCells = false) {b : Nat} {u : Obj} (hb : W.heap[b]? = some u) (hu : u.isCells = true) : (W.putObj l o').heap[b]? = W.heap[b]? :=
  World.putObj_heap_other (fun e => by subst e; rw [h] at hb; cases hb; rw [ho] at hu; cases hu)
end Go.Proofs.YtekcjfdllclphaaGreatDoor.gn
end
