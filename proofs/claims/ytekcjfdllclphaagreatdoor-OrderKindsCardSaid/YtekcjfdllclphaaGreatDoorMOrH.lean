/- The contract of fields: a range over a string of letters, each a closure out of a map. -/
import Derived.Test.YtekcjfdllclphaaGreatDoorMOrI
import Derived.Test.YtekcjfdllclphaaGreatDoorMSlJ
import Derived.Test.YtekcjfdllclphaaGreatDoorMSlPa
import Derived.Shelf.Abstract
import Derived.Deep.LoopGhost
import Derived.Test.YtekcjfdllclphaaGreatDoorMSlK
import Derived.Test.YtekcjfdllclphaaGreatDoorMOrM
section
set_option linter.unusedVariables false
set_option linter.unusedSimpArgs false
namespace Go.Proofs.YtekcjfdllclphaaGreatDoor.gn
open Go.RowKit
open Go.Proofs.YtekcjfdllclphaaGreatDoor.un
open Go.Proofs.YtekcjfdllclphaaGreatDoor.di
open Go.Proofs.YtekcjfdllclphaaGreatDoor.sp (Slip within? okW jobW userK)
open Go.Proofs.YtekcjfdllclphaaGreatDoor.od (Ord okO stO numV sizV resK badW nK lo hi fsO keysO wordO)

/-- An append of one to an own row in plain mode, that says which block it names. -/
theorem wpl_own3 {t e : TypeId} {z : Value} {size bytes : Nat} (E : EltI t e z size bytes) {w : World} {ops : Array Oper} {rest : List Oper} {o : Oper} {a : Act} {Q : Exit → Act → World → Prop} (hgd : o.guard = none) (s x : Operand)
    (ho : o.op = .call { callee := .builtin .append, args := #[s, x], argTypes := #[t, t] })
    {base n : Nat} {v : Value} {cs : List Value} (hs : a.eval s = v) (hown : w.ownsRow base e size v n cs) (ad : Addr) (ds : List Value) (hx : a.eval x = .slice (some ad) 1 1) (hc : ∀ j u, ds[j]? = some u → w.cell? (ad.add j) = some u) (hd : ds.length = size)
    (h1 : ∀ u ∈ ds, u.oneCell' = true) (hlen : n ≤ 1000000) (hby : bytes ≤ 100) (hb : base ≤ w.heap.size)
    (hK : ∀ g c w', w'.ownsRow base e size (.slice (some ⟨g, 0, none⟩) (n + 1) c) (n + 1) (cs ++ ds) → w.grownBy w' v.ownBlock → wpList Tryz.prog ops Q rest (a.put o.dst (.slice (some ⟨g, 0, none⟩) (n + 1) c)) w') :
    wpList Tryz.prog ops Q (o :: rest) a w := by
  refine wpList_plain hgd fun K hK2 => ?_
  obtain ⟨v', w', hrun, r1, r2, r4⟩ := run_own E o.type hown hc (by rw [hd, Nat.one_mul]) h1 (show n + 1 ≤ maxLen by unfold maxLen; omega) (by have : (n + 1) * bytes ≤ 1000001 * 100 := Nat.mul_le_mul (by omega) hby; omega) hb (show 0 < 1 by decide) (c := 1)
  have hform : ∃ g c, v' = .slice (some ⟨g, 0, none⟩) (n + 1) c := by
    rcases r1.2 with ⟨_, h0⟩ | ⟨g, cap, cur, e, _⟩
    · omega
    · exact ⟨_, _, e⟩
  obtain ⟨g, c, rfl⟩ := hform
  unfold Oper.wp
  simp [execOp, ho, resolve, invoke, builtin, hs, hx, hrun, Result.andThen]
  exact hK2 _ _ (hK g c w' r1 r2)
theorem own_base2 {B B' : Nat} {e : TypeId} {size : Nat} {w : World} {v : Value} {n : Nat} {cs : List Value} (h : w.ownsRow B e size v n cs) (hb : B' ≤ B) : w.ownsRow B' e size v n cs := by
  refine ⟨h.1, ?_⟩
  rcases h.2 with h2 | ⟨g, cap, cur, e, hg, r⟩
  · exact .inl h2
  · exact .inr ⟨g, cap, cur, e, Nat.le_trans hb hg, r⟩

/-- A field as a value. -/
structure FE where
  key : Tx
  text : Tx
  fn : FuncId
  cp : Array Value
def cF (f : FE) : List Value := [.string (str f.key), .string (str f.text), .func (.func f.fn) #[] f.cp]
def flF (L : List FE) : List Value := L.flatMap cF
theorem flF_app (a b : List FE) : flF (a ++ b) = flF a ++ flF b := List.flatMap_append
theorem eltF : EltI 63 67 (.agg #[.string ⟨#[]⟩, .string ⟨#[]⟩, .nilFunc]) 3 40 := elt_of Tryz.underlying63 (by kernel_rfl) rfl (by decide)
theorem cF_one (f : FE) : ∀ u ∈ cF f, u.oneCell' = true := fun u hu => by
  simp only [cF, List.mem_cons, List.not_mem_nil, or_false] at hu
  rcases hu with rfl | rfl | rfl <;> rfl
/-- The fields of an order, as values. -/
structure FlS (w : World) (bo k : Nat) (g : Gh) (fs : List (Tx × Tx)) (L : List FE) : Prop where
  map : L.map (fun f => (f.key, f.text)) = fs
  sto : ∀ f ∈ L, StoP w bo k g f.key f.fn f.cp
def FieldsT (bo : Nat) (o : Ord) (g : Gh) (w : World) (e : Ending) (w' : World) : Prop :=
  ∃ v L, e = .returned v ∧ FlS w' bo o.kind g (fsO o) L ∧ w'.ownsRow w.heap.size 67 3 v L.length (flF L) ∧ Below w.heap.size w w'
/-- How the fields stand behind i letters. -/
structure OFI (w3 : World) (I bo : Nat) (o : Ord) (g : Gh) (l : Tx) (i : Nat) (v : Value) (L : List FE) (W : World) : Prop where
  it : W.heap[I]? = some (.stringIter (str l) i)
  fl : FlS W bo o.kind g ((l.take i).map (letF o)) L
  len : L.length = i
  own : W.ownsRow (I + 1) 67 3 v i (flF L)
  low : Below I w3 W
/-- A round. -/
theorem OFI.step {w3 wr w5 w6 w7 : World} {I bo : Nat} {o : Ord} {g : Gh} {l : Tx} {i : Nat} {v v' : Value} {L : List FE} (h : OFI w3 I bo o g l i v L wr) {c : UInt8} (hc : l[i]? = some c) {fn : FuncId} {cp : Array Value} (hI : I ≤ w3.heap.size)
    (h5 : Below (wr.iterAt I (str l) (i + 1)).heap.size (wr.iterAt I (str l) (i + 1)) w5) (hs : StoP w5 bo o.kind g (letK c.toNat) fn cp) (h6 : Below w5.heap.size w5 w6) (h7 : w6.grownBy w7 v.ownBlock)
    (ho : w7.ownsRow (I + 1) 67 3 v' (i + 1) (flF L ++ cF ⟨letK c.toNat, letX o c.toNat, fn, cp⟩)) : OFI w3 I bo o g l (i + 1) v' (L ++ [⟨letK c.toNat, letX o c.toNat, fn, cp⟩]) w7 := by
  have hsz := Lib.iterAt_size wr I (str l) (i + 1)
  have hIr : I < wr.heap.size := (Array.getElem?_eq_some_iff.1 h.it).1
  have hob : ∀ b, v.ownBlock = some b → I + 1 ≤ b ∧ b < wr.heap.size ∧ ∃ cur, wr.heap[b]? = some (.cells cur 67 (0, 0)) := fun b hb => ⟨(World.ownsRow.lt h.own b hb).1, (World.ownsRow.lt h.own b hb).2, own_cells h.own hb⟩
  have k1 : ∀ b, b < wr.heap.size → b ≠ I → w6.heap[b]? = wr.heap[b]? := fun b hb hn => ((h6.block b (by have := h5.size; omega)).trans (h5.block b (by omega))).trans (Lib.iterAt_other wr I b (str l) (i + 1) hn)
  have k2 : ∀ b cs t, b < w6.heap.size → w6.heap[b]? = some (.cells cs t (0, 0)) → t ≠ 67 → w7.heap[b]? = w6.heap[b]? := fun b cs t hb he ht => h7.block b hb fun e => by
    obtain ⟨a1, a2, cur, a3⟩ := hob b e.symm
    have := k1 b a2 (by omega)
    rw [he, a3] at this
    simp only [Option.some.injEq, Obj.cells.injEq] at this
    exact ht this.2.1
  have hsz6 : wr.heap.size ≤ w6.heap.size := by have := h5.size; have := h6.size; omega
  refine ⟨?_, ⟨?_, fun f hf => ?_⟩, ?_, ?_, ?_⟩
  · have e1 : w6.heap[I]? = some (.stringIter (str l) (i + 1)) := by
      rw [h6.block I (by have := h5.size; omega), h5.block I (by omega)]
      exact Lib.iterAt_heap wr I (str l) i (i + 1) h.it
    rw [h7.block I (by omega) (fun e => by have := (hob I e.symm).1; omega)]
    exact e1
  · rw [List.take_add_one, hc, List.map_append, List.map_append, h.fl.map]
    rfl
  · rcases List.mem_append.1 hf with hf | hf
    · exact (h.fl.sto f hf).kept fun b cs t hb _ he ht => by
        have hn : b ≠ I := fun e => by rw [e, h.it] at he; cases he
        have e6 := k1 b hb hn
        rw [k2 b cs t (by omega) (e6.trans he) ht, e6]
    · simp only [List.mem_singleton] at hf
      subst hf
      exact hs.kept fun b cs t hb _ he ht => by
        have e6 := h6.block b hb
        rw [k2 b cs t (Nat.lt_of_lt_of_le hb h6.size) (e6.trans he) ht, e6]
  · rw [List.length_append, h.len]; rfl
  · rw [flF_app]
    have : flF [⟨letK c.toNat, letX o c.toNat, fn, cp⟩] = cF ⟨letK c.toNat, letX o c.toNat, fn, cp⟩ := by simp [flF]
    rw [this]
    exact ho
  · have l1 : Below I w3 (wr.iterAt I (str l) (i + 1)) := Lib.below_iterAt h.low (Nat.le_refl _) _ _
    have l2 := (l1.trans (h5.mono (by omega))).trans (h6.mono (by have := h5.size; omega))
    exact l2.grown h7 (by omega) fun b hb => by have := (hob b hb).1; omega
theorem lett_ascii {k : Nat} {c : UInt8} (h : c ∈ lettersO k) : c.toNat < 128 := by
  rcases let_cases h with ⟨rfl, _⟩ | ⟨rfl, _⟩ | ⟨rfl, _⟩ | rfl | rfl | rfl | rfl | rfl | rfl | rfl <;> decide
theorem lett_len (k : Nat) : (lettersO k).length ≤ 5 := by
  by_cases hk : 1 ≤ k ∧ k ≤ 18
  · rcases od.eighteen hk with rfl | rfl | rfl | rfl | rfl | rfl | rfl | rfl | rfl | rfl | rfl | rfl | rfl | rfl | rfl | rfl | rfl | rfl <;> decide
  · rw [(no_word hk).2]; decide

set_option maxRecDepth 100000 in
set_option maxHeartbeats 8000000 in
theorem ofields_any (bo : Nat) (o : Ord) (g : Gh) (w : World) (ho : OrdB w bo o g) (hw : OW o) (hL : LaidU w) : Calls Tryz.prog 29 #[.pointer (some ⟨bo, 0, none⟩)] w (FieldsT bo o g w) := by
  have HO := Lib.hid ho
  have HOW := Lib.hid hw
  have HL := Lib.hid hL
  have hlt := ho.lt
  have c0 : w.cell? ⟨bo, 0, none⟩ = some (.int .u8 (o.kind : Nat)) := BoxA.cell ho 0 _
  have HF := Lib.hid (ofind_any o.kind hw.kind w)
  obtain ⟨l, hl⟩ : ∃ l, lettersO o.kind = l := ⟨_, rfl⟩
  have HLL := Lib.hid hl
  have hll : l.length ≤ 5 := by rw [← hl]; exact lett_len _
  have HAS := Lib.hid (fun (c : UInt8) (hc : c ∈ l) => lett_ascii (k := o.kind) (by rw [hl]; exact hc))
  unfold FindO rowV2 at HF
  rw [hl] at HF
  clear ho hw hL hl
  go_enter Tryz.func29, Tryz.ntmps29
  go_upto_region 2 with (first
    | (go_at_call 28; ((with_reducible refine HF.out.mono ?_); rintro e w1 ⟨rfl, hb⟩); have HB := Lib.hid hb; clear hb)
    | (refine wpList_store_row rfl _ _ _ rfl w1.heap.size #[.string (str (wordO o.kind)), .string (str l)] rfl rfl _ _ (BoxA.new w1 _ _) (by kernel_rfl) rfl (by kernel_rfl) ?_))
  obtain ⟨w2, hw2, hb2, hl2⟩ : ∃ W, (w1.alloc (.cells #[.string { data := #[] }, .string { data := #[] }] 60)).setRow w1.heap.size #[.string (str (wordO o.kind)), .string (str l)] = W ∧ BoxA W w1.heap.size 60 #[.string (str (wordO o.kind)), .string (str l)] ∧ Below w1.heap.size w1 W :=
    ⟨_, rfl, setRow_heap _ _ _ _ _ _ (BoxA.new w1 _ _), below_setRow ((Below.refl _ w1).alloc (Nat.le_refl _) _) (Nat.le_refl _) _⟩
  rw [hw2]
  have HB2 := Lib.hid hb2
  have HLW2 := Lib.hid (HB.out.trans (hl2.mono HB.out.size))
  have hbx := Lib.hid (fun (W : World) (hb : Below w2.heap.size w2 W) => (show W.cell? ⟨w1.heap.size, 1, none⟩ = some (.string (str l)) from (hb2.next hb).cell 1 _))
  have hb1 := hb2.lt
  clear hw2 hl2 hb2 c0
  generalize w1.heap.size = R at *
  go_upto_region 3 with (go_at_call 50; ((with_reducible refine (letters_any bo _).mono ?_); rintro e w3 ⟨b, c, rfl, hm, hbb, hcc, hb⟩); have HM := Lib.hid hm; have HB3 := Lib.hid hb; clear hm hb hbb hcc)
  have c1 := hbx.out _ HB3.out
  have hR := Nat.lt_of_lt_of_le hb1 HB3.out.size
  have HW3 := Lib.hid (HLW2.out.trans (HB3.out.mono HLW2.out.size))
  go_upto_region 5 with fail
  have FI0 := Lib.hid (show OFI w3 w3.heap.size bo o g l 0 (.slice none 0 0) [] (w3.alloc (.stringIter (str l) 0)) from
    ⟨World.iter_heap w3 (str l) 0, ⟨rfl, fun f hf => by cases hf⟩, rfl, World.ownsRow_nil _ _ _ _, (Below.refl _ w3).alloc (Nat.le_refl _) _⟩)
  have HLEN := Lib.hid (str_size l)
  obtain ⟨I, hI⟩ : ∃ I, w3.heap.size = I := ⟨_, rfl⟩
  rw [hI] at FI0 ⊢
  have HI := Lib.hid hI
  clear hI c1 hR hb1
  go_loopw [6] (fun s6 wr => ∃ (i : Nat) (v : Value) (L : List FE), s6 = v ∧ i ≤ l.length ∧ Aside (OFI w3 I bo o g l i v L wr)) (fun _ wr => (str l).size - wr.iterPos I)
  case atStart => exact ⟨0, _, [], rfl, Nat.zero_le _, FI0.out⟩
  case round =>
    obtain ⟨i, v, L, h6, hil, hfi⟩ := hrel
    replace h6 := h6.symm
    subst h6
    have FR := Lib.hid (show OFI w3 I bo o g l i v L wr from hfi)
    have hit : wr.heap[I]? = some (.stringIter (str l) i) := FR.out.it
    have hsz : I < wr.heap.size := (Array.getElem?_eq_some_iff.1 hit).1
    clear hfi FI0
    by_cases hp : i < l.length
    · obtain ⟨c1, hc1⟩ : ∃ c1, l[i]? = some c1 := ⟨_, List.getElem?_eq_getElem hp⟩
      have hcm : c1 ∈ l := List.mem_of_getElem? hc1
      have hp2 : i < (str l).size := by rw [HLEN.out]; exact hp
      have hg := get_str l i hp2
      have hcg : l[i]'hp = c1 := (List.getElem?_eq_some_iff.1 hc1).2
      rw [hcg] at hg
      have ha := HAS.out c1 hcm
      have hnx : ∀ ty, (Instr.next (.pointer (some ⟨I, 0, none⟩)) true ty).run Tryz.prog wr = .ok (.tuple #[.bool true, .int .i64 (i : Int), .int .i32 (c1.toNat : Int)]) (wr.iterAt I (str l) (i + 1)) := fun ty => by
        rw [Lib.run_next_ascii_at wr I (str l) i ty hit hp2 (by omega), hg]
      have hcl : c1 ∈ lettersO o.kind := by rw [HLL.out]; exact hcm
      have hbi : Below I w3 (wr.iterAt I (str l) (i + 1)) := Lib.below_iterAt FR.out.low (Nat.le_refl _) _ _
      have hbi2 : Below w.heap.size w (wr.iterAt I (str l) (i + 1)) := HW3.out.trans (hbi.mono (by have := HW3.out.size; have := HI.out; omega))
      have hM4 := HM.out.next (show Below w3.heap.size w3 (wr.iterAt I (str l) (i + 1)) by rw [HI.out]; exact hbi)
      have hlk := hM4.look hcl
      have hen := fun (x : Value) (W : World) => let_enter hcl x W
      have HCALL := Lib.hid (let_any c bo o g c1 hcl _ hM4.choose_spec.choose_spec.2.2 (HO.out.next hbi2) HOW.out (HL.out.next hbi2))
      have HC1 := Lib.hid hc1
      have HX4 := Lib.hid hsz
      have FRS := Lib.hid (fun (w5 w6 w7 : World) (v' : Value) (fn : FuncId) (cp : Array Value) h1 h2 h3 h4 h5 => FR.out.step (v' := v') (w5 := w5) (w6 := w6) (w7 := w7) (fn := fn) (cp := cp) HC1.out (by have := HI.out; omega) h1 h2 h3 h4 h5)
      have HSZ4 := Lib.hid (show (wr.iterAt I (str l) (i + 1)).heap.size = wr.heap.size from Lib.iterAt_size _ _ _ _)
      have HO4 := Lib.hid (show (wr.iterAt I (str l) (i + 1)).ownsRow (I + 1) 67 3 v i (flF L) from own_same FR.out.own fun b hb => Lib.iterAt_other _ _ _ _ _ (by have := (World.ownsRow.lt FR.out.own b hb).1; omega))
      have HIT4 := Lib.hid hit
      have i5 : i ≤ 5 := by omega
      unfold clo1 at hlk
      generalize hfn : letN c1.toNat = fn at *
      generalize letK c1.toNat = key at *
      generalize letX o c1.toNat = tx at *
      generalize wr.iterAt I (str l) (i + 1) = w4 at *
      unfold LetT FldT at HCALL
      clear hM4 hbi hbi2 hit hc1 hcm hg hcg hcl hfn
      go_wp2_with (first
        | (go_at_fn fn; ((with_reducible refine HCALL.out.mono ?_); rintro e w5 ⟨f1, cp, rfl, hs, hb⟩); have HS5 := Lib.hid hs; have HB5 := Lib.hid hb; have HO5 := Lib.hid (show w5.ownsRow (I + 1) 67 3 v i (flF L) from own_same HO4.out fun b hb2 => hb.block b (World.ownsRow.lt HO4.out b hb2).2); have HC5 := Lib.hid (show ∀ j u, (cF ⟨key, tx, f1, cp⟩)[j]? = some u → (w5.alloc (.cells #[.string (str key), .string (str tx), .func (.func f1) #[] cp] 67)).cell? ((⟨w5.heap.size, 0, none⟩ : Addr).add j) = some u from row_cells' w5 (cF ⟨key, tx, f1, cp⟩) 67); have HB6 := Lib.hid (show Below w5.heap.size w5 (w5.alloc (.cells #[.string (str key), .string (str tx), .func (.func f1) #[] cp] 67)) from (Below.refl _ _).alloc (Nat.le_refl _) _); have HO6 := Lib.hid (show (w5.alloc (.cells #[.string (str key), .string (str tx), .func (.func f1) #[] cp] 67)).ownsRow (I + 1) 67 3 v i (flF L) from own_same HO5.out fun b hb2 => HB6.out.block b (World.ownsRow.lt HO5.out b hb2).2); have HZ6 := Lib.hid (show I + 1 ≤ (w5.alloc (.cells #[.string (str key), .string (str tx), .func (.func f1) #[] cp] 67)).heap.size by have h1 := HB6.out.size; have h2 := HB5.out.size; have h3 := HSZ4.out; have h4 := HX4.out; omega); clear hs hb)
        | (at_builtin; refine wpl_own3 eltF rfl _ _ rfl (base := I + 1) (n := i) (cs := flF L) (v := v) rfl HO6.out ⟨w5.heap.size, 0, none⟩ (cF ⟨key, tx, f1, cp⟩) rfl HC5.out rfl (cF_one _) (by omega) (by decide) HZ6.out ?_; intro gb cb w7 h1 h2; have F7 := Lib.hid (FRS.out w5 _ w7 _ f1 cp HB5.out HS5.out HB6.out h2 h1); clear h1 h2))
      go_roundw
      case rel => exact ⟨i + 1, _, _, rfl, by omega, F7.out⟩
      case measure =>
        simp only [World.iterPos, F7.out.it, HIT4.out]
        omega
    · have hnx : ∀ ty, (Instr.next (.pointer (some ⟨I, 0, none⟩)) true ty).run Tryz.prog wr = _ := fun ty => Lib.run_next_end_at wr I (str l) i ty hit (by rw [HLEN.out]; exact hp)
      obtain rfl : i = l.length := by omega
      clear hit
      go_wp2
      go_ret
      refine ⟨v, L, rfl, ⟨?_, FR.out.fl.sto⟩, ?_, HW3.out.trans (FR.out.low.mono (by have := HW3.out.size; have := HI.out; omega))⟩
      · rw [FR.out.fl.map, List.take_length, ← HLL.out, letters_fs]
      · rw [FR.out.len]
        exact own_base2 FR.out.own (by have := HW3.out.size; have := HI.out; omega)
end Go.Proofs.YtekcjfdllclphaaGreatDoor.gn
end
section
set_option linter.unusedVariables false
set_option linter.unusedSimpArgs false
namespace Go.Proofs.YtekcjfdllclphaaGreatDoor.gn
open Go.RowKit
open Go.Proofs.YtekcjfdllclphaaGreatDoor.un
open Go.Proofs.YtekcjfdllclphaaGreatDoor.di
open Go.Proofs.YtekcjfdllclphaaGreatDoor.sp (Slip cuts cutB joinC fldB fldB_len cuts_ne join_cuts)
open Go.Proofs.YtekcjfdllclphaaGreatDoor.od (Ord okO stO fsO keysO wordO LO kindN kindN_le pread pway pread_cons line_cut cut_join orun)

def zO : Array Value := #[.int .u8 0, .int .i64 0, .int .i64 0, .string { data := #[] }, .string { data := #[] }, .string { data := #[] }, .int .i64 0, .bool false, .string { data := #[] }, .int .i64 0, .int .i64 0, .int .i64 0, .slice none 0 0, .int .i64 0, .int .i64 0, .int .i64 0, .string { data := #[] }, .slice none 0 0, .slice none 0 0, .slice none 0 0]
def atO (k : Nat) : Array Value := #[.int .u8 (k : Nat), .int .i64 0, .int .i64 0, .string { data := #[] }, .string { data := #[] }, .string { data := #[] }, .int .i64 0, .bool false, .string { data := #[] }, .int .i64 0, .int .i64 0, .int .i64 0, .slice none 0 0, .int .i64 0, .int .i64 0, .int .i64 0, .string { data := #[] }, .slice none 0 0, .slice none 0 0, .slice none 0 0]
theorem zO_eq : ocs Ord.zero g0 = zO := rfl
theorem atO_eq (k : Nat) : ocs (Ord.at k) g0 = atO k := rfl
theorem ocs_one {w : World} {o : Ord} {g : Gh} (h : SR w o.slip g) : (ocs o g).all (·.oneCell') = true := by
  have := scs_one h
  simp only [scs, ocs, Array.all_eq_true'] at this ⊢
  intro u hu
  simp only [List.mem_toArray, List.mem_cons, List.not_mem_nil, or_false] at hu this
  rcases hu with rfl | rfl | rfl | rfl | rfl | rfl | rfl | rfl | hu
  · rfl
  · rfl
  · rfl
  · rfl
  · rfl
  · rfl
  · rfl
  · rfl
  · exact this u hu
theorem OW_at {k : Nat} (h : k ≤ 255) : OW (Ord.at k) := by
  have z : -9223372036854775808 ≤ (0 : Int) ∧ (0 : Int) ≤ 9223372036854775807 := by decide
  exact ⟨z, z, z, Nat.zero_le _, Nat.zero_le _, Nat.zero_le _, h⟩
theorem cellF {w : World} {b off : Nat} {l : List FE} (h : CellsC w b off (flF l)) {k : Nat} {d : FE} (hd : l[k]? = some d) :
    w.cell? ⟨b, off + k * 3, none⟩ = some (.string (str d.key)) ∧ w.cell? ⟨b, off + k * 3 + 1, none⟩ = some (.string (str d.text)) ∧ w.cell? ⟨b, off + k * 3 + 2, none⟩ = some (.func (.func d.fn) #[] d.cp) := by
  have key := fun j u => h.elt (f := cF) (k := 3) (fun _ => rfl) (j := j) (u := u) hd
  refine ⟨key 0 _ (by decide) rfl, ?_, ?_⟩
  · have := key 1 _ (by decide) rfl; rwa [← Nat.add_assoc] at this
  · have := key 2 _ (by decide) rfl; rwa [← Nat.add_assoc] at this
theorem FlS.next {w w' : World} {bo k : Nat} {g : Gh} {fs : List (Tx × Tx)} {L : List FE} (h : FlS w bo k g fs L) (hb : Below w.heap.size w w') : FlS w' bo k g fs L := ⟨h.map, fun f hf => (h.sto f hf).next hb⟩
theorem FlS.but {w w' : World} {bo k : Nat} {g : Gh} {fs : List (Tx × Tx)} {L : List FE} (h : FlS w bo k g fs L) (hb : But bo w w') : FlS w' bo k g fs L := ⟨h.map, fun f hf => (h.sto f hf).but hb⟩
theorem FlS.key {w : World} {bo k : Nat} {g : Gh} {o : Ord} {L : List FE} (h : FlS w bo k g (fsO o) L) {i : Nat} {f : FE} (hf : L[i]? = some f) : (keysO o.kind)[i]? = some f.key ∧ (fsO o)[i]? = some (f.key, f.text) := by
  have h1 : (fsO o)[i]? = some (f.key, f.text) := by rw [← h.map, List.getElem?_map, hf]; rfl
  refine ⟨?_, h1⟩
  rw [← od.keys_fs, List.getElem?_map, h1]
  rfl
theorem FlS.len {w : World} {bo k : Nat} {g : Gh} {o : Ord} {L : List FE} (h : FlS w bo k g (fsO o) L) : (keysO o.kind).length = L.length ∧ (fsO o).length = L.length := by
  have h1 : (fsO o).length = L.length := by rw [← h.map, List.length_map]
  exact ⟨by rw [← od.keys_fs, List.length_map, h1], h1⟩
/-- How read stands ahead of field i. -/
structure LS (w : World) (B bo k : Nat) (line : Tx) (ws0 : List Tx) (v : Value) (L : List FE) (i : Nat) (ws : List Tx) (o : Ord) (W : World) : Prop where
  lo : LO k ws0 i ws o
  o : OrdB W bo o g0
  fl : FlS W bo k g0 (fsO (Ord.at k)) L
  own : W.ownsRow B 67 3 v L.length (flF L)
  res : BoxA W w.heap.size 29 zO
  low : Below w.heap.size w W
  len : (joinC 32 ws).length ≤ line.length
  bd : w.heap.size < bo ∧ bo < B
section
variable {w W W' : World} {B bo k i : Nat} {line : Tx} {ws0 ws : List Tx} {v : Value} {L : List FE} {o : Ord}
theorem LS.next (h : LS w B bo k line ws0 v L i ws o W) (hb : Below W.heap.size W W') : LS w B bo k line ws0 v L i ws o W' :=
  ⟨h.lo, h.o.next hb, h.fl.next hb, own_same h.own fun b hb2 => hb.block b (World.ownsRow.lt h.own b hb2).2, h.res.next hb, h.low.trans (hb.mono h.low.size), h.len, h.bd⟩
theorem LS.low2 (h : LS w B bo k line ws0 v L i ws o W) (hb : But bo W W') : Below w.heap.size w W' := h.low.grown hb h.low.size (fun j hj => by cases hj; have := h.bd.1; omega)
theorem LS.turn (h : LS w B bo k line ws0 v L i ws o W) {f : FE} (hf : L[i]? = some f) (h1 : (fldB 61 (ws.headD [])).1 = f.key) (h2 : okO k f.key (fldB 61 (ws.headD [])).2 = true) (hl : (joinC 32 ws.tail).length ≤ (joinC 32 ws).length) (hb : But bo W W') (ho : OrdB W' bo (stO f.key (fldB 61 (ws.headD [])).2 o) g0) :
    LS w B bo k line ws0 v L (i + 1) ws.tail (stO f.key (fldB 61 (ws.headD [])).2 o) W' :=
  ⟨h.lo.step (h.fl.key (o := Ord.at k) hf).1 h1 h2, ho, h.fl.but hb, own_same h.own fun b hb2 => hb.block b (World.ownsRow.lt h.own b hb2).2 (fun e => by have := (World.ownsRow.lt h.own b hb2).1; have := h.bd.2; have := Option.some.inj e; omega),
    h.res.but hb (by have := h.bd.1; omega), h.low2 hb, Nat.le_trans hl h.len, h.bd⟩
end
/-- What read tells. -/
def OreadT (line : Tx) (w : World) (e : Ending) (w' : World) : Prop := ∃ o', e = .returned (.tuple #[oV o' g0, .bool (pread line).isSome]) ∧ (∀ o, pread line = some o → o' = o) ∧ Below w.heap.size w w'
theorem stO_slip (key v : Tx) (o : Ord) : (stO key v o).slip = o.slip := (od.stO_kind key v o).2

theorem oline_ret {line : Tx} {tmps : Array Value} {w W : World} {old cs : Array Value} {b : Bool} {o' : Ord} (hr : BoxA W w.heap.size 29 old) (hlow : Below w.heap.size w W) (h23 : (tmps.getD 2 undef, tmps.getD 3 undef) = (.pointer (some ⟨w.heap.size, 0, none⟩), .bool b))
    (hcs : ocs o' g0 = cs) (hb : (pread line).isSome = b) (ho : ∀ o, pread line = some o → o' = o) : bodyPost Tryz.prog Tryz.f17 (OreadT line w) Exit.ret ⟨tmps, []⟩ (W.setRow w.heap.size cs) := by
  subst hcs
  exact bodyPost_ret (v := .tuple #[oV o' g0, .bool b]) (results_two2 rfl _ _ w.heap.size _ (ocs o' g0) _ _ _ h23 (setRow_heap _ _ _ _ _ _ hr) Tryz.underlying29 rfl (by kernel_rfl)) rfl ⟨o', by rw [hb], ho, below_setRow hlow (Nat.le_refl _) _⟩
theorem none_ret {line : Tx} (h : pread line = none) : (pread line).isSome = false ∧ ∀ o, pread line = some o → Ord.zero = o := by
  rw [h]
  exact ⟨rfl, fun o e => by cases e⟩
set_option maxRecDepth 100000 in
set_option maxHeartbeats 16000000 in
theorem oline_any (line : Tx) (hl : line.length ≤ 100000) (w : World) (hL : LaidD w) : Calls Tryz.prog 17 #[.string (str line)] w (OreadT line w) := by
  obtain ⟨word, ws0, hcs⟩ : ∃ a b, cuts 32 line = a :: b := by
    cases h : cuts 32 line with
    | nil => exact absurd h (cuts_ne 32 line)
    | cons a b => exact ⟨a, b, rfl⟩
  obtain ⟨hc1, hc2, hc3⟩ := line_cut line
  rw [hcs] at hc1 hc2 hc3
  simp only [List.headD_cons, List.tail_cons] at hc1 hc2 hc3
  have HPR := Lib.hid (pread_cons hcs)
  have hjl : (joinC 32 ws0).length ≤ line.length := by have := (fldB_len 32 line).2; rw [hc1] at this; exact this
  obtain ⟨W, hW, b1, hlw, hs⟩ := made1 w zO 29
  have HC := Lib.hid (cut_c 32 line hl W (hL.next hlw))
  rw [hc1, hc2] at HC
  dsimp only at HC
  obtain ⟨k, hk⟩ : ∃ k, kindN word = k := ⟨_, rfl⟩
  have hk18 : k ≤ 18 := by rw [← hk]; exact (kindN_le word).1
  have HK := Lib.hid (fun (X : World) => okind_any word X)
  rw [hk] at HK HPR
  have HB1 := Lib.hid b1
  have HW := Lib.hid (show w.alloc (.cells zO 29) = W from hW)
  have HLW := Lib.hid hlw
  have HS := Lib.hid hs
  have HL := Lib.hid (fun (X : World) (hb : Below w.heap.size w X) => hL.next hb)
  have HJL := Lib.hid hjl
  have HC3 := Lib.hid hc3
  have HLL := Lib.hid hl
  clear hcs hc1 hc2 hc3 hjl b1 hlw hs hW hk hL hl
  unfold zO at HW
  go_enter Tryz.func17, Tryz.ntmps17
  go_upto_region 1 with fail
  rw [HW.out]
  go_upto_region 3 with (first
    | (go_at_call 16; ((with_reducible refine HC.out.mono ?_); rintro e w1 ⟨rfl, hb⟩); have A1 := Lib.hid hb; clear hb)
    | (go_at_call 38; ((with_reducible refine (HK.out _).mono ?_); rintro e w2 ⟨rfl, hb⟩); have A2 := Lib.hid hb; clear hb)
    | (refine wpList_store_row rfl _ _ _ rfl w2.heap.size (atO k) rfl rfl _ _ (BoxA.new w2 _ _) (by kernel_rfl) rfl (by kernel_rfl) ?_))
  obtain ⟨w3, hw3, hbx, hb3⟩ := box_end w2 zO (atO k) 29
  unfold zO at hw3
  rw [hw3]
  have hlow2 : Below w.heap.size w w2 := HLW.out.trans ((A1.out.trans (A2.out.mono A1.out.size)).mono HLW.out.size)
  have HO3 := Lib.hid (show OrdB w3 w2.heap.size (Ord.at k) g0 from hbx)
  have HLOW3 := Lib.hid (hlow2.trans (hb3.mono hlow2.size))
  have HR3 := Lib.hid (((HB1.out.next A1.out).next A2.out).next hb3)
  have HBO := Lib.hid (show w.heap.size < w2.heap.size ∧ w2.heap.size < w3.heap.size from ⟨by have := A1.out.size; have := A2.out.size; have := HS.out; omega, HO3.out.lt⟩)
  clear hw3 hbx hb3 hlow2
  generalize w2.heap.size = bo at *
  have HFD := Lib.hid (ofields_any bo (Ord.at k) g0 w3 HO3.out (OW_at (by omega)) (HL.out _ HLOW3.out).u)
  unfold FieldsT at HFD
  go_upto_region 4 with (go_at_call 29; ((with_reducible refine HFD.out.mono ?_); rintro e w4 ⟨v, L, rfl, hfl, hown, hb⟩); obtain ⟨p, c, hv⟩ := (RdC.form (ApC.rdc (.inr hown))); have HLS0 := Lib.hid (show LS w w3.heap.size bo k line ws0 v L 0 ws0 (Ord.at k) w4 from ⟨LO.start k HC3.out, HO3.out.next hb, hfl, hown, HR3.out.next hb, HLOW3.out.trans (hb.mono HLOW3.out.size), HJL.out, HBO.out⟩); subst hv; clear hfl hown hb)
  obtain ⟨n, hn⟩ : ∃ n, L.length = n := ⟨_, rfl⟩
  have HN := Lib.hid hn
  have hn5 : n ≤ 8 := by
    have := HLS0.out.fl.len (o := Ord.at k)
    rw [← hn, ← this.2]
    exact od.fs_count _
  rw [hn] at HLS0 ⊢
  clear hn
  go_loopw [5, 6, 25] (fun s5 s6 s25 W => ∃ (i : Nat) (ws : List Tx) (o : Ord), s5 = .string (str (joinC 32 ws)) ∧ s6 = .bool (decide (ws ≠ [])) ∧ s25 = .int .i64 (i : Int) ∧ i ≤ n ∧ Aside (LS w w3.heap.size bo k line ws0 (.slice p n c) L i ws o W)) (fun _ _ s25 _ => n - (intOf s25).toNat)
  case atStart => exact ⟨0, ws0, Ord.at k, rfl, rfl, rfl, Nat.zero_le _, HLS0.out⟩
  case round =>
    obtain ⟨i, ws, o, rfl, rfl, rfl, hi, hls⟩ := hrel
    have HR := Lib.hid (show LS w w3.heap.size bo k line ws0 (.slice p n c) L i ws o wr from hls)
    clear hls HLS0
    by_cases hin : i < n
    · have hrd := ApC.rdc (.inr HR.out.own)
      rw [HN.out] at hrd
      obtain ⟨b, off, hp, hb, hc⟩ := RdC.at_ (size := 3) hrd rfl (by omega)
      subst hp
      obtain ⟨f, hf⟩ : ∃ f, L[i]? = some f := ⟨_, List.getElem?_eq_getElem (by rw [HN.out]; exact hin)⟩
      obtain ⟨y0, y1, y2⟩ := cellF hc hf
      have HF := Lib.hid hf
      have hst := HR.out.fl.sto f (List.mem_of_getElem? hf)
      have hen := hst.en
      have hws := HR.out.lo.c
      have hwl := HR.out.len
      have HKEY := Lib.hid (HR.out.fl.key (o := Ord.at k) hf).1
      clear hrd hc hst
      obtain ⟨key, tx, fn, cp⟩ := f
      dsimp only at y0 y1 y2 hen HKEY
      go_upto_region 6 with (refine wpList_store_row rfl _ _ _ rfl wr.heap.size #[.string (str key), .string (str tx), .func (.func fn) #[] cp] rfl rfl _ _ (BoxA.new wr _ _) (by kernel_rfl) rfl (by kernel_rfl) ?_)
      obtain ⟨w5, hw5, hD, hb4⟩ := box_end wr #[.string { data := #[] }, .string { data := #[] }, .nilFunc] #[.string (str key), .string (str tx), .func (.func fn) #[] cp] 67
      rw [hw5]
      clear hw5
      have HR4 := Lib.hid (HR.out.next hb4)
      generalize wr.heap.size = bd at *
      have HD := Lib.hid hD
      have hcj := cut_join ws hws
      have HCA := Lib.hid (cut_c 32 (joinC 32 ws) (by have := HLL.out; omega) w5 (HL.out _ HR4.out.low))
      rw [hcj.1, hcj.2] at HCA
      have hjt : (joinC 32 ws.tail).length ≤ (joinC 32 ws).length := by have := (fldB_len 32 (joinC 32 ws)).2; rw [hcj.1] at this; exact this
      have hph : (ws.headD []).length ≤ line.length := by have := (fldB_len 32 (joinC 32 ws)).1; rw [hcj.1] at this; exact Nat.le_trans this hwl
      have HJT := Lib.hid hjt
      have HCE := Lib.hid (fun (X : World) (hX : Below w.heap.size w X) => cut_c 61 (ws.headD []) (by have := HLL.out; omega) X (HL.out X hX))
      have hvl := (fldB_len 61 (ws.headD [])).2
      obtain ⟨part, hpart⟩ : ∃ a, ws.headD [] = a := ⟨_, rfl⟩
      obtain ⟨rest2, hrest2⟩ : ∃ a, joinC 32 ws.tail = a := ⟨_, rfl⟩
      obtain ⟨more2, hmore2⟩ : ∃ a, decide (ws.tail ≠ []) = a := ⟨_, rfl⟩
      rw [hpart, hrest2, hmore2] at HCA
      rw [hpart] at HCE
      have HRM := Lib.hid (And.intro hrest2 hmore2)
      clear hrest2 hmore2
      obtain ⟨key', hkey'⟩ : ∃ a, (fldB 61 (ws.headD [])).1 = a := ⟨_, rfl⟩
      obtain ⟨v', hv'⟩ : ∃ a, (fldB 61 (ws.headD [])).2 = a := ⟨_, rfl⟩
      rw [← hpart, hkey', hv', hpart] at HCE
      rw [hv'] at hvl
      have HKV := Lib.hid (And.intro hkey' hv')
      have HVL := Lib.hid (show v'.length ≤ 140737488355328 by have := HLL.out; omega)
      dsimp only at HCA
      clear hD hb4 y0 y1 y2 hb hws hwl hcj hjt hph hkey' hv' hvl hpart
      go_upto_region 9 with (first
        | (go_at_call 16; ((with_reducible refine HCA.out.mono ?_); rintro e w6 ⟨rfl, hb⟩); have HR6 := Lib.hid (HR4.out.next hb); have HD6 := Lib.hid (HD.out.next hb); clear hb)
        | (go_at_call 16; ((with_reducible refine (HCE.out _ HR6.out.low).mono ?_); rintro e w7 ⟨rfl, hb⟩); have HR7 := Lib.hid (HR6.out.next hb); have HD7 := Lib.hid (HD6.out.next hb); clear hb))
      have z0 := HD7.out.cell 0 _
      have z2 := HD7.out.cell 2 _
      have zl := HD7.out.lt
      by_cases hkk : key' = key
      · subst hkk
        have HST := Lib.hid ((HR7.out.fl.sto _ (List.mem_of_getElem? HF.out)).call o v' HR7.out.o HVL.out (HL.out _ HR7.out.low).u)
        unfold StO at HST
        dsimp only at HST
        obtain ⟨okb, hok⟩ : ∃ okb, okO k key' v' = okb := ⟨_, rfl⟩
        rw [hok] at HST
        have HOK := Lib.hid hok
        clear hok
        cases okb with
        | true =>
          go_wp2_with (go_at_fn fn; ((with_reducible refine HST.out.mono ?_); rintro e w8 ⟨rfl, hbt, ho⟩); have HBT := Lib.hid hbt; have HO8 := Lib.hid ho; clear hbt ho)
          go_roundw
          case rel => exact ⟨i + 1, ws.tail, _, by rw [HRM.out.1], by rw [HRM.out.2], by go_num, by omega, by
            have ht := HR7.out.turn HF.out HKV.out.1 (by rw [HKV.out.2]; exact HOK.out) HJT.out HBT.out (by rw [HKV.out.2]; exact HO8.out)
            rw [HKV.out.2] at ht
            exact ht⟩
          case measure => simp [intOf]; omega
        | false =>
          have HNO := Lib.hid (none_ret (show pread line = none by
            rw [HPR.out]
            unfold pway
            split
            · rfl
            · exact HR.out.lo.fail HKEY.out (by rw [HKV.out.2]; intro h; rw [HOK.out] at h; cases h.2)))
          have hne : w.heap.size ≠ bo := by have := HBO.out.1; omega
          go_wp2_with (first
            | (go_at_fn fn; ((with_reducible refine HST.out.mono ?_); rintro e w8 ⟨rfl, hbt, ho⟩); have HBT := Lib.hid hbt; have HRS := Lib.hid (HR7.out.res.but hbt hne); clear hbt ho)
            | (refine wpList_store_row rfl _ _ _ rfl w.heap.size zO rfl rfl _ _ HRS.out (by kernel_rfl) rfl (by kernel_rfl) ?_))
          exact oline_ret HRS.out (HR7.out.low2 HBT.out) rfl zO_eq HNO.out.1 HNO.out.2
      · obtain ⟨q1, q2⟩ := (⟨by rw [eq_str]; exact decide_eq_false hkk, fun h => hkk (by rw [str_toList, str_toList] at h; exact h)⟩ : ((str key').toList == (str key).toList) = false ∧ ¬ (str key').toList = (str key).toList)
        have HNO := Lib.hid (none_ret (show pread line = none by
          rw [HPR.out]
          unfold pway
          split
          · rfl
          · exact HR.out.lo.fail HKEY.out (by rw [HKV.out.1]; exact fun h => hkk h.1)))
        clear hkk
        go_wp2_with (refine wpList_store_row rfl _ _ _ rfl w.heap.size zO rfl rfl _ _ HR7.out.res (by kernel_rfl) rfl (by kernel_rfl) ?_)
        exact oline_ret HR7.out.res HR7.out.low rfl zO_eq HNO.out.1 HNO.out.2
    · obtain rfl : i = n := by omega
      have HFIN := Lib.hid (show orun k (Ord.at k) (keysO k) ws0 = if ws = [] then some o else none from LO.fin (by
        have := (HR.out.fl.len (o := Ord.at k)).1
        rw [show (Ord.at k).kind = k from rfl, HN.out] at this
        rw [this]
        exact HR.out.lo))
      have hkd : o.kind = k := HR.out.lo.kd
      have c0 : wr.cell? ⟨bo, 0, none⟩ = some (.int .u8 (k : Nat)) := by rw [← hkd]; exact BoxA.cell HR.out.o 0 _
      have hlt := HR.out.o.lt
      have HON := Lib.hid (show (ocs o g0).all (·.oneCell') = true by kernel_rfl)
      clear hkd hin
      by_cases hk0 : k = 0
      · subst hk0
        have HNO := Lib.hid (show pread line = none by rw [HPR.out]; rfl)
        go_wp2_with (first
          | (refine wpList_load_row rfl _ _ rfl bo rfl _ _ _ _ HR.out.o Tryz.underlying29 rfl (by kernel_rfl) ?_)
          | (refine wpList_store_row rfl _ _ _ rfl w.heap.size (ocs o g0) rfl rfl _ _ HR.out.res (by kernel_rfl) rfl HON.out ?_))
        exact oline_ret HR.out.res HR.out.low rfl rfl (by rw [HNO.out]; rfl) (fun o h => by rw [HNO.out] at h; cases h)
      · have q0 : ((k : Int) != 0) = true := by simp; omega
        have HP2 := Lib.hid (show pread line = if ws = [] then some o else none by rw [HPR.out]; unfold pway; rw [if_neg hk0]; exact HFIN.out)
        by_cases hw0 : ws = []
        · have HNO := Lib.hid (show pread line = some o by rw [HP2.out, if_pos hw0])
          have q1 : decide (ws ≠ []) = false := by rw [hw0]; rfl
          rw [q1]
          clear q1 hw0
          go_wp2_with (first
            | (refine wpList_load_row rfl _ _ rfl bo rfl _ _ _ _ HR.out.o Tryz.underlying29 rfl (by kernel_rfl) ?_)
            | (refine wpList_store_row rfl _ _ _ rfl w.heap.size (ocs o g0) rfl rfl _ _ HR.out.res (by kernel_rfl) rfl HON.out ?_))
          exact oline_ret HR.out.res HR.out.low rfl rfl (by rw [HNO.out]; rfl) (fun o2 h => by rw [HNO.out] at h; exact Option.some.inj h)
        · have HNO := Lib.hid (show pread line = none by rw [HP2.out, if_neg hw0])
          have q1 : decide (ws ≠ []) = true := decide_eq_true hw0
          rw [q1]
          clear q1 hw0
          go_wp2_with (first
            | (refine wpList_load_row rfl _ _ rfl bo rfl _ _ _ _ HR.out.o Tryz.underlying29 rfl (by kernel_rfl) ?_)
            | (refine wpList_store_row rfl _ _ _ rfl w.heap.size (ocs o g0) rfl rfl _ _ HR.out.res (by kernel_rfl) rfl HON.out ?_))
          exact oline_ret HR.out.res HR.out.low rfl rfl (by rw [HNO.out]; rfl) (fun o h => by rw [HNO.out] at h; cases h)
end Go.Proofs.YtekcjfdllclphaaGreatDoor.gn
end
