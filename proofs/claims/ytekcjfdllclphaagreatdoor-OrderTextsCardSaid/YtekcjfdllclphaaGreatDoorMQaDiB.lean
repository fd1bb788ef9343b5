/- Contracts of direct.Is and rows. (Written by gen_diB.py.) -/
import Derived.Test.YtekcjfdllclphaaGreatDoorMQaSlN
import Derived.Test.YtekcjfdllclphaaGreatDoorMQaUnM
section
set_option linter.unusedVariables false
namespace Go.Proofs.YtekcjfdllclphaaGreatDoor.gn
open Go.RowKit
open Go.Proofs.YtekcjfdllclphaaGreatDoor.un
open Go.Proofs.YtekcjfdllclphaaGreatDoor.di
def isL (l:Tx):Bool:=decide (l=bbW) || ([35,66,66,32]:Tx).isPrefixOf l
theorem prefix_any (l:Tx) (p:Tx) (w:World):Calls Tryz.prog 109 #[.string (str l),.string (str p)] w fun e w'=>e=.returned (.bool (p.isPrefixOf l))∧w=w':=by
 refine (Any.strings_HasPrefix layHasPrefix (str l) (str p) w).mono ?_
 rintro e w' ⟨he,hw⟩
 have e1:(str l).data.toList=l:=by simp [str]
 have e2:(str p).data.toList=p:=by simp [str]
 rw [e1,e2] at he
 exact ⟨he,hw.symm⟩
set_option maxRecDepth 100000 in
theorem Is_any (l:Tx) (w:World):Calls Tryz.prog 68 #[.string (str l)] w fun e w'=>e=.returned (.bool (isL l))∧w=w':=by
 by_cases h:l=bbW
 ·have H:=Lib.hid (show isL l=true by unfold isL;rw [decide_eq_true h];rfl)
  obtain ⟨q,q2⟩:=lit_yes h
  unfold bbW at q q2
  clear h
  go_enter Tryz.func68,Tryz.ntmps68
  go_wp2
  go_ret
  exact ⟨by rw [H.out];rfl,rfl⟩
 ·have H:=Lib.hid (show isL l=([35,66,66,32]:Tx).isPrefixOf l by unfold isL;rw [decide_eq_false h];rfl)
  obtain ⟨q,q2⟩:=lit_no h
  unfold bbW at q q2
  clear h
  go_enter Tryz.func68,Tryz.ntmps68
  go_wp2_with (go_at_call 109;refine (prefix_any l [35,66,66,32] _).mono ?_;rintro e w2 ⟨rfl,rfl⟩)
  go_ret
  exact ⟨by rw [H.out];rfl,rfl⟩
theorem kind_if (j:Tx):kind? j=if j=kw 6 then some 6 else if j=kw 5 then some 5 else if j=kw 4 then some 4 else if j=kw 3 then some 3 else if j=kw 2 then some 2 else if j=kw 1 then some 1 else none:=by
 by_cases h6:j=kw 6
 ·rw [if_pos h6,h6];decide
 by_cases h5:j=kw 5
 ·rw [if_neg h6,if_pos h5,h5];decide
 by_cases h4:j=kw 4
 ·rw [if_neg h6,if_neg h5,if_pos h4,h4];decide
 by_cases h3:j=kw 3
 ·rw [if_neg h6,if_neg h5,if_neg h4,if_pos h3,h3];decide
 by_cases h2:j=kw 2
 ·rw [if_neg h6,if_neg h5,if_neg h4,if_neg h3,if_pos h2,h2];decide
 by_cases h1:j=kw 1
 ·rw [if_neg h6,if_neg h5,if_neg h4,if_neg h3,if_neg h2,if_pos h1,h1];decide
 rw [if_neg h6,if_neg h5,if_neg h4,if_neg h3,if_neg h2,if_neg h1]
 cases hk:kind? j with
 | none=>rfl
 | some k =>
  obtain ⟨e,hk⟩:=kind_some hk
  rcases six hk with rfl | rfl | rfl | rfl | rfl | rfl
  ·exact absurd e h1
  ·exact absurd e h2
  ·exact absurd e h3
  ·exact absurd e h4
  ·exact absurd e h5
  ·exact absurd e h6
structure RowsM (w:World) (B b:Nat) (L:List (Tx × Value)) (a:Nat→Nat):Prop where
 m:MapV w b L
 get:∀ j,fi.get j L=(kind? j).map fun k=>rowV k (a k)
 flds:∀ k,1≤k∧k≤6→Flds w (a k) (fldL k)∧B≤a k
 b:B≤b
theorem RowsM.next {w w':World} {B b:Nat} {L:List (Tx × Value)} {a:Nat→Nat} (h:RowsM w B b L a) (hb:Below w.heap.size w w'):RowsM w' B b L a :=
 ⟨h.m.next hb,h.get,fun k hk=>⟨(h.flds k hk).1.next hb,(h.flds k hk).2⟩,h.b⟩
abbrev fc1:Array Value:=#[.string { data:=#[99,97,112,97,99,105,116,121] },.bool false,.string { data:=#[112,111,111,108] },.bool false]
abbrev fc2:Array Value:=#[.string { data:=#[115,105,122,101] },.bool false]
abbrev fc3:Array Value:=#[.string { data:=#[115,105,122,101] },.bool false]
abbrev fc4:Array Value:=#[.string { data:=#[110,97,109,101] },.bool false,.string { data:=#[99,97,112,97,99,105,116,121] },.bool false,.string { data:=#[112,111,111,108] },.bool false,.string { data:=#[97,99,99,101,115,115] },.bool true]
abbrev fc5:Array Value:=#[.string { data:=#[110,97,109,101] },.bool false]
abbrev fc6:Array Value:=#[.string { data:=#[110,97,109,101] },.bool false]
theorem flds_new1 (w:World):Flds (w.alloc (.cells fc1 133)) w.heap.size (fldL 1):=by
 refine ⟨by simp,fun i f hf=>?_⟩
 match i,hf with
 | 0,hf=>obtain rfl:=(Option.some.inj hf).symm;exact ⟨World.cell?_alloc_mark ..,World.cell?_alloc_mark ..⟩
 | 1,hf=>obtain rfl:=(Option.some.inj hf).symm;exact ⟨World.cell?_alloc_mark ..,World.cell?_alloc_mark ..⟩
 | i+2,hf=>simp [fldL] at hf
theorem flds_new2 (w:World):Flds (w.alloc (.cells fc2 133)) w.heap.size (fldL 2):=by
 refine ⟨by simp,fun i f hf=>?_⟩
 match i,hf with
 | 0,hf=>obtain rfl:=(Option.some.inj hf).symm;exact ⟨World.cell?_alloc_mark ..,World.cell?_alloc_mark ..⟩
 | i+1,hf=>simp [fldL] at hf
theorem flds_new3 (w:World):Flds (w.alloc (.cells fc3 133)) w.heap.size (fldL 3):=by
 refine ⟨by simp,fun i f hf=>?_⟩
 match i,hf with
 | 0,hf=>obtain rfl:=(Option.some.inj hf).symm;exact ⟨World.cell?_alloc_mark ..,World.cell?_alloc_mark ..⟩
 | i+1,hf=>simp [fldL] at hf
theorem flds_new4 (w:World):Flds (w.alloc (.cells fc4 133)) w.heap.size (fldL 4):=by
 refine ⟨by simp,fun i f hf=>?_⟩
 match i,hf with
 | 0,hf=>obtain rfl:=(Option.some.inj hf).symm;exact ⟨World.cell?_alloc_mark ..,World.cell?_alloc_mark ..⟩
 | 1,hf=>obtain rfl:=(Option.some.inj hf).symm;exact ⟨World.cell?_alloc_mark ..,World.cell?_alloc_mark ..⟩
 | 2,hf=>obtain rfl:=(Option.some.inj hf).symm;exact ⟨World.cell?_alloc_mark ..,World.cell?_alloc_mark ..⟩
 | 3,hf=>obtain rfl:=(Option.some.inj hf).symm;exact ⟨World.cell?_alloc_mark ..,World.cell?_alloc_mark ..⟩
 | i+4,hf=>simp [fldL] at hf
theorem flds_new5 (w:World):Flds (w.alloc (.cells fc5 133)) w.heap.size (fldL 5):=by
 refine ⟨by simp,fun i f hf=>?_⟩
 match i,hf with
 | 0,hf=>obtain rfl:=(Option.some.inj hf).symm;exact ⟨World.cell?_alloc_mark ..,World.cell?_alloc_mark ..⟩
 | i+1,hf=>simp [fldL] at hf
theorem flds_new6 (w:World):Flds (w.alloc (.cells fc6 133)) w.heap.size (fldL 6):=by
 refine ⟨by simp,fun i f hf=>?_⟩
 match i,hf with
 | 0,hf=>obtain rfl:=(Option.some.inj hf).symm;exact ⟨World.cell?_alloc_mark ..,World.cell?_alloc_mark ..⟩
 | i+1,hf=>simp [fldL] at hf
set_option maxRecDepth 100000 in
set_option maxHeartbeats 3200000 in
theorem rows_any (w:World):Calls Tryz.prog 124 #[] w fun e w'=>∃ b L a,e=.returned (.map (some b))∧RowsM w' w.heap.size b L a∧Below w.heap.size w w':=by
 have ht:=Tryz.underlying158
 have m0:=MapV.new w
 have B0:Below w.heap.size w (w.alloc (.map #[] 0)):=(Below.refl _ w).alloc (Nat.le_refl _) _
 have s0:w.heap.size < (w.alloc (.map #[] 0)).heap.size:=by simp
 have l0:([]:List (Tx × Value)).length≤0:=Nat.le_refl _
 have e0:(w.alloc (.map #[] 0)).heap.size=w.heap.size+1:=by simp
 have y1:Below (w.alloc (.map #[] 0)).heap.size (w.alloc (.map #[] 0)) ((w.alloc (.map #[] 0)).alloc (.cells fc1 133)):=(Below.refl _ _).alloc (Nat.le_refl _) _
 have x1:=MapV.next m0 y1
 obtain ⟨v1,L1,r1,m1,l1,q1,g1⟩:=x1.put2 l0 (k:=kw 1) ht (by decide) (by decide) (rowV 1 (w.heap.size+1))
 have f1:Flds ((w.alloc (.map #[] 0)).alloc (.cells fc1 133)) (w.alloc (.map #[] 0)).heap.size (fldL 1):=flds_new1 _
 have B1:Below w.heap.size w v1:=((B0.trans (y1.mono (Nat.le_of_lt s0)))).grown g1 (Nat.le_of_lt (Nat.lt_of_lt_of_le s0 y1.size)) (fun j hj=>by cases hj;exact Nat.le_refl _)
 have s1:w.heap.size < v1.heap.size:=Nat.lt_of_lt_of_le s0 (Nat.le_trans y1.size g1.size)
 have F1:=f1.but g1 (by omega)
 have u1:(Instr.mapUpdate 158 (.map (some w.heap.size)) (.string { data:=#[106,111,98,100,119] }) (.agg #[.int .u8 1,.slice (some ⟨(w.heap.size+1),0,none⟩) 2 2])).run Tryz.prog ((w.alloc (.map #[] 0)).alloc (.cells #[.string { data:=#[99,97,112,97,99,105,116,121] },.bool false,.string { data:=#[112,111,111,108] },.bool false] 133))=.ok () v1:=r1
 have y2:Below v1.heap.size v1 (v1.alloc (.cells fc2 133)):=(Below.refl _ _).alloc (Nat.le_refl _) _
 have x2:=MapV.next m1 y2
 obtain ⟨v2,L2,r2,m2,l2,q2,g2⟩:=x2.put2 l1 (k:=kw 2) ht (by decide) (by decide) (rowV 2 v1.heap.size)
 have f2:Flds (v1.alloc (.cells fc2 133)) v1.heap.size (fldL 2):=flds_new2 _
 have B2:Below w.heap.size w v2:=((B1.trans (y2.mono (Nat.le_of_lt s1)))).grown g2 (Nat.le_of_lt (Nat.lt_of_lt_of_le s1 y2.size)) (fun j hj=>by cases hj;exact Nat.le_refl _)
 have s2:w.heap.size < v2.heap.size:=Nat.lt_of_lt_of_le s1 (Nat.le_trans y2.size g2.size)
 have F2:=f2.but g2 (by omega)
 have u2:(Instr.mapUpdate 158 (.map (some w.heap.size)) (.string { data:=#[115,116,97,103,101,95,105,110] }) (.agg #[.int .u8 2,.slice (some ⟨v1.heap.size,0,none⟩) 1 1])).run Tryz.prog (v1.alloc (.cells #[.string { data:=#[115,105,122,101] },.bool false] 133))=.ok () v2:=r2
 have y3:Below v2.heap.size v2 (v2.alloc (.cells fc3 133)):=(Below.refl _ _).alloc (Nat.le_refl _) _
 have x3:=MapV.next m2 y3
 obtain ⟨v3,L3,r3,m3,l3,q3,g3⟩:=x3.put2 l2 (k:=kw 3) ht (by decide) (by decide) (rowV 3 v2.heap.size)
 have f3:Flds (v2.alloc (.cells fc3 133)) v2.heap.size (fldL 3):=flds_new3 _
 have B3:Below w.heap.size w v3:=((B2.trans (y3.mono (Nat.le_of_lt s2)))).grown g3 (Nat.le_of_lt (Nat.lt_of_lt_of_le s2 y3.size)) (fun j hj=>by cases hj;exact Nat.le_refl _)
 have s3:w.heap.size < v3.heap.size:=Nat.lt_of_lt_of_le s2 (Nat.le_trans y3.size g3.size)
 have F3:=f3.but g3 (by omega)
 have u3:(Instr.mapUpdate 158 (.map (some w.heap.size)) (.string { data:=#[115,116,97,103,101,95,111,117,116] }) (.agg #[.int .u8 3,.slice (some ⟨v2.heap.size,0,none⟩) 1 1])).run Tryz.prog (v2.alloc (.cells #[.string { data:=#[115,105,122,101] },.bool false] 133))=.ok () v3:=r3
 have y4:Below v3.heap.size v3 (v3.alloc (.cells fc4 133)):=(Below.refl _ _).alloc (Nat.le_refl _) _
 have x4:=MapV.next m3 y4
 obtain ⟨v4,L4,r4,m4,l4,q4,g4⟩:=x4.put2 l3 (k:=kw 4) ht (by decide) (by decide) (rowV 4 v3.heap.size)
 have f4:Flds (v3.alloc (.cells fc4 133)) v3.heap.size (fldL 4):=flds_new4 _
 have B4:Below w.heap.size w v4:=((B3.trans (y4.mono (Nat.le_of_lt s3)))).grown g4 (Nat.le_of_lt (Nat.lt_of_lt_of_le s3 y4.size)) (fun j hj=>by cases hj;exact Nat.le_refl _)
 have s4:w.heap.size < v4.heap.size:=Nat.lt_of_lt_of_le s3 (Nat.le_trans y4.size g4.size)
 have F4:=f4.but g4 (by omega)
 have u4:(Instr.mapUpdate 158 (.map (some w.heap.size)) (.string { data:=#[99,114,101,97,116,101,95,112,101,114,115,105,115,116,101,110,116] }) (.agg #[.int .u8 4,.slice (some ⟨v3.heap.size,0,none⟩) 4 4])).run Tryz.prog (v3.alloc (.cells #[.string { data:=#[110,97,109,101] },.bool false,.string { data:=#[99,97,112,97,99,105,116,121] },.bool false,.string { data:=#[112,111,111,108] },.bool false,.string { data:=#[97,99,99,101,115,115] },.bool true] 133))=.ok () v4:=r4
 have y5:Below v4.heap.size v4 (v4.alloc (.cells fc5 133)):=(Below.refl _ _).alloc (Nat.le_refl _) _
 have x5:=MapV.next m4 y5
 obtain ⟨v5,L5,r5,m5,l5,q5,g5⟩:=x5.put2 l4 (k:=kw 5) ht (by decide) (by decide) (rowV 5 v4.heap.size)
 have f5:Flds (v4.alloc (.cells fc5 133)) v4.heap.size (fldL 5):=flds_new5 _
 have B5:Below w.heap.size w v5:=((B4.trans (y5.mono (Nat.le_of_lt s4)))).grown g5 (Nat.le_of_lt (Nat.lt_of_lt_of_le s4 y5.size)) (fun j hj=>by cases hj;exact Nat.le_refl _)
 have s5:w.heap.size < v5.heap.size:=Nat.lt_of_lt_of_le s4 (Nat.le_trans y5.size g5.size)
 have F5:=f5.but g5 (by omega)
 have u5:(Instr.mapUpdate 158 (.map (some w.heap.size)) (.string { data:=#[100,101,115,116,114,111,121,95,112,101,114,115,105,115,116,101,110,116] }) (.agg #[.int .u8 5,.slice (some ⟨v4.heap.size,0,none⟩) 1 1])).run Tryz.prog (v4.alloc (.cells #[.string { data:=#[110,97,109,101] },.bool false] 133))=.ok () v5:=r5
 have y6:Below v5.heap.size v5 (v5.alloc (.cells fc6 133)):=(Below.refl _ _).alloc (Nat.le_refl _) _
 have x6:=MapV.next m5 y6
 obtain ⟨v6,L6,r6,m6,l6,q6,g6⟩:=x6.put2 l5 (k:=kw 6) ht (by decide) (by decide) (rowV 6 v5.heap.size)
 have f6:Flds (v5.alloc (.cells fc6 133)) v5.heap.size (fldL 6):=flds_new6 _
 have B6:Below w.heap.size w v6:=((B5.trans (y6.mono (Nat.le_of_lt s5)))).grown g6 (Nat.le_of_lt (Nat.lt_of_lt_of_le s5 y6.size)) (fun j hj=>by cases hj;exact Nat.le_refl _)
 have s6:w.heap.size < v6.heap.size:=Nat.lt_of_lt_of_le s5 (Nat.le_trans y6.size g6.size)
 have F6:=f6.but g6 (by omega)
 have u6:(Instr.mapUpdate 158 (.map (some w.heap.size)) (.string { data:=#[117,115,101,95,112,101,114,115,105,115,116,101,110,116] }) (.agg #[.int .u8 6,.slice (some ⟨v5.heap.size,0,none⟩) 1 1])).run Tryz.prog (v5.alloc (.cells #[.string { data:=#[110,97,109,101] },.bool false] 133))=.ok () v6:=r6
 rw [e0] at F1
 have HB:=Lib.hid B6
 have F1:=(F1.next y2).but g2 (by first | omega | (have:=s1;omega))
 have F1:=(F1.next y3).but g3 (by first | omega | (have:=s1;omega))
 have F1:=(F1.next y4).but g4 (by first | omega | (have:=s1;omega))
 have F1:=(F1.next y5).but g5 (by first | omega | (have:=s1;omega))
 have F1:=(F1.next y6).but g6 (by first | omega | (have:=s1;omega))
 have F2:=(F2.next y3).but g3 (by first | omega | (have:=s2;omega))
 have F2:=(F2.next y4).but g4 (by first | omega | (have:=s2;omega))
 have F2:=(F2.next y5).but g5 (by first | omega | (have:=s2;omega))
 have F2:=(F2.next y6).but g6 (by first | omega | (have:=s2;omega))
 have F3:=(F3.next y4).but g4 (by first | omega | (have:=s3;omega))
 have F3:=(F3.next y5).but g5 (by first | omega | (have:=s3;omega))
 have F3:=(F3.next y6).but g6 (by first | omega | (have:=s3;omega))
 have F4:=(F4.next y5).but g5 (by first | omega | (have:=s4;omega))
 have F4:=(F4.next y6).but g6 (by first | omega | (have:=s4;omega))
 have F5:=(F5.next y6).but g6 (by first | omega | (have:=s5;omega))
 have HR:=Lib.hid (show RowsM v6 w.heap.size w.heap.size L6 (fun k=>if k=1 then w.heap.size+1 else if k=2 then v1.heap.size else if k=3 then v2.heap.size else if k=4 then v3.heap.size else if k=5 then v4.heap.size else v5.heap.size) from by
  refine ⟨m6,fun j=>?_,fun k hk=>?_,Nat.le_refl _⟩
  ·rw [q6,q5,q4,q3,q2,q1,kind_if]
   by_cases c6:j=kw 6
   ·rw [if_pos c6,if_pos c6];rfl
   by_cases c5:j=kw 5
   ·rw [if_neg c6,if_pos c5,if_neg c6,if_pos c5];rfl
   by_cases c4:j=kw 4
   ·rw [if_neg c6,if_neg c5,if_pos c4,if_neg c6,if_neg c5,if_pos c4];rfl
   by_cases c3:j=kw 3
   ·rw [if_neg c6,if_neg c5,if_neg c4,if_pos c3,if_neg c6,if_neg c5,if_neg c4,if_pos c3];rfl
   by_cases c2:j=kw 2
   ·rw [if_neg c6,if_neg c5,if_neg c4,if_neg c3,if_pos c2,if_neg c6,if_neg c5,if_neg c4,if_neg c3,if_pos c2];rfl
   by_cases c1:j=kw 1
   ·rw [if_neg c6,if_neg c5,if_neg c4,if_neg c3,if_neg c2,if_pos c1,if_neg c6,if_neg c5,if_neg c4,if_neg c3,if_neg c2,if_pos c1];rfl
   rw [if_neg c6,if_neg c5,if_neg c4,if_neg c3,if_neg c2,if_neg c1,if_neg c6,if_neg c5,if_neg c4,if_neg c3,if_neg c2,if_neg c1];rfl
  ·rcases six hk with rfl | rfl | rfl | rfl | rfl | rfl
   ·exact ⟨F1,by show w.heap.size≤w.heap.size+1;omega⟩
   ·exact ⟨F2,Nat.le_of_lt s1⟩
   ·exact ⟨F3,Nat.le_of_lt s2⟩
   ·exact ⟨F4,Nat.le_of_lt s3⟩
   ·exact ⟨F5,Nat.le_of_lt s4⟩
   ·exact ⟨F6,Nat.le_of_lt s5⟩)
 have hmm:=@run_makeMap Tryz.prog
 clear m0 B0 s0 l0 e0 y1 x1 r1 m1 l1 q1 g1 f1 B1 s1 F1 y2 x2 r2 m2 l2 q2 g2 f2 B2 s2 F2 y3 x3 r3 m3 l3 q3 g3 f3 B3 s3 F3 y4 x4 r4 m4 l4 q4 g4 f4 B4 s4 F4 y5 x5 r5 m5 l5 q5 g5 f5 B5 s5 F5 y6 x6 r6 m6 l6 q6 g6 f6 B6 s6 F6
 go_enter Tryz.func124,Tryz.ntmps124
 go_wp2
 go_ret
 exact ⟨_,_,_,rfl,HR.out,HB.out⟩
end Go.Proofs.YtekcjfdllclphaaGreatDoor.gn
end
