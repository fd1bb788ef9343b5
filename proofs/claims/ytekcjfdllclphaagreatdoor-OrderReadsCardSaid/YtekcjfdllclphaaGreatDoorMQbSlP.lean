/- Slips, plain: the whole text is read again; lines between, and another order, change nothing. (Written ahead of the code.) -/
import Derived.Test.YtekcjfdllclphaaGreatDoorMQbSlN
import Derived.Test.YtekcjfdllclphaaGreatDoorMQbDiX
import Derived.Deep.LoopGhost
import Derived.BigQuiet
set_option linter.unusedVariables false
section
namespace Go.Proofs.YtekcjfdllclphaaGreatDoor.sp
open Go.Proofs.YtekcjfdllclphaaGreatDoor.un
open Go.Proofs.YtekcjfdllclphaaGreatDoor.di
theorem dep_len (d:Int × Bool):(depT d).length≤17:=by
 have:=txt_len d.1
 unfold depT
 rw [List.length_append,List.length_cons]
 have:(if d.2=true then anyW else okW).length≤3:=by split <;> decide
 omega
theorem line1_len {x:Slip} (h:Ok x):(line1 x).length≤1206:=by
 have hn:=name_len h.user
 have hl:=joinC_len 32 (jobW::(fsS x).map wtx) 200 fun w hw=>by
  rcases List.mem_cons.1 hw with rfl | hw
  ·decide
  obtain ⟨f,hf,rfl⟩:=List.mem_map.1 hw
  unfold wtx
  rw [List.length_append,List.length_cons]
  unfold fsS at hf
  rcases List.mem_append.1 hf with hf | hf
  ·rcases List.mem_append.1 hf with hf | hf
   ·simp only [List.mem_cons,List.not_mem_nil,or_false] at hf
    rcases hf with rfl | rfl | rfl
    ·show userK.length+_≤200
     simp only [userK,List.length_cons,List.length_nil]
     omega
    ·have:=txt_len x.nodes
     simp only [nodesK,List.length_cons,List.length_nil]
     omega
    ·have:=txt_len x.wall
     simp only [wallK,List.length_cons,List.length_nil]
     omega
   ·split at hf
    ·simp only [List.mem_cons,List.not_mem_nil,or_false] at hf
     subst hf
     have:=txt_len x.qos
     simp only [qosK,List.length_cons,List.length_nil]
     omega
    ·simp at hf
  ·split at hf
   ·simp at hf
   ·simp only [List.mem_cons,List.not_mem_nil,or_false] at hf
    subst hf
    have h1:=joinC_len 44 (x.after.map depT) 17 fun w hw=>by
     obtain ⟨d,_,rfl⟩:=List.mem_map.1 hw
     exact dep_len d
    rw [List.length_map] at h1
    have h2:=h.after.1
    simp only [afterK,List.length_cons,List.length_nil]
    omega
 have h5:(fsS x).length≤5:=by
  unfold fsS
  split <;> split <;> simp
 rw [List.length_cons,List.length_map] at hl
 unfold line1
 omega
theorem dirs_count {x:Slip} (h:Ok x):(dirsS x).length≤15:=by
 have h1:=h.makeN.1
 have h2:=h.drop.1
 have h3:=h.use.1
 rw [List.length_map] at h1
 unfold dirsS
 simp only [List.length_append,List.length_map]
 split <;> split <;> split <;> simp <;> omega
theorem join_two (c:UInt8) (a:Tx) (L:List Tx) (m:Nat) (h:∀ w∈L,w.length≤m):(joinC c (a::L)).length≤a.length+1+L.length * (m+1):=by
 cases L with
 | nil =>
  show a.length≤_
  omega
 | cons b r =>
  have:=joinC_len c (b::r) m h
  rw [joinC_cons c a (by simp),List.length_append,List.length_cons]
  omega
theorem txtS_len {x:Slip} (h:Ok x):(txtS x).length≤5812:=by
 have h1:=join_two 10 (line1 x) ((dirsS x).map dtx) 306 fun w hw=>by
  obtain ⟨d,hd,rfl⟩:=List.mem_map.1 hw
  exact (made_text (dirs_mem h hd)).len
 have h2:=line1_len h
 have h3:=dirs_count h
 rw [List.length_map] at h1
 unfold txtS
 omega
end Go.Proofs.YtekcjfdllclphaaGreatDoor.sp
end
section
namespace Go.Proofs.YtekcjfdllclphaaGreatDoor.gn
open Go.RowKit
open Go.Proofs.YtekcjfdllclphaaGreatDoor.un
open Go.Proofs.YtekcjfdllclphaaGreatDoor.di
def clo (g:FuncId) (c:Nat):Value:=.func (.func g) #[] #[.pointer (some ⟨c,0,none⟩)]
def cloF (c:Nat) (j:Tx):Option Value :=
 if j=accK then some (clo 148 c) else if j=sizeK then some (clo 144 c) else if j=capK then some (clo 144 c)
 else if j=poolK then some (clo 147 c) else if j=nameK then some (clo 145 c) else none
theorem cloF_acc (c:Nat):cloF c accK=some (clo 148 c):=by unfold cloF;rw [if_pos rfl]
theorem cloF_size (c:Nat):cloF c sizeK=some (clo 144 c):=by unfold cloF;rw [if_neg (by decide),if_pos rfl]
theorem cloF_cap (c:Nat):cloF c capK=some (clo 144 c):=by unfold cloF;rw [if_neg (by decide),if_neg (by decide),if_pos rfl]
theorem cloF_pool (c:Nat):cloF c poolK=some (clo 147 c):=by unfold cloF;rw [if_neg (by decide),if_neg (by decide),if_neg (by decide),if_pos rfl]
theorem cloF_name (c:Nat):cloF c nameK=some (clo 145 c):=by unfold cloF;rw [if_neg (by decide),if_neg (by decide),if_neg (by decide),if_neg (by decide),if_pos rfl]
structure StM (w:World) (B b c bd:Nat) (L:List (Tx × Value)):Prop where
 m:MapV w b L
 get:∀ j,fi.get j L=cloF c j
 ptr:PtrB w c bd
 hb:B≤b
 hc:B≤c
theorem StM.next {w w':World} {B b c bd:Nat} {L:List (Tx × Value)} (h:StM w B b c bd L) (hb:Below w.heap.size w w'):StM w' B b c bd L:=⟨h.m.next hb,h.get,h.ptr.next hb,h.hb,h.hc⟩
theorem StM.but {w w':World} {B b c bd R:Nat} {L:List (Tx × Value)} (h:StM w B b c bd L) (hb:But R w w') (hR:R < B):StM w' B b c bd L :=
 ⟨h.m.but hb (by have:=h.hb;omega),h.get,h.ptr.but hb (by have:=h.hc;omega),h.hb,h.hc⟩
set_option maxRecDepth 100000 in
set_option maxHeartbeats 3200000 in
theorem stores_any (bd:Nat) (w:World):Calls Tryz.prog 123 #[.pointer (some ⟨bd,0,none⟩)] w fun e w'=>∃ b c L,e=.returned (.map (some b))∧StM w' w.heap.size b c bd L∧Below w.heap.size w w':=by
 have ht:=Tryz.underlying155
 have p0:PtrB (w.alloc (.cells #[.pointer (some ⟨bd,0,none⟩)] 157)) w.heap.size bd:=BoxA.new _ _ _
 have b0:Below w.heap.size w (w.alloc (.cells #[.pointer (some ⟨bd,0,none⟩)] 157)):=(Below.refl _ w).alloc (Nat.le_refl _) _
 obtain ⟨z,hz⟩:∃ z,w.alloc (.cells #[.pointer (some ⟨bd,0,none⟩)] 157)=z:=⟨_,rfl⟩
 have sz:z.heap.size=w.heap.size+1:=by rw [←hz];simp
 rw [hz] at p0 b0
 have y0:Below z.heap.size z (z.alloc (.map #[] 0)):=(Below.refl _ _).alloc (Nat.le_refl _) _
 have m0:=MapV.new z
 have P0:=p0.next y0
 have B0:Below w.heap.size w (z.alloc (.map #[] 0)):=b0.trans (y0.mono b0.size)
 have l0:([]:List (Tx × Value)).length≤0:=Nat.le_refl _
 obtain ⟨v1,L1,r1,m1,l1,q1,g1⟩:=m0.put2 l0 (k:=nameK) ht (by decide) (by decide) (clo 145 w.heap.size)
 obtain ⟨v2,L2,r2,m2,l2,q2,g2⟩:=m1.put2 l1 (k:=poolK) ht (by decide) (by decide) (clo 147 w.heap.size)
 obtain ⟨v3,L3,r3,m3,l3,q3,g3⟩:=m2.put2 l2 (k:=capK) ht (by decide) (by decide) (clo 144 w.heap.size)
 obtain ⟨v4,L4,r4,m4,l4,q4,g4⟩:=m3.put2 l3 (k:=sizeK) ht (by decide) (by decide) (clo 144 w.heap.size)
 obtain ⟨v5,L5,r5,m5,l5,q5,g5⟩:=m4.put2 l4 (k:=accK) ht (by decide) (by decide) (clo 148 w.heap.size)
 have hg:But z.heap.size (z.alloc (.map #[] 0)) v5:=(((g1.trans g2).trans g3).trans g4).trans g5
 have HB:=Lib.hid (B0.grown hg B0.size (fun j hj=>by cases hj;rw [sz];omega))
 have HS:=Lib.hid (show StM v5 w.heap.size z.heap.size w.heap.size bd L5 from
  ⟨m5,fun j=>by rw [q5,q4,q3,q2,q1];rfl,P0.but hg (by rw [sz];omega),by rw [sz];omega,Nat.le_refl _⟩)
 have u1:(Instr.mapUpdate 155 (.map (some (w.heap.size+1))) (.string { data:=#[110,97,109,101] }) (.func (.func 145) #[] #[.pointer (some ⟨w.heap.size,0,none⟩)])).run Tryz.prog (z.alloc (.map #[] 0))=.ok () v1:=by rw [←sz];exact r1
 have u2:(Instr.mapUpdate 155 (.map (some (w.heap.size+1))) (.string { data:=#[112,111,111,108] }) (.func (.func 147) #[] #[.pointer (some ⟨w.heap.size,0,none⟩)])).run Tryz.prog v1=.ok () v2:=by rw [←sz];exact r2
 have u3:(Instr.mapUpdate 155 (.map (some (w.heap.size+1))) (.string { data:=#[99,97,112,97,99,105,116,121] }) (.func (.func 144) #[] #[.pointer (some ⟨w.heap.size,0,none⟩)])).run Tryz.prog v2=.ok () v3:=by rw [←sz];exact r3
 have u4:(Instr.mapUpdate 155 (.map (some (w.heap.size+1))) (.string { data:=#[115,105,122,101] }) (.func (.func 144) #[] #[.pointer (some ⟨w.heap.size,0,none⟩)])).run Tryz.prog v3=.ok () v4:=by rw [←sz];exact r4
 have u5:(Instr.mapUpdate 155 (.map (some (w.heap.size+1))) (.string { data:=#[97,99,99,101,115,115] }) (.func (.func 148) #[] #[.pointer (some ⟨w.heap.size,0,none⟩)])).run Tryz.prog v4=.ok () v5:=by rw [←sz];exact r5
 rw [←hz] at u1
 have SZ:=Lib.hid sz
 have hmm:=@run_makeMap Tryz.prog
 clear p0 b0 sz y0 m0 P0 B0 l0 r1 r2 r3 r4 r5 m1 m2 m3 m4 m5 l1 l2 l3 l4 l5 q1 q2 q3 q4 q5 g1 g2 g3 g4 g5 hg hz
 go_enter Tryz.func123,Tryz.ntmps123
 go_wp2
 go_ret
 exact ⟨z.heap.size,_,_,by rw [SZ.out];rfl,HS.out,HB.out⟩
end Go.Proofs.YtekcjfdllclphaaGreatDoor.gn
end
section
namespace Go.Proofs.YtekcjfdllclphaaGreatDoor.gn
open Go.RowKit
open Go.Proofs.YtekcjfdllclphaaGreatDoor.un
open Go.Proofs.YtekcjfdllclphaaGreatDoor.di
def isL (l:Tx):Bool:=decide (l=bbW) || ([35,66,66,32]:Tx).isPrefixOf l
theorem prefix_any (l:Tx) (p:Tx) (w:World):Calls Tryz.prog 109 #[.string (str l),.string (str p)] w fun e w'=>e=.returned (.bool (p.isPrefixOf l))∧w=w':=by
 refine (Any.strings_HasPrefix layHasPrefix (str l) (str p) w).mono ?_
 rintro e w' ⟨he,hw⟩
 have e1:(str l).data.toList=l:=by simp [str]
 have e2:(str p).data.toList=p:=by simp [str]
 rw [e1,e2] at he
 exact ⟨he,hw.symm⟩
set_option maxRecDepth 100000 in
theorem Is_any (l:Tx) (w:World):Calls Tryz.prog 68 #[.string (str l)] w fun e w'=>e=.returned (.bool (isL l))∧w=w':=by
 by_cases h:l=bbW
 ·have H:=Lib.hid (show isL l=true by unfold isL;rw [decide_eq_true h];rfl)
  obtain ⟨q,q2⟩:=lit_yes h
  unfold bbW at q q2
  clear h
  go_enter Tryz.func68,Tryz.ntmps68
  go_wp2
  go_ret
  exact ⟨by rw [H.out];rfl,rfl⟩
 ·have H:=Lib.hid (show isL l=([35,66,66,32]:Tx).isPrefixOf l by unfold isL;rw [decide_eq_false h];rfl)
  obtain ⟨q,q2⟩:=lit_no h
  unfold bbW at q q2
  clear h
  go_enter Tryz.func68,Tryz.ntmps68
  go_wp2_with (go_at_call 109;refine (prefix_any l [35,66,66,32] _).mono ?_;rintro e w2 ⟨rfl,rfl⟩)
  go_ret
  exact ⟨by rw [H.out];rfl,rfl⟩
theorem kind_if (j:Tx):kind? j=if j=kw 6 then some 6 else if j=kw 5 then some 5 else if j=kw 4 then some 4 else if j=kw 3 then some 3 else if j=kw 2 then some 2 else if j=kw 1 then some 1 else none:=by
 by_cases h6:j=kw 6
 ·rw [if_pos h6,h6];decide
 by_cases h5:j=kw 5
 ·rw [if_neg h6,if_pos h5,h5];decide
 by_cases h4:j=kw 4
 ·rw [if_neg h6,if_neg h5,if_pos h4,h4];decide
 by_cases h3:j=kw 3
 ·rw [if_neg h6,if_neg h5,if_neg h4,if_pos h3,h3];decide
 by_cases h2:j=kw 2
 ·rw [if_neg h6,if_neg h5,if_neg h4,if_neg h3,if_pos h2,h2];decide
 by_cases h1:j=kw 1
 ·rw [if_neg h6,if_neg h5,if_neg h4,if_neg h3,if_neg h2,if_pos h1,h1];decide
 rw [if_neg h6,if_neg h5,if_neg h4,if_neg h3,if_neg h2,if_neg h1]
 cases hk:kind? j with
 | none=>rfl
 | some k =>
  obtain ⟨e,hk⟩:=kind_some hk
  rcases six hk with rfl | rfl | rfl | rfl | rfl | rfl
  ·exact absurd e h1
  ·exact absurd e h2
  ·exact absurd e h3
  ·exact absurd e h4
  ·exact absurd e h5
  ·exact absurd e h6
structure RowsM (w:World) (B b:Nat) (L:List (Tx × Value)) (a:Nat→Nat):Prop where
 m:MapV w b L
 get:∀ j,fi.get j L=(kind? j).map fun k=>rowV k (a k)
 flds:∀ k,1≤k∧k≤6→Flds w (a k) (fldL k)∧B≤a k
 b:B≤b
theorem RowsM.next {w w':World} {B b:Nat} {L:List (Tx × Value)} {a:Nat→Nat} (h:RowsM w B b L a) (hb:Below w.heap.size w w'):RowsM w' B b L a :=
 ⟨h.m.next hb,h.get,fun k hk=>⟨(h.flds k hk).1.next hb,(h.flds k hk).2⟩,h.b⟩
abbrev fc1:Array Value:=#[.string { data:=#[99,97,112,97,99,105,116,121] },.bool false,.string { data:=#[112,111,111,108] },.bool false]
abbrev fc2:Array Value:=#[.string { data:=#[115,105,122,101] },.bool false]
abbrev fc3:Array Value:=#[.string { data:=#[115,105,122,101] },.bool false]
abbrev fc4:Array Value:=#[.string { data:=#[110,97,109,101] },.bool false,.string { data:=#[99,97,112,97,99,105,116,121] },.bool false,.string { data:=#[112,111,111,108] },.bool false,.string { data:=#[97,99,99,101,115,115] },.bool true]
abbrev fc5:Array Value:=#[.string { data:=#[110,97,109,101] },.bool false]
abbrev fc6:Array Value:=#[.string { data:=#[110,97,109,101] },.bool false]
theorem flds_new1 (w:World):Flds (w.alloc (.cells fc1 133)) w.heap.size (fldL 1):=by
 refine ⟨by simp,fun i f hf=>?_⟩
 match i,hf with
 | 0,hf=>obtain rfl:=(Option.some.inj hf).symm;exact ⟨World.cell?_alloc_mark ..,World.cell?_alloc_mark ..⟩
 | 1,hf=>obtain rfl:=(Option.some.inj hf).symm;exact ⟨World.cell?_alloc_mark ..,World.cell?_alloc_mark ..⟩
 | i+2,hf=>simp [fldL] at hf
theorem flds_new2 (w:World):Flds (w.alloc (.cells fc2 133)) w.heap.size (fldL 2):=by
 refine ⟨by simp,fun i f hf=>?_⟩
 match i,hf with
 | 0,hf=>obtain rfl:=(Option.some.inj hf).symm;exact ⟨World.cell?_alloc_mark ..,World.cell?_alloc_mark ..⟩
 | i+1,hf=>simp [fldL] at hf
theorem flds_new3 (w:World):Flds (w.alloc (.cells fc3 133)) w.heap.size (fldL 3):=by
 refine ⟨by simp,fun i f hf=>?_⟩
 match i,hf with
 | 0,hf=>obtain rfl:=(Option.some.inj hf).symm;exact ⟨World.cell?_alloc_mark ..,World.cell?_alloc_mark ..⟩
 | i+1,hf=>simp [fldL] at hf
theorem flds_new4 (w:World):Flds (w.alloc (.cells fc4 133)) w.heap.size (fldL 4):=by
 refine ⟨by simp,fun i f hf=>?_⟩
 match i,hf with
 | 0,hf=>obtain rfl:=(Option.some.inj hf).symm;exact ⟨World.cell?_alloc_mark ..,World.cell?_alloc_mark ..⟩
 | 1,hf=>obtain rfl:=(Option.some.inj hf).symm;exact ⟨World.cell?_alloc_mark ..,World.cell?_alloc_mark ..⟩
 | 2,hf=>obtain rfl:=(Option.some.inj hf).symm;exact ⟨World.cell?_alloc_mark ..,World.cell?_alloc_mark ..⟩
 | 3,hf=>obtain rfl:=(Option.some.inj hf).symm;exact ⟨World.cell?_alloc_mark ..,World.cell?_alloc_mark ..⟩
 | i+4,hf=>simp [fldL] at hf
theorem flds_new5 (w:World):Flds (w.alloc (.cells fc5 133)) w.heap.size (fldL 5):=by
 refine ⟨by simp,fun i f hf=>?_⟩
 match i,hf with
 | 0,hf=>obtain rfl:=(Option.some.inj hf).symm;exact ⟨World.cell?_alloc_mark ..,World.cell?_alloc_mark ..⟩
 | i+1,hf=>simp [fldL] at hf
theorem flds_new6 (w:World):Flds (w.alloc (.cells fc6 133)) w.heap.size (fldL 6):=by
 refine ⟨by simp,fun i f hf=>?_⟩
 match i,hf with
 | 0,hf=>obtain rfl:=(Option.some.inj hf).symm;exact ⟨World.cell?_alloc_mark ..,World.cell?_alloc_mark ..⟩
 | i+1,hf=>simp [fldL] at hf
set_option maxRecDepth 100000 in
set_option maxHeartbeats 3200000 in
theorem rows_any (w:World):Calls Tryz.prog 124 #[] w fun e w'=>∃ b L a,e=.returned (.map (some b))∧RowsM w' w.heap.size b L a∧Below w.heap.size w w':=by
 have ht:=Tryz.underlying158
 have m0:=MapV.new w
 have B0:Below w.heap.size w (w.alloc (.map #[] 0)):=(Below.refl _ w).alloc (Nat.le_refl _) _
 have s0:w.heap.size < (w.alloc (.map #[] 0)).heap.size:=by simp
 have l0:([]:List (Tx × Value)).length≤0:=Nat.le_refl _
 have e0:(w.alloc (.map #[] 0)).heap.size=w.heap.size+1:=by simp
 have y1:Below (w.alloc (.map #[] 0)).heap.size (w.alloc (.map #[] 0)) ((w.alloc (.map #[] 0)).alloc (.cells fc1 133)):=(Below.refl _ _).alloc (Nat.le_refl _) _
 have x1:=MapV.next m0 y1
 obtain ⟨v1,L1,r1,m1,l1,q1,g1⟩:=x1.put2 l0 (k:=kw 1) ht (by decide) (by decide) (rowV 1 (w.heap.size+1))
 have f1:Flds ((w.alloc (.map #[] 0)).alloc (.cells fc1 133)) (w.alloc (.map #[] 0)).heap.size (fldL 1):=flds_new1 _
 have B1:Below w.heap.size w v1:=((B0.trans (y1.mono (Nat.le_of_lt s0)))).grown g1 (Nat.le_of_lt (Nat.lt_of_lt_of_le s0 y1.size)) (fun j hj=>by cases hj;exact Nat.le_refl _)
 have s1:w.heap.size < v1.heap.size:=Nat.lt_of_lt_of_le s0 (Nat.le_trans y1.size g1.size)
 have F1:=f1.but g1 (by omega)
 have u1:(Instr.mapUpdate 158 (.map (some w.heap.size)) (.string { data:=#[106,111,98,100,119] }) (.agg #[.int .u8 1,.slice (some ⟨(w.heap.size+1),0,none⟩) 2 2])).run Tryz.prog ((w.alloc (.map #[] 0)).alloc (.cells #[.string { data:=#[99,97,112,97,99,105,116,121] },.bool false,.string { data:=#[112,111,111,108] },.bool false] 133))=.ok () v1:=r1
 have y2:Below v1.heap.size v1 (v1.alloc (.cells fc2 133)):=(Below.refl _ _).alloc (Nat.le_refl _) _
 have x2:=MapV.next m1 y2
 obtain ⟨v2,L2,r2,m2,l2,q2,g2⟩:=x2.put2 l1 (k:=kw 2) ht (by decide) (by decide) (rowV 2 v1.heap.size)
 have f2:Flds (v1.alloc (.cells fc2 133)) v1.heap.size (fldL 2):=flds_new2 _
 have B2:Below w.heap.size w v2:=((B1.trans (y2.mono (Nat.le_of_lt s1)))).grown g2 (Nat.le_of_lt (Nat.lt_of_lt_of_le s1 y2.size)) (fun j hj=>by cases hj;exact Nat.le_refl _)
 have s2:w.heap.size < v2.heap.size:=Nat.lt_of_lt_of_le s1 (Nat.le_trans y2.size g2.size)
 have F2:=f2.but g2 (by omega)
 have u2:(Instr.mapUpdate 158 (.map (some w.heap.size)) (.string { data:=#[115,116,97,103,101,95,105,110] }) (.agg #[.int .u8 2,.slice (some ⟨v1.heap.size,0,none⟩) 1 1])).run Tryz.prog (v1.alloc (.cells #[.string { data:=#[115,105,122,101] },.bool false] 133))=.ok () v2:=r2
 have y3:Below v2.heap.size v2 (v2.alloc (.cells fc3 133)):=(Below.refl _ _).alloc (Nat.le_refl _) _
 have x3:=MapV.next m2 y3
 obtain ⟨v3,L3,r3,m3,l3,q3,g3⟩:=x3.put2 l2 (k:=kw 3) ht (by decide) (by decide) (rowV 3 v2.heap.size)
 have f3:Flds (v2.alloc (.cells fc3 133)) v2.heap.size (fldL 3):=flds_new3 _
 have B3:Below w.heap.size w v3:=((B2.trans (y3.mono (Nat.le_of_lt s2)))).grown g3 (Nat.le_of_lt (Nat.lt_of_lt_of_le s2 y3.size)) (fun j hj=>by cases hj;exact Nat.le_refl _)
 have s3:w.heap.size < v3.heap.size:=Nat.lt_of_lt_of_le s2 (Nat.le_trans y3.size g3.size)
 have F3:=f3.but g3 (by omega)
 have u3:(Instr.mapUpdate 158 (.map (some w.heap.size)) (.string { data:=#[115,116,97,103,101,95,111,117,116] }) (.agg #[.int .u8 3,.slice (some ⟨v2.heap.size,0,none⟩) 1 1])).run Tryz.prog (v2.alloc (.cells #[.string { data:=#[115,105,122,101] },.bool false] 133))=.ok () v3:=r3
 have y4:Below v3.heap.size v3 (v3.alloc (.cells fc4 133)):=(Below.refl _ _).alloc (Nat.le_refl _) _
 have x4:=MapV.next m3 y4
 obtain ⟨v4,L4,r4,m4,l4,q4,g4⟩:=x4.put2 l3 (k:=kw 4) ht (by decide) (by decide) (rowV 4 v3.heap.size)
 have f4:Flds (v3.alloc (.cells fc4 133)) v3.heap.size (fldL 4):=flds_new4 _
 have B4:Below w.heap.size w v4:=((B3.trans (y4.mono (Nat.le_of_lt s3)))).grown g4 (Nat.le_of_lt (Nat.lt_of_lt_of_le s3 y4.size)) (fun j hj=>by cases hj;exact Nat.le_refl _)
 have s4:w.heap.size < v4.heap.size:=Nat.lt_of_lt_of_le s3 (Nat.le_trans y4.size g4.size)
 have F4:=f4.but g4 (by omega)
 have u4:(Instr.mapUpdate 158 (.map (some w.heap.size)) (.string { data:=#[99,114,101,97,116,101,95,112,101,114,115,105,115,116,101,110,116] }) (.agg #[.int .u8 4,.slice (some ⟨v3.heap.size,0,none⟩) 4 4])).run Tryz.prog (v3.alloc (.cells #[.string { data:=#[110,97,109,101] },.bool false,.string { data:=#[99,97,112,97,99,105,116,121] },.bool false,.string { data:=#[112,111,111,108] },.bool false,.string { data:=#[97,99,99,101,115,115] },.bool true] 133))=.ok () v4:=r4
 have y5:Below v4.heap.size v4 (v4.alloc (.cells fc5 133)):=(Below.refl _ _).alloc (Nat.le_refl _) _
 have x5:=MapV.next m4 y5
 obtain ⟨v5,L5,r5,m5,l5,q5,g5⟩:=x5.put2 l4 (k:=kw 5) ht (by decide) (by decide) (rowV 5 v4.heap.size)
 have f5:Flds (v4.alloc (.cells fc5 133)) v4.heap.size (fldL 5):=flds_new5 _
 have B5:Below w.heap.size w v5:=((B4.trans (y5.mono (Nat.le_of_lt s4)))).grown g5 (Nat.le_of_lt (Nat.lt_of_lt_of_le s4 y5.size)) (fun j hj=>by cases hj;exact Nat.le_refl _)
 have s5:w.heap.size < v5.heap.size:=Nat.lt_of_lt_of_le s4 (Nat.le_trans y5.size g5.size)
 have F5:=f5.but g5 (by omega)
 have u5:(Instr.mapUpdate 158 (.map (some w.heap.size)) (.string { data:=#[100,101,115,116,114,111,121,95,112,101,114,115,105,115,116,101,110,116] }) (.agg #[.int .u8 5,.slice (some ⟨v4.heap.size,0,none⟩) 1 1])).run Tryz.prog (v4.alloc (.cells #[.string { data:=#[110,97,109,101] },.bool false] 133))=.ok () v5:=r5
 have y6:Below v5.heap.size v5 (v5.alloc (.cells fc6 133)):=(Below.refl _ _).alloc (Nat.le_refl _) _
 have x6:=MapV.next m5 y6
 obtain ⟨v6,L6,r6,m6,l6,q6,g6⟩:=x6.put2 l5 (k:=kw 6) ht (by decide) (by decide) (rowV 6 v5.heap.size)
 have f6:Flds (v5.alloc (.cells fc6 133)) v5.heap.size (fldL 6):=flds_new6 _
 have B6:Below w.heap.size w v6:=((B5.trans (y6.mono (Nat.le_of_lt s5)))).grown g6 (Nat.le_of_lt (Nat.lt_of_lt_of_le s5 y6.size)) (fun j hj=>by cases hj;exact Nat.le_refl _)
 have s6:w.heap.size < v6.heap.size:=Nat.lt_of_lt_of_le s5 (Nat.le_trans y6.size g6.size)
 have F6:=f6.but g6 (by omega)
 have u6:(Instr.mapUpdate 158 (.map (some w.heap.size)) (.string { data:=#[117,115,101,95,112,101,114,115,105,115,116,101,110,116] }) (.agg #[.int .u8 6,.slice (some ⟨v5.heap.size,0,none⟩) 1 1])).run Tryz.prog (v5.alloc (.cells #[.string { data:=#[110,97,109,101] },.bool false] 133))=.ok () v6:=r6
 rw [e0] at F1
 have HB:=Lib.hid B6
 have F1:=(F1.next y2).but g2 (by first | omega | (have:=s1;omega))
 have F1:=(F1.next y3).but g3 (by first | omega | (have:=s1;omega))
 have F1:=(F1.next y4).but g4 (by first | omega | (have:=s1;omega))
 have F1:=(F1.next y5).but g5 (by first | omega | (have:=s1;omega))
 have F1:=(F1.next y6).but g6 (by first | omega | (have:=s1;omega))
 have F2:=(F2.next y3).but g3 (by first | omega | (have:=s2;omega))
 have F2:=(F2.next y4).but g4 (by first | omega | (have:=s2;omega))
 have F2:=(F2.next y5).but g5 (by first | omega | (have:=s2;omega))
 have F2:=(F2.next y6).but g6 (by first | omega | (have:=s2;omega))
 have F3:=(F3.next y4).but g4 (by first | omega | (have:=s3;omega))
 have F3:=(F3.next y5).but g5 (by first | omega | (have:=s3;omega))
 have F3:=(F3.next y6).but g6 (by first | omega | (have:=s3;omega))
 have F4:=(F4.next y5).but g5 (by first | omega | (have:=s4;omega))
 have F4:=(F4.next y6).but g6 (by first | omega | (have:=s4;omega))
 have F5:=(F5.next y6).but g6 (by first | omega | (have:=s5;omega))
 have HR:=Lib.hid (show RowsM v6 w.heap.size w.heap.size L6 (fun k=>if k=1 then w.heap.size+1 else if k=2 then v1.heap.size else if k=3 then v2.heap.size else if k=4 then v3.heap.size else if k=5 then v4.heap.size else v5.heap.size) from by
  refine ⟨m6,fun j=>?_,fun k hk=>?_,Nat.le_refl _⟩
  ·rw [q6,q5,q4,q3,q2,q1,kind_if]
   by_cases c6:j=kw 6
   ·rw [if_pos c6,if_pos c6];rfl
   by_cases c5:j=kw 5
   ·rw [if_neg c6,if_pos c5,if_neg c6,if_pos c5];rfl
   by_cases c4:j=kw 4
   ·rw [if_neg c6,if_neg c5,if_pos c4,if_neg c6,if_neg c5,if_pos c4];rfl
   by_cases c3:j=kw 3
   ·rw [if_neg c6,if_neg c5,if_neg c4,if_pos c3,if_neg c6,if_neg c5,if_neg c4,if_pos c3];rfl
   by_cases c2:j=kw 2
   ·rw [if_neg c6,if_neg c5,if_neg c4,if_neg c3,if_pos c2,if_neg c6,if_neg c5,if_neg c4,if_neg c3,if_pos c2];rfl
   by_cases c1:j=kw 1
   ·rw [if_neg c6,if_neg c5,if_neg c4,if_neg c3,if_neg c2,if_pos c1,if_neg c6,if_neg c5,if_neg c4,if_neg c3,if_neg c2,if_pos c1];rfl
   rw [if_neg c6,if_neg c5,if_neg c4,if_neg c3,if_neg c2,if_neg c1,if_neg c6,if_neg c5,if_neg c4,if_neg c3,if_neg c2,if_neg c1];rfl
  ·rcases six hk with rfl | rfl | rfl | rfl | rfl | rfl
   ·exact ⟨F1,by show w.heap.size≤w.heap.size+1;omega⟩
   ·exact ⟨F2,Nat.le_of_lt s1⟩
   ·exact ⟨F3,Nat.le_of_lt s2⟩
   ·exact ⟨F4,Nat.le_of_lt s3⟩
   ·exact ⟨F5,Nat.le_of_lt s4⟩
   ·exact ⟨F6,Nat.le_of_lt s5⟩)
 have hmm:=@run_makeMap Tryz.prog
 clear m0 B0 s0 l0 e0 y1 x1 r1 m1 l1 q1 g1 f1 B1 s1 F1 y2 x2 r2 m2 l2 q2 g2 f2 B2 s2 F2 y3 x3 r3 m3 l3 q3 g3 f3 B3 s3 F3 y4 x4 r4 m4 l4 q4 g4 f4 B4 s4 F4 y5 x5 r5 m5 l5 q5 g5 f5 B5 s5 F5 y6 x6 r6 m6 l6 q6 g6 f6 B6 s6 F6
 go_enter Tryz.func124,Tryz.ntmps124
 go_wp2
 go_ret
 exact ⟨_,_,_,rfl,HR.out,HB.out⟩
end Go.Proofs.YtekcjfdllclphaaGreatDoor.gn
end
section
namespace Go.Proofs.YtekcjfdllclphaaGreatDoor.gn
open Go.RowKit
open Go.Proofs.YtekcjfdllclphaaGreatDoor.un
open Go.Proofs.YtekcjfdllclphaaGreatDoor.di
theorem has_isSome (L:List (Tx × Value)) (j:Tx):Maps.has (datV L) (.string j)=(fi.get j L).isSome:=datV_has j L
theorem same_str (j k:Tx):(Lit.string j).sameKey (.string k)=decide (j=k):=by
 show (j == k)=_
 rw [Bool.eq_iff_iff,beq_iff_eq,decide_eq_true_eq]
theorem kw_inj {k q:Nat} (hk:1≤k∧k≤6) (hq:1≤q∧q≤6) (h:kw k=kw q):k=q:=by
 have h1:=kind_kw hk
 rw [h,kind_kw hq] at h1
 exact (Option.some.inj h1).symm
def FindT (k:Nat) (w:World) (e:Ending) (w':World):Prop :=
 ∃ a,e=.returned (.tuple #[.string (str (kw k)),.slice (some ⟨a,0,none⟩) (fldL k).length (fldL k).length,.bool true])∧Flds w' a (fldL k)∧w.heap.size≤a∧Below w.heap.size w w'
set_option maxRecDepth 100000 in
set_option maxHeartbeats 3200000 in
theorem kfind_yes (k:Nat) (hk:1≤k∧k≤6) (w:World):Calls Tryz.prog 95 #[.int .u8 (k:Nat)] w (FindT k w):=by
 have HK:=Lib.hid hk
 have hk6:k≤6:=hk.2
 clear hk
 go_enter Tryz.func95,Tryz.ntmps95
 go_wp2_with (first
  | (go_at_call 124;refine (rows_any _).mono ?_;rintro e w1 ⟨b,L,a,rfl,hr,hb⟩;have HR:=Lib.hid hr;have HB:=Lib.hid hb;clear hr hb)
  | (at_range;refine wpList_range_map _ rfl _ 158 _ rfl Tryz.underlying158 b L rfl HR.out.m ?_;intro w2 hrg hb2 hs2;have HRG:=Lib.hid hrg;have HB2:=Lib.hid hb2;clear hrg hb2))
 have HB3:=Lib.hid (HB.out.trans (HB2.out.mono HB.out.size))
 have HL:=Lib.hid (show Maps.has (datV L) (.string (kw k))=true by rw [has_isSome,HR.out.get,kind_kw HK.out];rfl)
 go_frame
 go_loopw [9] (fun _ wr=>∃ left cnt,Aside (RngV wr b w1.heap.size L left cnt)∧Aside (left (.string (kw k))=true)∧Aside (Below w.heap.size w wr)∧Aside (Below w1.heap.size w1 wr)) (fun _ wr=>wr.rangeLeft b w1.heap.size)
 case atStart=>exact ⟨_,_,HRG.out,HL.out,HB3.out,HB2.out⟩
 case round =>
  obtain ⟨left,cnt,hrg,hlf,hbw,hbw1⟩:=hrel
  go_wp2_with (at_next;refine wpList_next_map _ rfl _ rfl b w1.heap.size L left cnt rfl hrg ?_ ?_)
  ·intro hc0 hl0
   have:left (.string (kw k))=true:=hlf
   rw [hl0] at this
   cases this
  ·intro j v w4 cnt4 hg hlj hrg4 hlt hbt hs4 hen
   have hgj:=HR.out.get j
   rw [hg] at hgj
   obtain ⟨q,hq,hv⟩:=Option.map_eq_some_iff.1 hgj.symm
   subst hv
   obtain ⟨hj,hq6⟩:=kind_some hq
   subst hj
   have HF:=Lib.hid (HR.out.flds q hq6)
   have HQ:=Lib.hid hq6
   have HG4:=Lib.hid hrg4
   have HLT:=Lib.hid hlt
   have HBT:=Lib.hid hbt
   have hq66:q≤6:=hq6.2
   have HB4:=Lib.hid (show Below w.heap.size w w4 from (show Below w.heap.size w wr from hbw).grown hbt (show Below w.heap.size w wr from hbw).size (fun i hi=>by cases hi;exact HB.out.size))
   have HB41:=Lib.hid (show Below w1.heap.size w1 w4 from (show Below w1.heap.size w1 wr from hbw1).grown hbt (show Below w1.heap.size w1 wr from hbw1).size (fun i hi=>by cases hi;exact Nat.le_refl _))
   have HRG0:=Lib.hid (show RngV wr b w1.heap.size L left cnt from hrg)
   have HLF:=Lib.hid (show left (.string (kw k))=true from hlf)
   unfold rowV at hen
   clear hg hgj hq hrg4 hlt hbt hbw hbw1 hrg hlf hlj hq6
   by_cases hqk:q=k
   ·subst hqk
    go_wp2_with (go_quiet (fail))
    go_ret3
    refine ⟨a q,rfl,?_,HF.out.2,?_⟩
    ·exact HF.out.1.next ((HB41.out.alloc HB41.out.size _).trans (Joins.below_draws _ _ _))
    ·exact (HB4.out.alloc HB4.out.size _).trans (Joins.below_draws _ _ _)
   ·have hne:(((q:Nat):Int) == ((k:Nat):Int))=false:=by rw [beq_eq_false_iff_ne];omega
    have HNE:=Lib.hid hqk
    generalize (fldL q).length=n at *
    clear hqk
    go_wp2
    go_roundw
    case rel =>
     have hy:Below w4.heap.size w4 (w4.alloc (.cells #[.int .u8 (q:Nat),.slice (some ⟨a q,0,none⟩) n n] 161)):=(Below.refl _ _).alloc (Nat.le_refl _) _
     refine ⟨_,cnt4,HG4.out.next hy,?_,HB4.out.trans (hy.mono HB4.out.size),HB41.out.trans (hy.mono HB41.out.size)⟩
     show (left (.string (kw k)) && !(Lit.string (kw k)).sameKey (.string (kw q)))=true
     rw [HLF.out,same_str,decide_eq_false (fun e=>HNE.out (kw_inj HK.out HQ.out e).symm)]
     rfl
    case measure =>
     have hy:Below w4.heap.size w4 (w4.alloc (.cells #[.int .u8 (q:Nat),.slice (some ⟨a q,0,none⟩) n n] 161)):=(Below.refl _ _).alloc (Nat.le_refl _) _
     rw [(HG4.out.next hy).left_eq,HRG0.out.left_eq]
     exact HLT.out
set_option maxRecDepth 100000 in
set_option maxHeartbeats 3200000 in
theorem kfind_no (k:Nat) (hk:¬ (1≤k∧k≤6)) (w:World):Calls Tryz.prog 95 #[.int .u8 (k:Nat)] w (Told (.tuple #[.string (str []),.slice none 0 0,.bool false]) w):=by
 have HK:=Lib.hid hk
 clear hk
 go_enter Tryz.func95,Tryz.ntmps95
 go_wp2_with (first
  | (go_at_call 124;refine (rows_any _).mono ?_;rintro e w1 ⟨b,L,a,rfl,hr,hb⟩;have HR:=Lib.hid hr;have HB:=Lib.hid hb;clear hr hb)
  | (at_range;refine wpList_range_map _ rfl _ 158 _ rfl Tryz.underlying158 b L rfl HR.out.m ?_;intro w2 hrg hb2 hs2;have HRG:=Lib.hid hrg;have HB2:=Lib.hid hb2;clear hrg hb2))
 have HB3:=Lib.hid (HB.out.trans (HB2.out.mono HB.out.size))
 go_frame
 go_loopw [9] (fun _ wr=>∃ left cnt,Aside (RngV wr b w1.heap.size L left cnt)∧Aside (Below w.heap.size w wr)∧Aside (Below w1.heap.size w1 wr)) (fun _ wr=>wr.rangeLeft b w1.heap.size)
 case atStart=>exact ⟨_,_,HRG.out,HB3.out,HB2.out⟩
 case round =>
  obtain ⟨left,cnt,hrg,hbw,hbw1⟩:=hrel
  go_wp2_with (at_next;refine wpList_next_map _ rfl _ rfl b w1.heap.size L left cnt rfl hrg ?_ ?_)
  ·intro hc0 hl0
   have HBW:=Lib.hid (show Below w.heap.size w wr from hbw)
   clear hbw hbw1 hrg
   go_wp2
   go_ret3
   exact ⟨rfl,HBW.out⟩
  ·intro j v w4 cnt4 hg hlj hrg4 hlt hbt hs4 hen
   have hgj:=HR.out.get j
   rw [hg] at hgj
   obtain ⟨q,hq,hv⟩:=Option.map_eq_some_iff.1 hgj.symm
   subst hv
   obtain ⟨hj,hq6⟩:=kind_some hq
   subst hj
   have HF:=Lib.hid (HR.out.flds q hq6)
   have HQ:=Lib.hid hq6
   have HG4:=Lib.hid hrg4
   have HLT:=Lib.hid hlt
   have HBT:=Lib.hid hbt
   have hq66:q≤6:=hq6.2
   have HB4:=Lib.hid (show Below w.heap.size w w4 from (show Below w.heap.size w wr from hbw).grown hbt (show Below w.heap.size w wr from hbw).size (fun i hi=>by cases hi;exact HB.out.size))
   have HB41:=Lib.hid (show Below w1.heap.size w1 w4 from (show Below w1.heap.size w1 wr from hbw1).grown hbt (show Below w1.heap.size w1 wr from hbw1).size (fun i hi=>by cases hi;exact Nat.le_refl _))
   have HRG0:=Lib.hid (show RngV wr b w1.heap.size L left cnt from hrg)
   unfold rowV at hen
   clear hg hgj hq hrg4 hlt hbt hbw hbw1 hrg hlj hq6
   ·have hne:(((q:Nat):Int) == ((k:Nat):Int))=false:=by
     have:=HQ.out;have:=HK.out
     rw [beq_eq_false_iff_ne];omega
    generalize (fldL q).length=n at *
    go_wp2
    go_roundw
    case rel =>
     have hy:Below w4.heap.size w4 (w4.alloc (.cells #[.int .u8 (q:Nat),.slice (some ⟨a q,0,none⟩) n n] 161)):=(Below.refl _ _).alloc (Nat.le_refl _) _
     refine ⟨_,cnt4,HG4.out.next hy,HB4.out.trans (hy.mono HB4.out.size),HB41.out.trans (hy.mono HB41.out.size)⟩
    case measure =>
     have hy:Below w4.heap.size w4 (w4.alloc (.cells #[.int .u8 (q:Nat),.slice (some ⟨a q,0,none⟩) n n] 161)):=(Below.refl _ _).alloc (Nat.le_refl _) _
     rw [(HG4.out.next hy).left_eq,HRG0.out.left_eq]
     exact HLT.out
end Go.Proofs.YtekcjfdllclphaaGreatDoor.gn
end
