/- Slips, plain: the lines behind the first one; the whole text is read again; lines between, and another order, change nothing. (Written ahead of the code.) -/
import Derived.Test.YtekcjfdllclphaaGreatDoorMQaSlN
import Derived.Test.YtekcjfdllclphaaGreatDoorMQaDiB
import Derived.Deep.LoopGhost
import Derived.BigQuiet
section
set_option linter.unusedVariables false
namespace Go.Proofs.YtekcjfdllclphaaGreatDoor.sp
open Go.Proofs.YtekcjfdllclphaaGreatDoor.un
open Go.Proofs.YtekcjfdllclphaaGreatDoor.di
def Once:List Nat→List Dir→Prop
 | _,[]=>True
 | s,d::r=>¬ (d.kind≤3∧d.kind∈s)∧Once (d.kind::s) r
def dirLines (L:List Tx):List Dir:=L.filterMap fun l=>if isD l=true then some (ldir l) else none
theorem dirLines_yes {l:Tx} (h:isD l=true) (r:List Tx):dirLines (l::r)=ldir l::dirLines r:=by
 unfold dirLines
 rw [List.filterMap_cons,if_pos h]
theorem dirLines_no {l:Tx} (h:¬ isD l=true) (r:List Tx):dirLines (l::r)=dirLines r:=by
 unfold dirLines
 rw [List.filterMap_cons,if_neg h]
theorem lrun_lines:∀ (L:List Tx) (x:Slip) (s:List Nat) (i:Nat),(∀ l∈L,isD l=true→lerr l=0)→Once s (dirLines L)→∃ s',lrun (x,s) i L=.ok ((dirLines L).foldl put x,s')
 | [],x,s,i,_,_=>⟨s,rfl⟩
 | l::r,x,s,i,he,ho=>by
  unfold lrun
  by_cases hd:isD l=true
  ·rw [dirLines_yes hd] at ho ⊢
   rw [if_pos hd,if_neg (by rw [he l (by simp) hd];simp),if_neg ho.1]
   exact lrun_lines r _ _ _ (fun y hy=>he y (by simp [hy])) ho.2
  ·rw [dirLines_no hd] at ho ⊢
   rw [if_neg hd]
   exact lrun_lines r x s _ (fun y hy=>he y (by simp [hy])) ho
theorem dtx_line {d:Dir} (h:chk d=true):isD (dtx d)=true∧lerr (dtx d)=0∧ldir (dtx d)=d:=by
 have hl:(dtx d).length≤306:=(made_text h).len
 have hr:=text_read h
 refine ⟨?_,?_,?_⟩
 ·unfold isD dtx lineOf
  rw [joinW_cons _ (by simp)]
  simp [bbW,List.isPrefixOf]
 ·unfold lerr
  rw [if_neg (by omega),hr]
  rfl
 ·unfold ldir
  rw [if_neg (by omega),hr]
  rfl
theorem dirLines_dtx:∀ L:List Dir,(∀ d∈L,chk d=true)→dirLines (L.map dtx)=L
 | [],_=>rfl
 | d::r,h=>by
  have hd:=dtx_line (h d (by simp))
  rw [List.map_cons,dirLines_yes hd.1,hd.2.2,dirLines_dtx r fun e he=>h e (by simp [he])]
theorem put_make:∀ (L:List Dir) (x:Slip),(∀ d∈L,d.kind=4)→L.foldl put x={ x with make:=x.make++L }
 | [],x,_=>by simp
 | d::r,x,h=>by
  have hd:=h d (by simp)
  rw [List.foldl_cons,put_make r _ fun e he=>h e (by simp [he])]
  simp [put,hd]
theorem put_drop:∀ (L:List Tx) (x:Slip),(L.map fun n=>(⟨5,n,[],0,false⟩:Dir)).foldl put x={ x with drop:=x.drop++L }
 | [],x=>by simp
 | d::r,x=>by
  rw [List.map_cons,List.foldl_cons,put_drop r]
  simp [put]
theorem put_use:∀ (L:List Tx) (x:Slip),(L.map fun n=>(⟨6,n,[],0,false⟩:Dir)).foldl put x={ x with use:=x.use++L }
 | [],x=>by simp
 | d::r,x=>by
  rw [List.map_cons,List.foldl_cons,put_use r]
  simp [put]
theorem fold_dirs {x:Slip} (h:Ok x):(dirsS x).foldl put (head1 x)=x:=by
 have hm:∀ d∈x.make,d.kind=4:=fun d hd=>(h.make d hd).1
 have hp0:=h.pool0
 have hc:=h.cap
 have hi:=h.inn
 have ho:=h.out
 unfold dirsS
 rw [List.foldl_append,List.foldl_append,List.foldl_append,List.foldl_append,List.foldl_append,put_make _ _ hm,put_drop,put_use]
 obtain ⟨u,n,w,q,a,c,i,o,p,m,dr,us⟩:=x
 simp only at hc hi ho hp0
 by_cases h1:0 < c
 ·by_cases h2:0 < i
  ·by_cases h3:0 < o
   ·simp [head1,Slip.zero,put,h1,h2,h3]
   ·obtain rfl:o=0:=by omega
    simp [head1,Slip.zero,put,h1,h2]
  ·obtain rfl:i=0:=by omega
   by_cases h3:0 < o
   ·simp [head1,Slip.zero,put,h1,h3]
   ·obtain rfl:o=0:=by omega
    simp [head1,Slip.zero,put,h1]
 ·obtain rfl:c=0:=by omega
  obtain rfl:i=0:=by omega
  obtain rfl:o=0:=by omega
  have:=hp0 rfl
  subst this
  simp [head1,Slip.zero]
theorem once_of:∀ (L:List Dir) (s:List Nat),((L.filter fun d=>decide (d.kind≤3)).map (·.kind)).Nodup→(∀ d∈L,d.kind≤3→d.kind ∉ s)→Once s L
 | [],_,_,_=>trivial
 | d::r,s,hn,hs=>by
  refine ⟨fun hk=>hs d (by simp) hk.1 hk.2,once_of r _ ?_ ?_⟩
  ·by_cases hd:d.kind≤3
   ·rw [List.filter_cons_of_pos (by simpa using hd),List.map_cons,List.nodup_cons] at hn
    exact hn.2
   ·rwa [List.filter_cons_of_neg (by simpa using hd)] at hn
  ·intro e he hk
   simp only [List.mem_cons,not_or]
   refine ⟨fun hee=>?_,hs e (by simp [he]) hk⟩
   rw [List.filter_cons_of_pos (by simpa using (by omega:d.kind≤3)),List.map_cons,List.nodup_cons] at hn
   exact hn.1 (List.mem_map.2 ⟨e,List.mem_filter.2 ⟨he,by simpa using hk⟩,hee⟩)
theorem dirs_mem {x:Slip} (h:Ok x) {d:Dir} (hd:d∈dirsS x):chk d=true:=by
 have hc:=h.cap
 have hi:=h.inn
 have ho:=h.out
 unfold dirsS at hd
 simp only [List.mem_append] at hd
 rcases hd with ((((hd | hd) | hd) | hd) | hd) | hd
 ·split at hd
  ·rename_i h0
   simp only [List.mem_cons,List.not_mem_nil,or_false] at hd
   subst hd
   rw [chk_iff]
   have:=h.pool1 (by omega)
   simp [hasSize,hasName,hasPool,h0,this]
   exact ⟨⟨hc.1,hc.2⟩,by decide⟩
  ·simp at hd
 ·split at hd
  ·rename_i h0
   simp only [List.mem_cons,List.not_mem_nil,or_false] at hd
   subst hd
   rw [chk_iff]
   simp [hasSize,hasName,hasPool,h0]
   exact ⟨⟨hi.1,by omega⟩,by decide⟩
  ·simp at hd
 ·split at hd
  ·rename_i h0
   simp only [List.mem_cons,List.not_mem_nil,or_false] at hd
   subst hd
   rw [chk_iff]
   simp [hasSize,hasName,hasPool,h0]
   exact ⟨⟨ho.1,by omega⟩,by decide⟩
  ·simp at hd
 ·exact (h.make d hd).2
 ·obtain ⟨n,hn,rfl⟩:=List.mem_map.1 hd
  have:=h.drop.2.2 n hn
  rw [chk_iff]
  simp [hasSize,hasName,hasPool,this]
  decide
 ·obtain ⟨n,hn,rfl⟩:=List.mem_map.1 hd
  have:=h.use.2.2 n hn
  rw [chk_iff]
  simp [hasSize,hasName,hasPool,this]
  decide
end Go.Proofs.YtekcjfdllclphaaGreatDoor.sp
end
section
set_option linter.unusedVariables false
namespace Go.Proofs.YtekcjfdllclphaaGreatDoor.gn
open Go.RowKit
open Go.Proofs.YtekcjfdllclphaaGreatDoor.un
open Go.Proofs.YtekcjfdllclphaaGreatDoor.di
theorem sto_name (v:Tx) (d:Dir):sto nameK v d=if isName v=true then { d with name:=v } else d:=by unfold sto;rw [if_pos rfl]
theorem sto_pool (v:Tx) (d:Dir):sto poolK v d=if isName v=true then { d with pool:=v } else d:=by unfold sto;rw [if_neg (by decide),if_pos rfl]
theorem sto_acc (v:Tx) (d:Dir):sto accK v d={ d with opn:=v == pubV }:=by unfold sto;rw [if_neg (by decide),if_neg (by decide),if_pos rfl]
theorem sto_cap (v:Tx) (d:Dir):sto capK v d={ d with size:=(((size? v).getD 0:Nat):Int) }:=by unfold sto;rw [if_neg (by decide),if_neg (by decide),if_neg (by decide)]
theorem sto_size (v:Tx) (d:Dir):sto sizeK v d={ d with size:=(((size? v).getD 0:Nat):Int) }:=by unfold sto;rw [if_neg (by decide),if_neg (by decide),if_neg (by decide)]
theorem okv_cap (v:Tx):okv capK v=decide (0 < (size? v).getD 0):=by unfold okv;rw [if_pos (.inl rfl)]
theorem okv_siz (v:Tx):okv sizeK v=decide (0 < (size? v).getD 0):=by unfold okv;rw [if_pos (.inr rfl)]
def StoT (bd:Nat) (key v:Tx) (d:Dir) (w:World) (e:Ending) (w':World):Prop :=
 e=.returned (.bool (okv key v))∧But bd w w'∧DirB w' bd (sto key v d)
set_option maxRecDepth 100000 in
set_option maxHeartbeats 1600000 in
theorem sto_name_any (c bd:Nat) (d:Dir) (v:Tx) (hv:v.length≤9223372036854775807) (w:World) (hp:PtrB w c bd) (hd:DirB w bd d) :
  Calls Tryz.prog 145 #[.string (str v),.pointer (some ⟨c,0,none⟩)] w (StoT bd nameK v d w):=by
 have hc:w.cell? ⟨c,0,none⟩=some (.pointer (some ⟨bd,0,none⟩)):=BoxA.cell hp 0 _ rfl
 have HD:=Lib.hid hd
 have HV:=Lib.hid hv
 clear hp hd hv
 go_enter Tryz.func145,Tryz.ntmps145
 go_wp2_with (go_at_call 146;refine (storeName_any bd 1 d.name v HV.out _ HD.out.cells.2.1 (BoxA.free HD.out 1) HD.out.lt).mono ?_;rintro e w1 ⟨rfl,w2,hb,hw⟩;have HB:=Lib.hid hb;have HW:=Lib.hid hw;clear hb hw)
 go_ret
 refine ⟨by rw [okv_name];rfl,?_,?_⟩
 ·rw [HW.out]
  split
  ·exact (But.of_below HB.out).setCell _ _
  ·exact But.of_below HB.out
 ·rw [HW.out,sto_name]
  split
  ·exact (HD.out.next HB.out).name v
  ·exact HD.out.next HB.out
set_option maxRecDepth 100000 in
set_option maxHeartbeats 1600000 in
theorem sto_pool_any (c bd:Nat) (d:Dir) (v:Tx) (hv:v.length≤9223372036854775807) (w:World) (hp:PtrB w c bd) (hd:DirB w bd d) :
  Calls Tryz.prog 147 #[.string (str v),.pointer (some ⟨c,0,none⟩)] w (StoT bd poolK v d w):=by
 have hc:w.cell? ⟨c,0,none⟩=some (.pointer (some ⟨bd,0,none⟩)):=BoxA.cell hp 0 _ rfl
 have HD:=Lib.hid hd
 have HV:=Lib.hid hv
 clear hp hd hv
 go_enter Tryz.func147,Tryz.ntmps147
 go_wp2_with (go_at_call 146;refine (storeName_any bd 2 d.pool v HV.out _ HD.out.cells.2.2.1 (BoxA.free HD.out 2) HD.out.lt).mono ?_;rintro e w1 ⟨rfl,w2,hb,hw⟩;have HB:=Lib.hid hb;have HW:=Lib.hid hw;clear hb hw)
 go_ret
 refine ⟨by rw [okv_pool];rfl,?_,?_⟩
 ·rw [HW.out]
  split
  ·exact (But.of_below HB.out).setCell _ _
  ·exact But.of_below HB.out
 ·rw [HW.out,sto_pool]
  split
  ·exact (HD.out.next HB.out).pool v
  ·exact HD.out.next HB.out
set_option maxRecDepth 100000 in
set_option maxHeartbeats 1600000 in
theorem sto_size_any (c bd:Nat) (d:Dir) (v:Tx) (hv:v.length≤140737488355328) (w:World) (hp:PtrB w c bd) (hd:DirB w bd d) (hL:LaidU w) :
  Calls Tryz.prog 144 #[.string (str v),.pointer (some ⟨c,0,none⟩)] w (StoT bd capK v d w):=by
 have HP:=Lib.hid hp
 have HD:=Lib.hid hd
 have HV:=Lib.hid hv
 have HL:=Lib.hid hL
 obtain ⟨o,ho⟩:∃ o,size? v=o:=⟨_,rfl⟩
 have HO:=Lib.hid ho
 clear hp hd hv hL ho
 cases o with
 | none =>
  go_enter Tryz.func144,Tryz.ntmps144
  go_wp2_with (go_at_call 120;refine (size_any v HV.out _ HL.out).mono ?_;rintro e w1 ⟨rfl,hb⟩;rw [HO.out,qv_none,qe_none];have HB:=Lib.hid hb;have hc:w1.cell? ⟨c,0,none⟩=some (.pointer (some ⟨bd,0,none⟩)):=BoxA.cell (HP.out.next hb) 0 _ rfl;have hs:=(HD.out.next hb).cells.2.2.2.1;have hf:=BoxA.free (HD.out.next hb) 3;clear hb)
  go_ret
  refine ⟨by rw [okv_cap,HO.out];rfl,(But.of_below HB.out).setCell _ _,?_⟩
  rw [sto_cap,HO.out]
  exact (HD.out.next HB.out).size _
 | some n =>
  by_cases hn:n=0
  ·subst hn
   go_enter Tryz.func144,Tryz.ntmps144
   go_wp2_with (go_at_call 120;refine (size_any v HV.out _ HL.out).mono ?_;rintro e w1 ⟨rfl,hb⟩;rw [HO.out,qv_some,qe_some];have HB:=Lib.hid hb;have hc:w1.cell? ⟨c,0,none⟩=some (.pointer (some ⟨bd,0,none⟩)):=BoxA.cell (HP.out.next hb) 0 _ rfl;have hs:=(HD.out.next hb).cells.2.2.2.1;have hf:=BoxA.free (HD.out.next hb) 3;clear hb)
   go_ret
   refine ⟨by rw [okv_cap,HO.out];rfl,(But.of_below HB.out).setCell _ _,?_⟩
   rw [sto_cap,HO.out]
   exact (HD.out.next HB.out).size _
  ·have hn0:decide (0 < (n:Int))=true:=decide_eq_true (by omega)
   have hn1:0 < n:=by omega
   go_enter Tryz.func144,Tryz.ntmps144
   go_wp2_with (go_at_call 120;refine (size_any v HV.out _ HL.out).mono ?_;rintro e w1 ⟨rfl,hb⟩;rw [HO.out,qv_some,qe_some];have HB:=Lib.hid hb;have hc:w1.cell? ⟨c,0,none⟩=some (.pointer (some ⟨bd,0,none⟩)):=BoxA.cell (HP.out.next hb) 0 _ rfl;have hs:=(HD.out.next hb).cells.2.2.2.1;have hf:=BoxA.free (HD.out.next hb) 3;clear hb)
   go_ret
   refine ⟨by rw [okv_cap,HO.out];simp [hn1],(But.of_below HB.out).setCell _ _,?_⟩
   rw [sto_cap,HO.out]
   exact (HD.out.next HB.out).size _
set_option maxRecDepth 100000 in
set_option maxHeartbeats 1600000 in
theorem sto_acc_any (c bd:Nat) (d:Dir) (v:Tx) (w:World) (hp:PtrB w c bd) (hd:DirB w bd d) :
  Calls Tryz.prog 148 #[.string (str v),.pointer (some ⟨c,0,none⟩)] w (StoT bd accK v d w):=by
 have hc:w.cell? ⟨c,0,none⟩=some (.pointer (some ⟨bd,0,none⟩)):=BoxA.cell hp 0 _ rfl
 have hs:=hd.cells.2.2.2.2
 have hf:=BoxA.free hd 4
 have HD:=Lib.hid hd
 clear hp hd
 by_cases h1:v=pubV
 ·obtain ⟨q1,q2⟩:=lit_yes h1
  have HE:=Lib.hid h1
  unfold pubV at q1 q2
  clear h1
  go_enter Tryz.func148,Tryz.ntmps148
  go_wp2
  go_ret
  refine ⟨by rw [okv_acc,HE.out];rfl,(But.refl _ _).setCell _ _,?_⟩
  rw [sto_acc,HE.out]
  exact HD.out.opn true
 ·obtain ⟨q1,q2⟩:=lit_no h1
  have HE:=Lib.hid (show (v == pubV)=false by rw [beq_eq_false_iff_ne];exact h1)
  unfold pubV at q1 q2
  clear h1
  by_cases h2:v=priV
  ·obtain ⟨q3,q4⟩:=lit_yes h2
   have HF:=Lib.hid (show (v == priV)=true by rw [h2];decide)
   unfold priV at q3 q4
   clear h2
   go_enter Tryz.func148,Tryz.ntmps148
   go_wp2
   go_ret
   refine ⟨by rw [okv_acc,HE.out,HF.out];rfl,(But.refl _ _).setCell _ _,?_⟩
   rw [sto_acc,HE.out]
   exact HD.out.opn false
  ·obtain ⟨q3,q4⟩:=lit_no h2
   have HF:=Lib.hid (show (v == priV)=false by rw [beq_eq_false_iff_ne];exact h2)
   unfold priV at q3 q4
   clear h2
   go_enter Tryz.func148,Tryz.ntmps148
   go_wp2
   go_ret
   refine ⟨by rw [okv_acc,HE.out,HF.out];rfl,(But.refl _ _).setCell _ _,?_⟩
   rw [sto_acc,HE.out]
   exact HD.out.opn false
end Go.Proofs.YtekcjfdllclphaaGreatDoor.gn
end
section
set_option linter.unusedVariables false
namespace Go.Proofs.YtekcjfdllclphaaGreatDoor.gn
open Go.RowKit
open Go.Proofs.YtekcjfdllclphaaGreatDoor.un
open Go.Proofs.YtekcjfdllclphaaGreatDoor.di
def clo (g:FuncId) (c:Nat):Value:=.func (.func g) #[] #[.pointer (some ⟨c,0,none⟩)]
def cloF (c:Nat) (j:Tx):Option Value :=
 if j=accK then some (clo 148 c) else if j=sizeK then some (clo 144 c) else if j=capK then some (clo 144 c)
 else if j=poolK then some (clo 147 c) else if j=nameK then some (clo 145 c) else none
theorem cloF_acc (c:Nat):cloF c accK=some (clo 148 c):=by unfold cloF;rw [if_pos rfl]
theorem cloF_size (c:Nat):cloF c sizeK=some (clo 144 c):=by unfold cloF;rw [if_neg (by decide),if_pos rfl]
theorem cloF_cap (c:Nat):cloF c capK=some (clo 144 c):=by unfold cloF;rw [if_neg (by decide),if_neg (by decide),if_pos rfl]
theorem cloF_pool (c:Nat):cloF c poolK=some (clo 147 c):=by unfold cloF;rw [if_neg (by decide),if_neg (by decide),if_neg (by decide),if_pos rfl]
theorem cloF_name (c:Nat):cloF c nameK=some (clo 145 c):=by unfold cloF;rw [if_neg (by decide),if_neg (by decide),if_neg (by decide),if_neg (by decide),if_pos rfl]
structure StM (w:World) (B b c bd:Nat) (L:List (Tx × Value)):Prop where
 m:MapV w b L
 get:∀ j,fi.get j L=cloF c j
 ptr:PtrB w c bd
 hb:B≤b
 hc:B≤c
theorem StM.next {w w':World} {B b c bd:Nat} {L:List (Tx × Value)} (h:StM w B b c bd L) (hb:Below w.heap.size w w'):StM w' B b c bd L:=⟨h.m.next hb,h.get,h.ptr.next hb,h.hb,h.hc⟩
theorem StM.but {w w':World} {B b c bd R:Nat} {L:List (Tx × Value)} (h:StM w B b c bd L) (hb:But R w w') (hR:R < B):StM w' B b c bd L :=
 ⟨h.m.but hb (by have:=h.hb;omega),h.get,h.ptr.but hb (by have:=h.hc;omega),h.hb,h.hc⟩
set_option maxRecDepth 100000 in
set_option maxHeartbeats 3200000 in
theorem stores_any (bd:Nat) (w:World):Calls Tryz.prog 123 #[.pointer (some ⟨bd,0,none⟩)] w fun e w'=>∃ b c L,e=.returned (.map (some b))∧StM w' w.heap.size b c bd L∧Below w.heap.size w w':=by
 have ht:=Tryz.underlying155
 have p0:PtrB (w.alloc (.cells #[.pointer (some ⟨bd,0,none⟩)] 157)) w.heap.size bd:=BoxA.new _ _ _
 have b0:Below w.heap.size w (w.alloc (.cells #[.pointer (some ⟨bd,0,none⟩)] 157)):=(Below.refl _ w).alloc (Nat.le_refl _) _
 obtain ⟨z,hz⟩:∃ z,w.alloc (.cells #[.pointer (some ⟨bd,0,none⟩)] 157)=z:=⟨_,rfl⟩
 have sz:z.heap.size=w.heap.size+1:=by rw [←hz];simp
 rw [hz] at p0 b0
 have y0:Below z.heap.size z (z.alloc (.map #[] 0)):=(Below.refl _ _).alloc (Nat.le_refl _) _
 have m0:=MapV.new z
 have P0:=p0.next y0
 have B0:Below w.heap.size w (z.alloc (.map #[] 0)):=b0.trans (y0.mono b0.size)
 have l0:([]:List (Tx × Value)).length≤0:=Nat.le_refl _
 obtain ⟨v1,L1,r1,m1,l1,q1,g1⟩:=m0.put2 l0 (k:=nameK) ht (by decide) (by decide) (clo 145 w.heap.size)
 obtain ⟨v2,L2,r2,m2,l2,q2,g2⟩:=m1.put2 l1 (k:=poolK) ht (by decide) (by decide) (clo 147 w.heap.size)
 obtain ⟨v3,L3,r3,m3,l3,q3,g3⟩:=m2.put2 l2 (k:=capK) ht (by decide) (by decide) (clo 144 w.heap.size)
 obtain ⟨v4,L4,r4,m4,l4,q4,g4⟩:=m3.put2 l3 (k:=sizeK) ht (by decide) (by decide) (clo 144 w.heap.size)
 obtain ⟨v5,L5,r5,m5,l5,q5,g5⟩:=m4.put2 l4 (k:=accK) ht (by decide) (by decide) (clo 148 w.heap.size)
 have hg:But z.heap.size (z.alloc (.map #[] 0)) v5:=(((g1.trans g2).trans g3).trans g4).trans g5
 have HB:=Lib.hid (B0.grown hg B0.size (fun j hj=>by cases hj;rw [sz];omega))
 have HS:=Lib.hid (show StM v5 w.heap.size z.heap.size w.heap.size bd L5 from
  ⟨m5,fun j=>by rw [q5,q4,q3,q2,q1];rfl,P0.but hg (by rw [sz];omega),by rw [sz];omega,Nat.le_refl _⟩)
 have u1:(Instr.mapUpdate 155 (.map (some (w.heap.size+1))) (.string { data:=#[110,97,109,101] }) (.func (.func 145) #[] #[.pointer (some ⟨w.heap.size,0,none⟩)])).run Tryz.prog (z.alloc (.map #[] 0))=.ok () v1:=by rw [←sz];exact r1
 have u2:(Instr.mapUpdate 155 (.map (some (w.heap.size+1))) (.string { data:=#[112,111,111,108] }) (.func (.func 147) #[] #[.pointer (some ⟨w.heap.size,0,none⟩)])).run Tryz.prog v1=.ok () v2:=by rw [←sz];exact r2
 have u3:(Instr.mapUpdate 155 (.map (some (w.heap.size+1))) (.string { data:=#[99,97,112,97,99,105,116,121] }) (.func (.func 144) #[] #[.pointer (some ⟨w.heap.size,0,none⟩)])).run Tryz.prog v2=.ok () v3:=by rw [←sz];exact r3
 have u4:(Instr.mapUpdate 155 (.map (some (w.heap.size+1))) (.string { data:=#[115,105,122,101] }) (.func (.func 144) #[] #[.pointer (some ⟨w.heap.size,0,none⟩)])).run Tryz.prog v3=.ok () v4:=by rw [←sz];exact r4
 have u5:(Instr.mapUpdate 155 (.map (some (w.heap.size+1))) (.string { data:=#[97,99,99,101,115,115] }) (.func (.func 148) #[] #[.pointer (some ⟨w.heap.size,0,none⟩)])).run Tryz.prog v4=.ok () v5:=by rw [←sz];exact r5
 rw [←hz] at u1
 have SZ:=Lib.hid sz
 have hmm:=@run_makeMap Tryz.prog
 clear p0 b0 sz y0 m0 P0 B0 l0 r1 r2 r3 r4 r5 m1 m2 m3 m4 m5 l1 l2 l3 l4 l5 q1 q2 q3 q4 q5 g1 g2 g3 g4 g5 hg hz
 go_enter Tryz.func123,Tryz.ntmps123
 go_wp2
 go_ret
 exact ⟨z.heap.size,_,_,by rw [SZ.out];rfl,HS.out,HB.out⟩
end Go.Proofs.YtekcjfdllclphaaGreatDoor.gn
end
section
set_option linter.unusedVariables false
namespace Go.Proofs.YtekcjfdllclphaaGreatDoor.gn
open Go.RowKit
open Go.Proofs.YtekcjfdllclphaaGreatDoor.un
open Go.Proofs.YtekcjfdllclphaaGreatDoor.di
theorem has_isSome (L:List (Tx × Value)) (j:Tx):Maps.has (datV L) (.string j)=(fi.get j L).isSome:=datV_has j L
theorem same_str (j k:Tx):(Lit.string j).sameKey (.string k)=decide (j=k):=by
 show (j == k)=_
 rw [Bool.eq_iff_iff,beq_iff_eq,decide_eq_true_eq]
theorem kw_inj {k q:Nat} (hk:1≤k∧k≤6) (hq:1≤q∧q≤6) (h:kw k=kw q):k=q:=by
 have h1:=kind_kw hk
 rw [h,kind_kw hq] at h1
 exact (Option.some.inj h1).symm
def FindT (k:Nat) (w:World) (e:Ending) (w':World):Prop :=
 ∃ a,e=.returned (.tuple #[.string (str (kw k)),.slice (some ⟨a,0,none⟩) (fldL k).length (fldL k).length,.bool true])∧Flds w' a (fldL k)∧w.heap.size≤a∧Below w.heap.size w w'
set_option maxRecDepth 100000 in
set_option maxHeartbeats 3200000 in
theorem kfind_yes (k:Nat) (hk:1≤k∧k≤6) (w:World):Calls Tryz.prog 95 #[.int .u8 (k:Nat)] w (FindT k w):=by
 have HK:=Lib.hid hk
 have hk6:k≤6:=hk.2
 clear hk
 go_enter Tryz.func95,Tryz.ntmps95
 go_wp2_with (first
  | (go_at_call 124;refine (rows_any _).mono ?_;rintro e w1 ⟨b,L,a,rfl,hr,hb⟩;have HR:=Lib.hid hr;have HB:=Lib.hid hb;clear hr hb)
  | (at_range;refine wpList_range_map _ rfl _ 158 _ rfl Tryz.underlying158 b L rfl HR.out.m ?_;intro w2 hrg hb2 hs2;have HRG:=Lib.hid hrg;have HB2:=Lib.hid hb2;clear hrg hb2))
 have HB3:=Lib.hid (HB.out.trans (HB2.out.mono HB.out.size))
 have HL:=Lib.hid (show Maps.has (datV L) (.string (kw k))=true by rw [has_isSome,HR.out.get,kind_kw HK.out];rfl)
 go_frame
 go_loopw [9] (fun _ wr=>∃ left cnt,Aside (RngV wr b w1.heap.size L left cnt)∧Aside (left (.string (kw k))=true)∧Aside (Below w.heap.size w wr)∧Aside (Below w1.heap.size w1 wr)) (fun _ wr=>wr.rangeLeft b w1.heap.size)
 case atStart=>exact ⟨_,_,HRG.out,HL.out,HB3.out,HB2.out⟩
 case round =>
  obtain ⟨left,cnt,hrg,hlf,hbw,hbw1⟩:=hrel
  go_wp2_with (at_next;refine wpList_next_map _ rfl _ rfl b w1.heap.size L left cnt rfl hrg ?_ ?_)
  ·intro hc0 hl0
   have:left (.string (kw k))=true:=hlf
   rw [hl0] at this
   cases this
  ·intro j v w4 cnt4 hg hlj hrg4 hlt hbt hs4 hen
   have hgj:=HR.out.get j
   rw [hg] at hgj
   obtain ⟨q,hq,hv⟩:=Option.map_eq_some_iff.1 hgj.symm
   subst hv
   obtain ⟨hj,hq6⟩:=kind_some hq
   subst hj
   have HF:=Lib.hid (HR.out.flds q hq6)
   have HQ:=Lib.hid hq6
   have HG4:=Lib.hid hrg4
   have HLT:=Lib.hid hlt
   have HBT:=Lib.hid hbt
   have hq66:q≤6:=hq6.2
   have HB4:=Lib.hid (show Below w.heap.size w w4 from (show Below w.heap.size w wr from hbw).grown hbt (show Below w.heap.size w wr from hbw).size (fun i hi=>by cases hi;exact HB.out.size))
   have HB41:=Lib.hid (show Below w1.heap.size w1 w4 from (show Below w1.heap.size w1 wr from hbw1).grown hbt (show Below w1.heap.size w1 wr from hbw1).size (fun i hi=>by cases hi;exact Nat.le_refl _))
   have HRG0:=Lib.hid (show RngV wr b w1.heap.size L left cnt from hrg)
   have HLF:=Lib.hid (show left (.string (kw k))=true from hlf)
   unfold rowV at hen
   clear hg hgj hq hrg4 hlt hbt hbw hbw1 hrg hlf hlj hq6
   by_cases hqk:q=k
   ·subst hqk
    go_wp2_with (go_quiet (fail))
    go_ret3
    refine ⟨a q,rfl,?_,HF.out.2,?_⟩
    ·exact HF.out.1.next ((HB41.out.alloc HB41.out.size _).trans (Joins.below_draws _ _ _))
    ·exact (HB4.out.alloc HB4.out.size _).trans (Joins.below_draws _ _ _)
   ·have hne:(((q:Nat):Int) == ((k:Nat):Int))=false:=by rw [beq_eq_false_iff_ne];omega
    have HNE:=Lib.hid hqk
    generalize (fldL q).length=n at *
    clear hqk
    go_wp2
    go_roundw
    case rel =>
     have hy:Below w4.heap.size w4 (w4.alloc (.cells #[.int .u8 (q:Nat),.slice (some ⟨a q,0,none⟩) n n] 161)):=(Below.refl _ _).alloc (Nat.le_refl _) _
     refine ⟨_,cnt4,HG4.out.next hy,?_,HB4.out.trans (hy.mono HB4.out.size),HB41.out.trans (hy.mono HB41.out.size)⟩
     show (left (.string (kw k)) && !(Lit.string (kw k)).sameKey (.string (kw q)))=true
     rw [HLF.out,same_str,decide_eq_false (fun e=>HNE.out (kw_inj HK.out HQ.out e).symm)]
     rfl
    case measure =>
     have hy:Below w4.heap.size w4 (w4.alloc (.cells #[.int .u8 (q:Nat),.slice (some ⟨a q,0,none⟩) n n] 161)):=(Below.refl _ _).alloc (Nat.le_refl _) _
     rw [(HG4.out.next hy).left_eq,HRG0.out.left_eq]
     exact HLT.out
set_option maxRecDepth 100000 in
set_option maxHeartbeats 3200000 in
theorem kfind_no (k:Nat) (hk:¬ (1≤k∧k≤6)) (w:World):Calls Tryz.prog 95 #[.int .u8 (k:Nat)] w (Told (.tuple #[.string (str []),.slice none 0 0,.bool false]) w):=by
 have HK:=Lib.hid hk
 clear hk
 go_enter Tryz.func95,Tryz.ntmps95
 go_wp2_with (first
  | (go_at_call 124;refine (rows_any _).mono ?_;rintro e w1 ⟨b,L,a,rfl,hr,hb⟩;have HR:=Lib.hid hr;have HB:=Lib.hid hb;clear hr hb)
  | (at_range;refine wpList_range_map _ rfl _ 158 _ rfl Tryz.underlying158 b L rfl HR.out.m ?_;intro w2 hrg hb2 hs2;have HRG:=Lib.hid hrg;have HB2:=Lib.hid hb2;clear hrg hb2))
 have HB3:=Lib.hid (HB.out.trans (HB2.out.mono HB.out.size))
 go_frame
 go_loopw [9] (fun _ wr=>∃ left cnt,Aside (RngV wr b w1.heap.size L left cnt)∧Aside (Below w.heap.size w wr)∧Aside (Below w1.heap.size w1 wr)) (fun _ wr=>wr.rangeLeft b w1.heap.size)
 case atStart=>exact ⟨_,_,HRG.out,HB3.out,HB2.out⟩
 case round =>
  obtain ⟨left,cnt,hrg,hbw,hbw1⟩:=hrel
  go_wp2_with (at_next;refine wpList_next_map _ rfl _ rfl b w1.heap.size L left cnt rfl hrg ?_ ?_)
  ·intro hc0 hl0
   have HBW:=Lib.hid (show Below w.heap.size w wr from hbw)
   clear hbw hbw1 hrg
   go_wp2
   go_ret3
   exact ⟨rfl,HBW.out⟩
  ·intro j v w4 cnt4 hg hlj hrg4 hlt hbt hs4 hen
   have hgj:=HR.out.get j
   rw [hg] at hgj
   obtain ⟨q,hq,hv⟩:=Option.map_eq_some_iff.1 hgj.symm
   subst hv
   obtain ⟨hj,hq6⟩:=kind_some hq
   subst hj
   have HF:=Lib.hid (HR.out.flds q hq6)
   have HQ:=Lib.hid hq6
   have HG4:=Lib.hid hrg4
   have HLT:=Lib.hid hlt
   have HBT:=Lib.hid hbt
   have hq66:q≤6:=hq6.2
   have HB4:=Lib.hid (show Below w.heap.size w w4 from (show Below w.heap.size w wr from hbw).grown hbt (show Below w.heap.size w wr from hbw).size (fun i hi=>by cases hi;exact HB.out.size))
   have HB41:=Lib.hid (show Below w1.heap.size w1 w4 from (show Below w1.heap.size w1 wr from hbw1).grown hbt (show Below w1.heap.size w1 wr from hbw1).size (fun i hi=>by cases hi;exact Nat.le_refl _))
   have HRG0:=Lib.hid (show RngV wr b w1.heap.size L left cnt from hrg)
   unfold rowV at hen
   clear hg hgj hq hrg4 hlt hbt hbw hbw1 hrg hlj hq6
   ·have hne:(((q:Nat):Int) == ((k:Nat):Int))=false:=by
     have:=HQ.out;have:=HK.out
     rw [beq_eq_false_iff_ne];omega
    generalize (fldL q).length=n at *
    go_wp2
    go_roundw
    case rel =>
     have hy:Below w4.heap.size w4 (w4.alloc (.cells #[.int .u8 (q:Nat),.slice (some ⟨a q,0,none⟩) n n] 161)):=(Below.refl _ _).alloc (Nat.le_refl _) _
     refine ⟨_,cnt4,HG4.out.next hy,HB4.out.trans (hy.mono HB4.out.size),HB41.out.trans (hy.mono HB41.out.size)⟩
    case measure =>
     have hy:Below w4.heap.size w4 (w4.alloc (.cells #[.int .u8 (q:Nat),.slice (some ⟨a q,0,none⟩) n n] 161)):=(Below.refl _ _).alloc (Nat.le_refl _) _
     rw [(HG4.out.next hy).left_eq,HRG0.out.left_eq]
     exact HLT.out
end Go.Proofs.YtekcjfdllclphaaGreatDoor.gn
end
section
set_option linter.unusedVariables false
namespace Go.Proofs.YtekcjfdllclphaaGreatDoor.gn
open Go.RowKit
open Go.Proofs.YtekcjfdllclphaaGreatDoor.un
open Go.Proofs.YtekcjfdllclphaaGreatDoor.di
def omi (f:Tx × Bool) (v:Tx):Bool:=f.2 && decide (v=[])
theorem omi_iff (f:Tx × Bool) (v:Tx):omi f v=true↔f.2=true∧v=[]:=by
 unfold omi
 simp
set_option maxRecDepth 100000 in
theorem omitted_any (key:Tx) (o:Bool) (v:Tx) (w:World):Calls Tryz.prog 97 #[.agg #[.string (str key),.bool o],.string (str v)] w (Told (.bool (omi (key,o) v)) w):=by
 have HB:=Lib.hid (show Below w.heap.size w (w.alloc (.cells #[.string (str key),.bool o] 133)) from (Below.refl _ _).alloc (Nat.le_refl _) _)
 cases o with
 | false =>
  go_enter Tryz.func97,Tryz.ntmps97
  go_wp2
  go_ret
  exact ⟨rfl,HB.out⟩
 | true =>
  have H:=Lib.hid (show omi (key,true) v=decide (v=[]) from rfl)
  by_cases h:v=[]
  ·obtain ⟨q,q2⟩:=lit_yes h
   rw [decide_eq_true h] at H
   clear h
   go_enter Tryz.func97,Tryz.ntmps97
   go_wp2
   go_ret
   exact ⟨by rw [H.out];rfl,HB.out⟩
  ·obtain ⟨q,q2⟩:=lit_no h
   rw [decide_eq_false h] at H
   clear h
   go_enter Tryz.func97,Tryz.ntmps97
   go_wp2
   go_ret
   exact ⟨by rw [H.out];rfl,HB.out⟩
theorem val_name (d:Dir):val d nameK=d.name:=by unfold val;rw [if_pos rfl]
theorem val_pool (d:Dir):val d poolK=d.pool:=by unfold val;rw [if_neg (by decide),if_pos rfl]
theorem val_acc (d:Dir):val d accK=if d.opn=true then pubV else []:=by unfold val;rw [if_neg (by decide),if_neg (by decide),if_pos rfl]
theorem val_size (d:Dir) {key:Tx} (h:key=capK∨key=sizeK):val d key=stxt d.size:=by
 rcases h with rfl | rfl
 ·unfold val;rw [if_neg (by decide),if_neg (by decide),if_neg (by decide)]
 ·unfold val;rw [if_neg (by decide),if_neg (by decide),if_neg (by decide)]
set_option maxRecDepth 100000 in
set_option maxHeartbeats 1600000 in
theorem value_any (d:Dir) (h0:-9223372036854775808≤d.size) (h1:d.size≤9223372036854775807) (key:Tx) (w:World) (hL:LaidU w) :
  Calls Tryz.prog 96 #[dV d,.string (str key)] w (Told (.string (str (val d key))) w):=by
 have hb:Below w.heap.size w (w.alloc (.cells (dcs d) 80)):=(Below.refl _ _).alloc (Nat.le_refl _) _
 have HB:=Lib.hid hb
 have HL:=Lib.hid (hL.next hb)
 have hV:dV d=.agg #[.int .u8 (d.kind:Nat),.string (str d.name),.string (str d.pool),.int .i64 d.size,.bool d.opn]:=rfl
 rw [hV]
 unfold dcs at HB HL
 obtain ⟨k,n,p,z,o⟩:=d
 dsimp only at h0 h1 HB HL ⊢
 by_cases e1:key=nameK
 ·have HV:=Lib.hid (show val ⟨k,n,p,z,o⟩ key=n by rw [e1];exact val_name _)
  obtain ⟨q1,q2⟩:=lit_yes e1
  unfold nameK at q1 q2
  clear hL hb hV h0 h1 e1
  go_enter Tryz.func96,Tryz.ntmps96
  go_wp2
  go_ret
  exact ⟨by rw [HV.out];rfl,HB.out⟩
 ·obtain ⟨q1,q2⟩:=lit_no e1
  unfold nameK at q1 q2
  by_cases e2:key=poolK
  ·have HV:=Lib.hid (show val ⟨k,n,p,z,o⟩ key=p by rw [e2];exact val_pool _)
   obtain ⟨q3,q4⟩:=lit_yes e2
   unfold poolK at q3 q4
   clear hL hb hV h0 h1 e1 e2
   go_enter Tryz.func96,Tryz.ntmps96
   go_wp2
   go_ret
   exact ⟨by rw [HV.out];rfl,HB.out⟩
  ·obtain ⟨q3,q4⟩:=lit_no e2
   unfold poolK at q3 q4
   by_cases e3:key=accK
   ·have HV:=Lib.hid (show val ⟨k,n,p,z,o⟩ key=if o=true then pubV else [] by rw [e3];exact val_acc _)
    obtain ⟨q5,q6⟩:=lit_yes e3
    unfold accK at q5 q6
    clear hL hb hV h0 h1 e1 e2 e3
    cases o with
    | true =>
     go_enter Tryz.func96,Tryz.ntmps96
     go_wp2
     go_ret
     exact ⟨by rw [HV.out];rfl,HB.out⟩
    | false =>
     go_enter Tryz.func96,Tryz.ntmps96
     go_wp2
     go_ret
     exact ⟨by rw [HV.out];rfl,HB.out⟩
   ·obtain ⟨q5,q6⟩:=lit_no e3
    unfold accK at q5 q6
    have HV:=Lib.hid (show val ⟨k,n,p,z,o⟩ key=stxt z by unfold val;rw [if_neg e1,if_neg e2,if_neg e3])
    clear hL hb hV e1 e2 e3
    go_enter Tryz.func96,Tryz.ntmps96
    go_wp2_with (go_at_call 118;refine (stext_any z h0 h1 _ HL.out).mono ?_;rintro e w2 ⟨rfl,hb2⟩;have HB2:=Lib.hid (HB.out.trans (hb2.mono HB.out.size));clear hb2)
    go_ret
    exact ⟨by rw [HV.out];rfl,HB2.out⟩
end Go.Proofs.YtekcjfdllclphaaGreatDoor.gn
end
