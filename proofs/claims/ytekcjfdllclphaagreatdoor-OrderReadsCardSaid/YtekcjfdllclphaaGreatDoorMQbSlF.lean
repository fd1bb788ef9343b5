/- The contracts of the reader's once and directive. (Written by gen_slF.py.) -/
import Derived.Test.YtekcjfdllclphaaGreatDoorMQbSlE
set_option linter.unusedVariables false
set_option linter.unusedSimpArgs false
section
namespace Go.Proofs.YtekcjfdllclphaaGreatDoor.gn
open Go.RowKit
open Go.Proofs.YtekcjfdllclphaaGreatDoor.un
open Go.Proofs.YtekcjfdllclphaaGreatDoor.di
open Go.Proofs.YtekcjfdllclphaaGreatDoor.sp (Slip cuts cutB within? dep? fput frun first? userK nodesK wallK qosK afterK okW anyW jobW pput pline pread put ldir_chk small_size chkS Ok shortP soundP waitsP storedP apartP dirsP dropD useD capD innD outD txtS line1 dirsS sread fldB fldB_len cutB_lib cuts_len cuts_mem_len countB_cuts splitB_cuts cuts_ne)
theorem once_no {w:World} {R:Nat} {x:Slip} {line:Int} {g:Gh} (h:Rdr w R x line g) (j:Nat) (c n:Int) (hc:w.cell? ⟨R,j,none⟩=some (.int .i64 c)) (h0:¬ c=0) :
  Calls Tryz.prog 112 #[.pointer (some ⟨R,0,none⟩),.pointer (some ⟨R,j,none⟩),.int .i64 n] w fun en w'=>en=.panicked (pnc 150 line)∧w=w':=by
 have HM:=Lib.hid (must_no h)
 have hlt:=h.box.lt
 have hb:(c == 0)=false:=by rw [beq_eq_false_iff_ne];exact h0
 clear h h0
 go_enter Tryz.func112,Tryz.ntmps112
 go_wp2_with (go_at_call 70;((with_reducible refine HM.out.mono ?_);rintro e w' ⟨rfl,rfl⟩))
 exact ⟨rfl,rfl,rfl⟩
theorem once_yes {w:World} {R:Nat} {x:Slip} {line:Int} {g:Gh} (h:Rdr w R x line g) (j:Nat) (n:Int) (hc:w.cell? ⟨R,j,none⟩=some (.int .i64 0)) :
  Calls Tryz.prog 112 #[.pointer (some ⟨R,0,none⟩),.pointer (some ⟨R,j,none⟩),.int .i64 n] w fun en w'=>en=.returned (.tuple #[])∧w'=w.setCell ⟨R,j,none⟩ (.int .i64 n):=by
 have HM:=Lib.hid (must_yes h)
 have hlt:=h.box.lt
 have hf:=h.box.free j
 clear h
 go_enter Tryz.func112,Tryz.ntmps112
 go_wp2_with (go_at_call 70;((with_reducible refine HM.out.mono ?_);rintro e w' ⟨rfl,rfl⟩))
 go_end0
 exact ⟨rfl,rfl⟩
def DirT (R:Nat) (g:Gh) (x:Slip) (l:Tx) (line:Int) (w:World) (en:Ending) (w':World):Prop :=
 if lerr l=0 then StoT2 R g (pput x (ldir l)) line w en w' else en=.panicked (pnc (lerr l) line)∧Lk R g w w'
theorem DirT.go {R:Nat} {g g':Gh} {x y:Slip} {l:Tx} {line:Int} {w w':World} (he:lerr l=0) (hp:pput x (ldir l)=some y) (hr:Rdr w' R y line g') (hk:Kp R g g' w w'):DirT R g x l line w (.returned (.tuple #[])) w':=by
 unfold DirT
 rw [if_pos he,hp]
 exact ⟨rfl,g',hr,hk⟩
theorem DirT.no {R:Nat} {g:Gh} {x:Slip} {l:Tx} {line:Int} {w w':World} (he:lerr l=0) (hp:pput x (ldir l)=none) (hb:Lk R g w w'):DirT R g x l line w (.panicked (pnc 150 line)) w':=by
 unfold DirT
 rw [if_pos he,hp]
 exact ⟨rfl,hb⟩
theorem DirT.bad {R:Nat} {g:Gh} {x:Slip} {l:Tx} {line:Int} {w w':World} {e:Int} (he:lerr l=e) (h0:¬ e=0) (hb:Lk R g w w'):DirT R g x l line w (.panicked (pnc e line)) w':=by
 unfold DirT
 rw [he,if_neg h0]
 exact ⟨rfl,hb⟩
theorem cM_one (d:Dir):∀ u∈cM d,u.oneCell'=true:=fun u hu=>by
 simp only [cM,List.mem_cons,List.not_mem_nil,or_false] at hu
 rcases hu with rfl | rfl | rfl | rfl | rfl <;> rfl
theorem cS_one (d:Tx):∀ u∈cS d,u.oneCell'=true:=fun u hu=>by
 simp only [cS,List.mem_cons,List.not_mem_nil,or_false] at hu
 subst hu;rfl
theorem row_cells (w:World) (cs:List Value) (t:TypeId):∀ j u,cs[j]?=some u→(w.alloc (.cells cs.toArray t)).cell? ((⟨w.heap.size,0,none⟩:Addr).add j)=some u:=fun j u hu=>by
 rw [Addr.add_lit,World.cell?_alloc_mark]
 simpa using hu
set_option maxRecDepth 100000 in
set_option maxHeartbeats 8000000 in
theorem dirk_1 {w:World} {R:Nat} {x:Slip} {line:Int} {g:Gh} (h:Rdr w R x line g) (l:Tx) (hl:l.length≤20000) (hL:LaidB R w) (n p:Tx) (z:Int) (o:Bool) (he:lerr l=0) (hd:ldir l=⟨1,n,p,z,o⟩) :
  Calls Tryz.prog 69 #[.pointer (some ⟨R,0,none⟩),.string (str l)] w (DirT R g x l line w):=by
 have HR:=Lib.hid h
 have hRw:=h.box.lt
 have HP:=Lib.hid (Parse_any l (by omega) w hL.here)
 have HE:=Lib.hid he
 have HD:=Lib.hid hd
 unfold ParseT at HP
 rw [hd,he] at HP
 unfold dV dcs at HP
 clear h hL he hd hl
 go_enter Tryz.func69,Tryz.ntmps69
 go_upto_region 3 with (go_at_call 110;((with_reducible refine HP.out.mono ?_);rintro e w1 ⟨rfl,hb⟩);have HB:=Lib.hid hb;clear hb)
 have hD:BoxA (w1.alloc (.cells #[.int .u8 1,.string (str n),.string (str p),.int .i64 z,.bool o] 80)) w1.heap.size 80 #[.int .u8 1,.string (str n),.string (str p),.int .i64 z,.bool o]:=BoxA.new _ _ _
 have hB2:Below w.heap.size w (w1.alloc (.cells #[.int .u8 1,.string (str n),.string (str p),.int .i64 z,.bool o] 80)):=HB.out.alloc HB.out.size _
 have hRD:R < w1.heap.size:=Nat.lt_of_lt_of_le hRw HB.out.size
 obtain ⟨w2,hw2⟩:∃ w2,w1.alloc (.cells #[.int .u8 1,.string (str n),.string (str p),.int .i64 z,.bool o] 80)=w2:=⟨_,rfl⟩
 first | rw [hw2] at hD hB2 ⊢ | (simp only [Nat.cast_ofNat,Nat.cast_one] at hw2 ⊢;rw [hw2] at hD hB2 ⊢)
 clear hw2
 have HR2:=Lib.hid (HR.out.next hB2)
 have HBW:=Lib.hid hB2
 have y0:=hD.cell 0 _
 have y1:=hD.cell 1 _
 have y2:=hD.cell 2 _
 have y3:=hD.cell 3 _
 have y4:=hD.cell 4 _
 have hDz:=hD.lt
 have HDB:=Lib.hid hD
 have hR2:R < w2.heap.size:=HR2.out.box.lt
 generalize w1.heap.size=D at *
 have hDR:¬ D=R:=by omega
 have hRD2:¬ R=D:=by omega
 clear hD hB2 HP HB
 by_cases hz:x.cap=0
 ·have HPP:=Lib.hid (show pput x (ldir l)=some { x with cap:=z,pool:=p } by rw [HD.out];unfold pput;dsimp only;rw [if_pos rfl];rw [if_pos hz])
  have cj:w2.cell? ⟨R,5,none⟩=some (.int .i64 0):=by have:=HR2.out.box.cell 5 (.int .i64 x.cap);rwa [hz] at this
  have HO:=Lib.hid (fun (W:World) (hb:Below w2.heap.size w2 W)=>once_yes (HR2.out.next hb) 5 z ((Below.cell hb hR2).trans cj))
  clear hz
  go_upto_region 5 with fail
  refine wp_region_held_drew (S:=(fun W=>W.cell? ⟨D,3,none⟩=some (.int .i64 z))) (by kernel_rfl) (by exact y3) (fun hHeld=>?_)
  refine wpAnyH_take (i:=0) (v:=?_) (ata at0) (by kernel_rfl) (by kernel_rfl) (by kernel_rfl) (fun _ _ _ h=>h) (Or.inl ⟨by rfl,?_⟩) (by assumption) ?_
  rotate_left
  ·(intro w hSw;(try dsimp only at hSw);go_simp;(first | done | with_reducible rfl))
  try simp only [Act.put,List.setIfInBounds_toArray,List.set_cons_zero,List.set_cons_succ]
  refine wpAnyH_take (i:=1) (v:=?_) (ata (atS at0)) (by kernel_rfl) (by kernel_rfl) (by kernel_rfl) (fun _ _ _ h=>h) (Or.inl ⟨by rfl,?_⟩) (by assumption) ?_
  rotate_left
  ·(intro w hSw;(try dsimp only at hSw);go_simp;(first | done | with_reducible rfl))
  try simp only [Act.put,List.setIfInBounds_toArray,List.set_cons_zero,List.set_cons_succ]
  refine wpAnyH_take (i:=2) (v:=?_) (ata (atS (atS at0))) (by kernel_rfl) (by kernel_rfl) (by kernel_rfl) (fun _ _ _ h=>h) (Or.inl ⟨by rfl,?_⟩) (by assumption) ?_
  rotate_left
  ·(intro w hSw;(try dsimp only at hSw);go_simp;(first | done | with_reducible rfl))
  try simp only [Act.put,List.setIfInBounds_toArray,List.set_cons_zero,List.set_cons_succ]
  refine wpAnyH_take (i:=3) (v:=?_) (ata (atS (atS (atS at0)))) (by kernel_rfl) (by kernel_rfl) (by kernel_rfl) (fun _ _ _ h=>h) (Or.inl ⟨by rfl,?_⟩) (by assumption) ?_
  rotate_left
  ·(intro w hSw;(try dsimp only at hSw);go_simp;(first | done | with_reducible rfl))
  try simp only [Act.put,List.setIfInBounds_toArray,List.set_cons_zero,List.set_cons_succ]
  refine wpAnyH_take (i:=4) (v:=?_) (ata (atS (atS (atS (atS at0))))) (by kernel_rfl) (by kernel_rfl) (by kernel_rfl) (fun _ _ _ h=>h) (Or.inl ⟨by rfl,?_⟩) (by assumption) ?_
  rotate_left
  ·(intro w hSw;(try dsimp only at hSw);go_simp;(first | done | with_reducible rfl))
  try simp only [Act.put,List.setIfInBounds_toArray,List.set_cons_zero,List.set_cons_succ]
  refine wpAnyH_take (i:=5) (v:=?_) (ata (atS (atS (atS (atS (atS at0)))))) (by kernel_rfl) (by kernel_rfl) (by kernel_rfl) (fun _ _ _ h=>h) (Or.inl ⟨by rfl,?_⟩) (by assumption) ?_
  rotate_left
  ·(intro w hSw;(try dsimp only at hSw);go_simp;(first | done | with_reducible rfl))
  try simp only [Act.put,List.setIfInBounds_toArray,List.set_cons_zero,List.set_cons_succ]
  refine wpAnyH_take (i:=6) (v:=?_) (ata (atS (atS (atS (atS (atS (atS at0))))))) (by kernel_rfl) (by kernel_rfl) (by kernel_rfl) (fun _ _ _ h=>h) (Or.inl ⟨by rfl,?_⟩) (by assumption) ?_
  rotate_left
  ·(intro w hSw;(try dsimp only at hSw);go_simp;(first | done | with_reducible rfl))
  try simp only [Act.put,List.setIfInBounds_toArray,List.set_cons_zero,List.set_cons_succ]
  refine wpAnyH_ready (rs:=[7]) (by kernel_rfl) (by simp) ?_
  refine AllReadyH.cons (ata (atS (atS (atS (atS (atS (atS (atS at0)))))))) (fun K hK=>?_) AllReadyH.nil
  go_simp
  (go_at_call 112;((with_reducible refine (HO.out _ (drew_low w2)).mono ?_);rintro e w4 ⟨rfl,rfl⟩))
  refine hK.out _ _ (by exact (World.cell?_of_block (a:=⟨D,3,none⟩) (Below.heap_setCell _ _ _ _ (by exact hDR))).trans y3) (fun hHeld=>?_)
  clear hK K
  try simp only [Act.put,List.setIfInBounds_toArray,List.set_cons_zero,List.set_cons_succ]
  refine wpAnyH_done (by kernel_rfl) ?_ _
  have HR4:=Lib.hid ((HR2.out.next (drew_low w2)).put (y:={ x with cap:=z }) (l2:=line) 5 (.int .i64 z) rfl rfl rfl rfl rfl)
  have HK4:=Lib.hid ((Kp.of g (HBW.out.trans ((drew_low w2).mono HBW.out.size)) (Nat.le_of_lt hRw)).trans (Kp.set g w2.drew R 5 (.int .i64 z)))
  have y2b:(w2.drew.setCell ⟨R,5,none⟩ (.int .i64 z)).cell? ⟨D,2,none⟩=some (.string (str p)):=(World.cell?_of_block (a:=⟨D,2,none⟩) (Below.heap_setCell _ _ _ _ (by exact hDR))).trans y2
  obtain ⟨w5,hw5⟩:∃ w5,w2.drew.setCell ⟨R,5,none⟩ (.int .i64 z)=w5:=⟨_,rfl⟩
  rw [hw5] at HR4 HK4 y2b ⊢
  have hR5:R < w5.heap.size:=HR4.out.box.lt
  have hD5:D < w5.heap.size:=by rw [←hw5];simpa using hDz
  clear hw5 cj HO y0 y1 y2 y3 y4
  have c8:=HR4.out.box.cell 8 _
  have f8:=HR4.out.box.free 8
  go_wp2
  go_end0
  exact DirT.go HE.out HPP.out (HR4.out.put (y:={ x with cap:=z,pool:=p }) (l2:=line) 8 (.string (str p)) rfl rfl rfl rfl rfl) (HK4.out.trans (Kp.set g w5 R 8 (.string (str p))))
 ·have HPP:=Lib.hid (show pput x (ldir l)=none by rw [HD.out];unfold pput;dsimp only;rw [if_pos rfl];rw [if_neg hz])
  have cj:w2.cell? ⟨R,5,none⟩=some (.int .i64 x.cap):=HR2.out.box.cell 5 _
  have HO:=Lib.hid (fun (W:World) (hb:Below w2.heap.size w2 W)=>once_no (HR2.out.next hb) 5 x.cap z ((Below.cell hb hR2).trans cj) hz)
  clear hz
  go_upto_region 5 with fail
  refine wp_region_held_drew (S:=(fun W=>W.cell? ⟨D,3,none⟩=some (.int .i64 z))) (by kernel_rfl) (by exact y3) (fun hHeld=>?_)
  refine wpAnyH_take (i:=0) (v:=?_) (ata at0) (by kernel_rfl) (by kernel_rfl) (by kernel_rfl) (fun _ _ _ h=>h) (Or.inl ⟨by rfl,?_⟩) (by assumption) ?_
  rotate_left
  ·(intro w hSw;(try dsimp only at hSw);go_simp;(first | done | with_reducible rfl))
  try simp only [Act.put,List.setIfInBounds_toArray,List.set_cons_zero,List.set_cons_succ]
  refine wpAnyH_take (i:=1) (v:=?_) (ata (atS at0)) (by kernel_rfl) (by kernel_rfl) (by kernel_rfl) (fun _ _ _ h=>h) (Or.inl ⟨by rfl,?_⟩) (by assumption) ?_
  rotate_left
  ·(intro w hSw;(try dsimp only at hSw);go_simp;(first | done | with_reducible rfl))
  try simp only [Act.put,List.setIfInBounds_toArray,List.set_cons_zero,List.set_cons_succ]
  refine wpAnyH_take (i:=2) (v:=?_) (ata (atS (atS at0))) (by kernel_rfl) (by kernel_rfl) (by kernel_rfl) (fun _ _ _ h=>h) (Or.inl ⟨by rfl,?_⟩) (by assumption) ?_
  rotate_left
  ·(intro w hSw;(try dsimp only at hSw);go_simp;(first | done | with_reducible rfl))
  try simp only [Act.put,List.setIfInBounds_toArray,List.set_cons_zero,List.set_cons_succ]
  refine wpAnyH_take (i:=3) (v:=?_) (ata (atS (atS (atS at0)))) (by kernel_rfl) (by kernel_rfl) (by kernel_rfl) (fun _ _ _ h=>h) (Or.inl ⟨by rfl,?_⟩) (by assumption) ?_
  rotate_left
  ·(intro w hSw;(try dsimp only at hSw);go_simp;(first | done | with_reducible rfl))
  try simp only [Act.put,List.setIfInBounds_toArray,List.set_cons_zero,List.set_cons_succ]
  refine wpAnyH_take (i:=4) (v:=?_) (ata (atS (atS (atS (atS at0))))) (by kernel_rfl) (by kernel_rfl) (by kernel_rfl) (fun _ _ _ h=>h) (Or.inl ⟨by rfl,?_⟩) (by assumption) ?_
  rotate_left
  ·(intro w hSw;(try dsimp only at hSw);go_simp;(first | done | with_reducible rfl))
  try simp only [Act.put,List.setIfInBounds_toArray,List.set_cons_zero,List.set_cons_succ]
  refine wpAnyH_take (i:=5) (v:=?_) (ata (atS (atS (atS (atS (atS at0)))))) (by kernel_rfl) (by kernel_rfl) (by kernel_rfl) (fun _ _ _ h=>h) (Or.inl ⟨by rfl,?_⟩) (by assumption) ?_
  rotate_left
  ·(intro w hSw;(try dsimp only at hSw);go_simp;(first | done | with_reducible rfl))
  try simp only [Act.put,List.setIfInBounds_toArray,List.set_cons_zero,List.set_cons_succ]
  refine wpAnyH_take (i:=6) (v:=?_) (ata (atS (atS (atS (atS (atS (atS at0))))))) (by kernel_rfl) (by kernel_rfl) (by kernel_rfl) (fun _ _ _ h=>h) (Or.inl ⟨by rfl,?_⟩) (by assumption) ?_
  rotate_left
  ·(intro w hSw;(try dsimp only at hSw);go_simp;(first | done | with_reducible rfl))
  try simp only [Act.put,List.setIfInBounds_toArray,List.set_cons_zero,List.set_cons_succ]
  refine wpAnyH_ready (rs:=[7]) (by kernel_rfl) (by simp) ?_
  refine AllReadyH.cons (ata (atS (atS (atS (atS (atS (atS (atS at0)))))))) (fun K hK=>?_) AllReadyH.nil
  go_simp
  (go_at_call 112;((with_reducible refine (HO.out _ (drew_low w2)).mono ?_);rintro e w4 ⟨rfl,rfl⟩))
  exact ⟨rfl,DirT.no HE.out HPP.out (Lk.of g (HBW.out.trans ((drew_low w2).mono HBW.out.size)) (Nat.le_of_lt hRw))⟩
set_option maxRecDepth 100000 in
set_option maxHeartbeats 8000000 in
theorem dirk_2 {w:World} {R:Nat} {x:Slip} {line:Int} {g:Gh} (h:Rdr w R x line g) (l:Tx) (hl:l.length≤20000) (hL:LaidB R w) (n p:Tx) (z:Int) (o:Bool) (he:lerr l=0) (hd:ldir l=⟨2,n,p,z,o⟩) :
  Calls Tryz.prog 69 #[.pointer (some ⟨R,0,none⟩),.string (str l)] w (DirT R g x l line w):=by
 have HR:=Lib.hid h
 have hRw:=h.box.lt
 have HP:=Lib.hid (Parse_any l (by omega) w hL.here)
 have HE:=Lib.hid he
 have HD:=Lib.hid hd
 unfold ParseT at HP
 rw [hd,he] at HP
 unfold dV dcs at HP
 clear h hL he hd hl
 go_enter Tryz.func69,Tryz.ntmps69
 go_upto_region 3 with (go_at_call 110;((with_reducible refine HP.out.mono ?_);rintro e w1 ⟨rfl,hb⟩);have HB:=Lib.hid hb;clear hb)
 have hD:BoxA (w1.alloc (.cells #[.int .u8 2,.string (str n),.string (str p),.int .i64 z,.bool o] 80)) w1.heap.size 80 #[.int .u8 2,.string (str n),.string (str p),.int .i64 z,.bool o]:=BoxA.new _ _ _
 have hB2:Below w.heap.size w (w1.alloc (.cells #[.int .u8 2,.string (str n),.string (str p),.int .i64 z,.bool o] 80)):=HB.out.alloc HB.out.size _
 have hRD:R < w1.heap.size:=Nat.lt_of_lt_of_le hRw HB.out.size
 obtain ⟨w2,hw2⟩:∃ w2,w1.alloc (.cells #[.int .u8 2,.string (str n),.string (str p),.int .i64 z,.bool o] 80)=w2:=⟨_,rfl⟩
 first | rw [hw2] at hD hB2 ⊢ | (simp only [Nat.cast_ofNat,Nat.cast_one] at hw2 ⊢;rw [hw2] at hD hB2 ⊢)
 clear hw2
 have HR2:=Lib.hid (HR.out.next hB2)
 have HBW:=Lib.hid hB2
 have y0:=hD.cell 0 _
 have y1:=hD.cell 1 _
 have y2:=hD.cell 2 _
 have y3:=hD.cell 3 _
 have y4:=hD.cell 4 _
 have hDz:=hD.lt
 have HDB:=Lib.hid hD
 have hR2:R < w2.heap.size:=HR2.out.box.lt
 generalize w1.heap.size=D at *
 have hDR:¬ D=R:=by omega
 have hRD2:¬ R=D:=by omega
 clear hD hB2 HP HB
 by_cases hz:x.inn=0
 ·have HPP:=Lib.hid (show pput x (ldir l)=some { x with inn:=z } by rw [HD.out];unfold pput;dsimp only;rw [if_neg (by decide),if_pos rfl];rw [if_pos hz])
  have cj:w2.cell? ⟨R,6,none⟩=some (.int .i64 0):=by have:=HR2.out.box.cell 6 (.int .i64 x.inn);rwa [hz] at this
  have HO:=Lib.hid (fun (W:World) (hb:Below w2.heap.size w2 W)=>once_yes (HR2.out.next hb) 6 z ((Below.cell hb hR2).trans cj))
  clear hz
  go_upto_region 8 with fail
  refine wp_region_held_drew (S:=(fun W=>W.cell? ⟨D,3,none⟩=some (.int .i64 z))) (by kernel_rfl) (by exact y3) (fun hHeld=>?_)
  refine wpAnyH_take (i:=0) (v:=?_) (ata at0) (by kernel_rfl) (by kernel_rfl) (by kernel_rfl) (fun _ _ _ h=>h) (Or.inl ⟨by rfl,?_⟩) (by assumption) ?_
  rotate_left
  ·(intro w hSw;(try dsimp only at hSw);go_simp;(first | done | with_reducible rfl))
  try simp only [Act.put,List.setIfInBounds_toArray,List.set_cons_zero,List.set_cons_succ]
  refine wpAnyH_take (i:=1) (v:=?_) (ata (atS at0)) (by kernel_rfl) (by kernel_rfl) (by kernel_rfl) (fun _ _ _ h=>h) (Or.inl ⟨by rfl,?_⟩) (by assumption) ?_
  rotate_left
  ·(intro w hSw;(try dsimp only at hSw);go_simp;(first | done | with_reducible rfl))
  try simp only [Act.put,List.setIfInBounds_toArray,List.set_cons_zero,List.set_cons_succ]
  refine wpAnyH_take (i:=2) (v:=?_) (ata (atS (atS at0))) (by kernel_rfl) (by kernel_rfl) (by kernel_rfl) (fun _ _ _ h=>h) (Or.inl ⟨by rfl,?_⟩) (by assumption) ?_
  rotate_left
  ·(intro w hSw;(try dsimp only at hSw);go_simp;(first | done | with_reducible rfl))
  try simp only [Act.put,List.setIfInBounds_toArray,List.set_cons_zero,List.set_cons_succ]
  refine wpAnyH_take (i:=3) (v:=?_) (ata (atS (atS (atS at0)))) (by kernel_rfl) (by kernel_rfl) (by kernel_rfl) (fun _ _ _ h=>h) (Or.inl ⟨by rfl,?_⟩) (by assumption) ?_
  rotate_left
  ·(intro w hSw;(try dsimp only at hSw);go_simp;(first | done | with_reducible rfl))
  try simp only [Act.put,List.setIfInBounds_toArray,List.set_cons_zero,List.set_cons_succ]
  refine wpAnyH_take (i:=4) (v:=?_) (ata (atS (atS (atS (atS at0))))) (by kernel_rfl) (by kernel_rfl) (by kernel_rfl) (fun _ _ _ h=>h) (Or.inl ⟨by rfl,?_⟩) (by assumption) ?_
  rotate_left
  ·(intro w hSw;(try dsimp only at hSw);go_simp;(first | done | with_reducible rfl))
  try simp only [Act.put,List.setIfInBounds_toArray,List.set_cons_zero,List.set_cons_succ]
  refine wpAnyH_take (i:=5) (v:=?_) (ata (atS (atS (atS (atS (atS at0)))))) (by kernel_rfl) (by kernel_rfl) (by kernel_rfl) (fun _ _ _ h=>h) (Or.inl ⟨by rfl,?_⟩) (by assumption) ?_
  rotate_left
  ·(intro w hSw;(try dsimp only at hSw);go_simp;(first | done | with_reducible rfl))
  try simp only [Act.put,List.setIfInBounds_toArray,List.set_cons_zero,List.set_cons_succ]
  refine wpAnyH_take (i:=6) (v:=?_) (ata (atS (atS (atS (atS (atS (atS at0))))))) (by kernel_rfl) (by kernel_rfl) (by kernel_rfl) (fun _ _ _ h=>h) (Or.inl ⟨by rfl,?_⟩) (by assumption) ?_
  rotate_left
  ·(intro w hSw;(try dsimp only at hSw);go_simp;(first | done | with_reducible rfl))
  try simp only [Act.put,List.setIfInBounds_toArray,List.set_cons_zero,List.set_cons_succ]
  refine wpAnyH_ready (rs:=[7]) (by kernel_rfl) (by simp) ?_
  refine AllReadyH.cons (ata (atS (atS (atS (atS (atS (atS (atS at0)))))))) (fun K hK=>?_) AllReadyH.nil
  go_simp
  (go_at_call 112;((with_reducible refine (HO.out _ (drew_low w2)).mono ?_);rintro e w4 ⟨rfl,rfl⟩))
  refine hK.out _ _ (by exact (World.cell?_of_block (a:=⟨D,3,none⟩) (Below.heap_setCell _ _ _ _ (by exact hDR))).trans y3) (fun hHeld=>?_)
  clear hK K
  try simp only [Act.put,List.setIfInBounds_toArray,List.set_cons_zero,List.set_cons_succ]
  refine wpAnyH_done (by kernel_rfl) ?_ _
  have HR4:=Lib.hid ((HR2.out.next (drew_low w2)).put (y:={ x with inn:=z }) (l2:=line) 6 (.int .i64 z) rfl rfl rfl rfl rfl)
  have HK4:=Lib.hid ((Kp.of g (HBW.out.trans ((drew_low w2).mono HBW.out.size)) (Nat.le_of_lt hRw)).trans (Kp.set g w2.drew R 6 (.int .i64 z)))
  have y2b:(w2.drew.setCell ⟨R,6,none⟩ (.int .i64 z)).cell? ⟨D,2,none⟩=some (.string (str p)):=(World.cell?_of_block (a:=⟨D,2,none⟩) (Below.heap_setCell _ _ _ _ (by exact hDR))).trans y2
  obtain ⟨w5,hw5⟩:∃ w5,w2.drew.setCell ⟨R,6,none⟩ (.int .i64 z)=w5:=⟨_,rfl⟩
  rw [hw5] at HR4 HK4 y2b ⊢
  have hR5:R < w5.heap.size:=HR4.out.box.lt
  have hD5:D < w5.heap.size:=by rw [←hw5];simpa using hDz
  clear hw5 cj HO y0 y1 y2 y3 y4
  go_wp2
  go_end0
  exact DirT.go HE.out HPP.out HR4.out HK4.out
 ·have HPP:=Lib.hid (show pput x (ldir l)=none by rw [HD.out];unfold pput;dsimp only;rw [if_neg (by decide),if_pos rfl];rw [if_neg hz])
  have cj:w2.cell? ⟨R,6,none⟩=some (.int .i64 x.inn):=HR2.out.box.cell 6 _
  have HO:=Lib.hid (fun (W:World) (hb:Below w2.heap.size w2 W)=>once_no (HR2.out.next hb) 6 x.inn z ((Below.cell hb hR2).trans cj) hz)
  clear hz
  go_upto_region 8 with fail
  refine wp_region_held_drew (S:=(fun W=>W.cell? ⟨D,3,none⟩=some (.int .i64 z))) (by kernel_rfl) (by exact y3) (fun hHeld=>?_)
  refine wpAnyH_take (i:=0) (v:=?_) (ata at0) (by kernel_rfl) (by kernel_rfl) (by kernel_rfl) (fun _ _ _ h=>h) (Or.inl ⟨by rfl,?_⟩) (by assumption) ?_
  rotate_left
  ·(intro w hSw;(try dsimp only at hSw);go_simp;(first | done | with_reducible rfl))
  try simp only [Act.put,List.setIfInBounds_toArray,List.set_cons_zero,List.set_cons_succ]
  refine wpAnyH_take (i:=1) (v:=?_) (ata (atS at0)) (by kernel_rfl) (by kernel_rfl) (by kernel_rfl) (fun _ _ _ h=>h) (Or.inl ⟨by rfl,?_⟩) (by assumption) ?_
  rotate_left
  ·(intro w hSw;(try dsimp only at hSw);go_simp;(first | done | with_reducible rfl))
  try simp only [Act.put,List.setIfInBounds_toArray,List.set_cons_zero,List.set_cons_succ]
  refine wpAnyH_take (i:=2) (v:=?_) (ata (atS (atS at0))) (by kernel_rfl) (by kernel_rfl) (by kernel_rfl) (fun _ _ _ h=>h) (Or.inl ⟨by rfl,?_⟩) (by assumption) ?_
  rotate_left
  ·(intro w hSw;(try dsimp only at hSw);go_simp;(first | done | with_reducible rfl))
  try simp only [Act.put,List.setIfInBounds_toArray,List.set_cons_zero,List.set_cons_succ]
  refine wpAnyH_take (i:=3) (v:=?_) (ata (atS (atS (atS at0)))) (by kernel_rfl) (by kernel_rfl) (by kernel_rfl) (fun _ _ _ h=>h) (Or.inl ⟨by rfl,?_⟩) (by assumption) ?_
  rotate_left
  ·(intro w hSw;(try dsimp only at hSw);go_simp;(first | done | with_reducible rfl))
  try simp only [Act.put,List.setIfInBounds_toArray,List.set_cons_zero,List.set_cons_succ]
  refine wpAnyH_take (i:=4) (v:=?_) (ata (atS (atS (atS (atS at0))))) (by kernel_rfl) (by kernel_rfl) (by kernel_rfl) (fun _ _ _ h=>h) (Or.inl ⟨by rfl,?_⟩) (by assumption) ?_
  rotate_left
  ·(intro w hSw;(try dsimp only at hSw);go_simp;(first | done | with_reducible rfl))
  try simp only [Act.put,List.setIfInBounds_toArray,List.set_cons_zero,List.set_cons_succ]
  refine wpAnyH_take (i:=5) (v:=?_) (ata (atS (atS (atS (atS (atS at0)))))) (by kernel_rfl) (by kernel_rfl) (by kernel_rfl) (fun _ _ _ h=>h) (Or.inl ⟨by rfl,?_⟩) (by assumption) ?_
  rotate_left
  ·(intro w hSw;(try dsimp only at hSw);go_simp;(first | done | with_reducible rfl))
  try simp only [Act.put,List.setIfInBounds_toArray,List.set_cons_zero,List.set_cons_succ]
  refine wpAnyH_take (i:=6) (v:=?_) (ata (atS (atS (atS (atS (atS (atS at0))))))) (by kernel_rfl) (by kernel_rfl) (by kernel_rfl) (fun _ _ _ h=>h) (Or.inl ⟨by rfl,?_⟩) (by assumption) ?_
  rotate_left
  ·(intro w hSw;(try dsimp only at hSw);go_simp;(first | done | with_reducible rfl))
  try simp only [Act.put,List.setIfInBounds_toArray,List.set_cons_zero,List.set_cons_succ]
  refine wpAnyH_ready (rs:=[7]) (by kernel_rfl) (by simp) ?_
  refine AllReadyH.cons (ata (atS (atS (atS (atS (atS (atS (atS at0)))))))) (fun K hK=>?_) AllReadyH.nil
  go_simp
  (go_at_call 112;((with_reducible refine (HO.out _ (drew_low w2)).mono ?_);rintro e w4 ⟨rfl,rfl⟩))
  exact ⟨rfl,DirT.no HE.out HPP.out (Lk.of g (HBW.out.trans ((drew_low w2).mono HBW.out.size)) (Nat.le_of_lt hRw))⟩
set_option maxRecDepth 100000 in
set_option maxHeartbeats 8000000 in
theorem dirk_3 {w:World} {R:Nat} {x:Slip} {line:Int} {g:Gh} (h:Rdr w R x line g) (l:Tx) (hl:l.length≤20000) (hL:LaidB R w) (n p:Tx) (z:Int) (o:Bool) (he:lerr l=0) (hd:ldir l=⟨3,n,p,z,o⟩) :
  Calls Tryz.prog 69 #[.pointer (some ⟨R,0,none⟩),.string (str l)] w (DirT R g x l line w):=by
 have HR:=Lib.hid h
 have hRw:=h.box.lt
 have HP:=Lib.hid (Parse_any l (by omega) w hL.here)
 have HE:=Lib.hid he
 have HD:=Lib.hid hd
 unfold ParseT at HP
 rw [hd,he] at HP
 unfold dV dcs at HP
 clear h hL he hd hl
 go_enter Tryz.func69,Tryz.ntmps69
 go_upto_region 3 with (go_at_call 110;((with_reducible refine HP.out.mono ?_);rintro e w1 ⟨rfl,hb⟩);have HB:=Lib.hid hb;clear hb)
 have hD:BoxA (w1.alloc (.cells #[.int .u8 3,.string (str n),.string (str p),.int .i64 z,.bool o] 80)) w1.heap.size 80 #[.int .u8 3,.string (str n),.string (str p),.int .i64 z,.bool o]:=BoxA.new _ _ _
 have hB2:Below w.heap.size w (w1.alloc (.cells #[.int .u8 3,.string (str n),.string (str p),.int .i64 z,.bool o] 80)):=HB.out.alloc HB.out.size _
 have hRD:R < w1.heap.size:=Nat.lt_of_lt_of_le hRw HB.out.size
 obtain ⟨w2,hw2⟩:∃ w2,w1.alloc (.cells #[.int .u8 3,.string (str n),.string (str p),.int .i64 z,.bool o] 80)=w2:=⟨_,rfl⟩
 first | rw [hw2] at hD hB2 ⊢ | (simp only [Nat.cast_ofNat,Nat.cast_one] at hw2 ⊢;rw [hw2] at hD hB2 ⊢)
 clear hw2
 have HR2:=Lib.hid (HR.out.next hB2)
 have HBW:=Lib.hid hB2
 have y0:=hD.cell 0 _
 have y1:=hD.cell 1 _
 have y2:=hD.cell 2 _
 have y3:=hD.cell 3 _
 have y4:=hD.cell 4 _
 have hDz:=hD.lt
 have HDB:=Lib.hid hD
 have hR2:R < w2.heap.size:=HR2.out.box.lt
 generalize w1.heap.size=D at *
 have hDR:¬ D=R:=by omega
 have hRD2:¬ R=D:=by omega
 clear hD hB2 HP HB
 by_cases hz:x.out=0
 ·have HPP:=Lib.hid (show pput x (ldir l)=some { x with out:=z } by rw [HD.out];unfold pput;dsimp only;rw [if_neg (by decide),if_neg (by decide),if_pos rfl];rw [if_pos hz])
  have cj:w2.cell? ⟨R,7,none⟩=some (.int .i64 0):=by have:=HR2.out.box.cell 7 (.int .i64 x.out);rwa [hz] at this
  have HO:=Lib.hid (fun (W:World) (hb:Below w2.heap.size w2 W)=>once_yes (HR2.out.next hb) 7 z ((Below.cell hb hR2).trans cj))
  clear hz
  go_upto_region 10 with fail
  refine wp_region_held_drew (S:=(fun W=>W.cell? ⟨D,3,none⟩=some (.int .i64 z))) (by kernel_rfl) (by exact y3) (fun hHeld=>?_)
  refine wpAnyH_take (i:=0) (v:=?_) (ata at0) (by kernel_rfl) (by kernel_rfl) (by kernel_rfl) (fun _ _ _ h=>h) (Or.inl ⟨by rfl,?_⟩) (by assumption) ?_
  rotate_left
  ·(intro w hSw;(try dsimp only at hSw);go_simp;(first | done | with_reducible rfl))
  try simp only [Act.put,List.setIfInBounds_toArray,List.set_cons_zero,List.set_cons_succ]
  refine wpAnyH_take (i:=1) (v:=?_) (ata (atS at0)) (by kernel_rfl) (by kernel_rfl) (by kernel_rfl) (fun _ _ _ h=>h) (Or.inl ⟨by rfl,?_⟩) (by assumption) ?_
  rotate_left
  ·(intro w hSw;(try dsimp only at hSw);go_simp;(first | done | with_reducible rfl))
  try simp only [Act.put,List.setIfInBounds_toArray,List.set_cons_zero,List.set_cons_succ]
  refine wpAnyH_take (i:=2) (v:=?_) (ata (atS (atS at0))) (by kernel_rfl) (by kernel_rfl) (by kernel_rfl) (fun _ _ _ h=>h) (Or.inl ⟨by rfl,?_⟩) (by assumption) ?_
  rotate_left
  ·(intro w hSw;(try dsimp only at hSw);go_simp;(first | done | with_reducible rfl))
  try simp only [Act.put,List.setIfInBounds_toArray,List.set_cons_zero,List.set_cons_succ]
  refine wpAnyH_take (i:=3) (v:=?_) (ata (atS (atS (atS at0)))) (by kernel_rfl) (by kernel_rfl) (by kernel_rfl) (fun _ _ _ h=>h) (Or.inl ⟨by rfl,?_⟩) (by assumption) ?_
  rotate_left
  ·(intro w hSw;(try dsimp only at hSw);go_simp;(first | done | with_reducible rfl))
  try simp only [Act.put,List.setIfInBounds_toArray,List.set_cons_zero,List.set_cons_succ]
  refine wpAnyH_take (i:=4) (v:=?_) (ata (atS (atS (atS (atS at0))))) (by kernel_rfl) (by kernel_rfl) (by kernel_rfl) (fun _ _ _ h=>h) (Or.inl ⟨by rfl,?_⟩) (by assumption) ?_
  rotate_left
  ·(intro w hSw;(try dsimp only at hSw);go_simp;(first | done | with_reducible rfl))
  try simp only [Act.put,List.setIfInBounds_toArray,List.set_cons_zero,List.set_cons_succ]
  refine wpAnyH_take (i:=5) (v:=?_) (ata (atS (atS (atS (atS (atS at0)))))) (by kernel_rfl) (by kernel_rfl) (by kernel_rfl) (fun _ _ _ h=>h) (Or.inl ⟨by rfl,?_⟩) (by assumption) ?_
  rotate_left
  ·(intro w hSw;(try dsimp only at hSw);go_simp;(first | done | with_reducible rfl))
  try simp only [Act.put,List.setIfInBounds_toArray,List.set_cons_zero,List.set_cons_succ]
  refine wpAnyH_take (i:=6) (v:=?_) (ata (atS (atS (atS (atS (atS (atS at0))))))) (by kernel_rfl) (by kernel_rfl) (by kernel_rfl) (fun _ _ _ h=>h) (Or.inl ⟨by rfl,?_⟩) (by assumption) ?_
  rotate_left
  ·(intro w hSw;(try dsimp only at hSw);go_simp;(first | done | with_reducible rfl))
  try simp only [Act.put,List.setIfInBounds_toArray,List.set_cons_zero,List.set_cons_succ]
  refine wpAnyH_ready (rs:=[7]) (by kernel_rfl) (by simp) ?_
  refine AllReadyH.cons (ata (atS (atS (atS (atS (atS (atS (atS at0)))))))) (fun K hK=>?_) AllReadyH.nil
  go_simp
  (go_at_call 112;((with_reducible refine (HO.out _ (drew_low w2)).mono ?_);rintro e w4 ⟨rfl,rfl⟩))
  refine hK.out _ _ (by exact (World.cell?_of_block (a:=⟨D,3,none⟩) (Below.heap_setCell _ _ _ _ (by exact hDR))).trans y3) (fun hHeld=>?_)
  clear hK K
  try simp only [Act.put,List.setIfInBounds_toArray,List.set_cons_zero,List.set_cons_succ]
  refine wpAnyH_done (by kernel_rfl) ?_ _
  have HR4:=Lib.hid ((HR2.out.next (drew_low w2)).put (y:={ x with out:=z }) (l2:=line) 7 (.int .i64 z) rfl rfl rfl rfl rfl)
  have HK4:=Lib.hid ((Kp.of g (HBW.out.trans ((drew_low w2).mono HBW.out.size)) (Nat.le_of_lt hRw)).trans (Kp.set g w2.drew R 7 (.int .i64 z)))
  have y2b:(w2.drew.setCell ⟨R,7,none⟩ (.int .i64 z)).cell? ⟨D,2,none⟩=some (.string (str p)):=(World.cell?_of_block (a:=⟨D,2,none⟩) (Below.heap_setCell _ _ _ _ (by exact hDR))).trans y2
  obtain ⟨w5,hw5⟩:∃ w5,w2.drew.setCell ⟨R,7,none⟩ (.int .i64 z)=w5:=⟨_,rfl⟩
  rw [hw5] at HR4 HK4 y2b ⊢
  have hR5:R < w5.heap.size:=HR4.out.box.lt
  have hD5:D < w5.heap.size:=by rw [←hw5];simpa using hDz
  clear hw5 cj HO y0 y1 y2 y3 y4
  go_wp2
  go_end0
  exact DirT.go HE.out HPP.out HR4.out HK4.out
 ·have HPP:=Lib.hid (show pput x (ldir l)=none by rw [HD.out];unfold pput;dsimp only;rw [if_neg (by decide),if_neg (by decide),if_pos rfl];rw [if_neg hz])
  have cj:w2.cell? ⟨R,7,none⟩=some (.int .i64 x.out):=HR2.out.box.cell 7 _
  have HO:=Lib.hid (fun (W:World) (hb:Below w2.heap.size w2 W)=>once_no (HR2.out.next hb) 7 x.out z ((Below.cell hb hR2).trans cj) hz)
  clear hz
  go_upto_region 10 with fail
  refine wp_region_held_drew (S:=(fun W=>W.cell? ⟨D,3,none⟩=some (.int .i64 z))) (by kernel_rfl) (by exact y3) (fun hHeld=>?_)
  refine wpAnyH_take (i:=0) (v:=?_) (ata at0) (by kernel_rfl) (by kernel_rfl) (by kernel_rfl) (fun _ _ _ h=>h) (Or.inl ⟨by rfl,?_⟩) (by assumption) ?_
  rotate_left
  ·(intro w hSw;(try dsimp only at hSw);go_simp;(first | done | with_reducible rfl))
  try simp only [Act.put,List.setIfInBounds_toArray,List.set_cons_zero,List.set_cons_succ]
  refine wpAnyH_take (i:=1) (v:=?_) (ata (atS at0)) (by kernel_rfl) (by kernel_rfl) (by kernel_rfl) (fun _ _ _ h=>h) (Or.inl ⟨by rfl,?_⟩) (by assumption) ?_
  rotate_left
  ·(intro w hSw;(try dsimp only at hSw);go_simp;(first | done | with_reducible rfl))
  try simp only [Act.put,List.setIfInBounds_toArray,List.set_cons_zero,List.set_cons_succ]
  refine wpAnyH_take (i:=2) (v:=?_) (ata (atS (atS at0))) (by kernel_rfl) (by kernel_rfl) (by kernel_rfl) (fun _ _ _ h=>h) (Or.inl ⟨by rfl,?_⟩) (by assumption) ?_
  rotate_left
  ·(intro w hSw;(try dsimp only at hSw);go_simp;(first | done | with_reducible rfl))
  try simp only [Act.put,List.setIfInBounds_toArray,List.set_cons_zero,List.set_cons_succ]
  refine wpAnyH_take (i:=3) (v:=?_) (ata (atS (atS (atS at0)))) (by kernel_rfl) (by kernel_rfl) (by kernel_rfl) (fun _ _ _ h=>h) (Or.inl ⟨by rfl,?_⟩) (by assumption) ?_
  rotate_left
  ·(intro w hSw;(try dsimp only at hSw);go_simp;(first | done | with_reducible rfl))
  try simp only [Act.put,List.setIfInBounds_toArray,List.set_cons_zero,List.set_cons_succ]
  refine wpAnyH_take (i:=4) (v:=?_) (ata (atS (atS (atS (atS at0))))) (by kernel_rfl) (by kernel_rfl) (by kernel_rfl) (fun _ _ _ h=>h) (Or.inl ⟨by rfl,?_⟩) (by assumption) ?_
  rotate_left
  ·(intro w hSw;(try dsimp only at hSw);go_simp;(first | done | with_reducible rfl))
  try simp only [Act.put,List.setIfInBounds_toArray,List.set_cons_zero,List.set_cons_succ]
  refine wpAnyH_take (i:=5) (v:=?_) (ata (atS (atS (atS (atS (atS at0)))))) (by kernel_rfl) (by kernel_rfl) (by kernel_rfl) (fun _ _ _ h=>h) (Or.inl ⟨by rfl,?_⟩) (by assumption) ?_
  rotate_left
  ·(intro w hSw;(try dsimp only at hSw);go_simp;(first | done | with_reducible rfl))
  try simp only [Act.put,List.setIfInBounds_toArray,List.set_cons_zero,List.set_cons_succ]
  refine wpAnyH_take (i:=6) (v:=?_) (ata (atS (atS (atS (atS (atS (atS at0))))))) (by kernel_rfl) (by kernel_rfl) (by kernel_rfl) (fun _ _ _ h=>h) (Or.inl ⟨by rfl,?_⟩) (by assumption) ?_
  rotate_left
  ·(intro w hSw;(try dsimp only at hSw);go_simp;(first | done | with_reducible rfl))
  try simp only [Act.put,List.setIfInBounds_toArray,List.set_cons_zero,List.set_cons_succ]
  refine wpAnyH_ready (rs:=[7]) (by kernel_rfl) (by simp) ?_
  refine AllReadyH.cons (ata (atS (atS (atS (atS (atS (atS (atS at0)))))))) (fun K hK=>?_) AllReadyH.nil
  go_simp
  (go_at_call 112;((with_reducible refine (HO.out _ (drew_low w2)).mono ?_);rintro e w4 ⟨rfl,rfl⟩))
  exact ⟨rfl,DirT.no HE.out HPP.out (Lk.of g (HBW.out.trans ((drew_low w2).mono HBW.out.size)) (Nat.le_of_lt hRw))⟩
set_option maxRecDepth 100000 in
set_option maxHeartbeats 8000000 in
theorem dirk_4 {w:World} {R:Nat} {x:Slip} {line:Int} {g:Gh} (h:Rdr w R x line g) (l:Tx) (hl:l.length≤20000) (hL:LaidB R w) (n p:Tx) (z:Int) (o:Bool) (he:lerr l=0) (hd:ldir l=⟨4,n,p,z,o⟩) (hx:x.make.length≤20000) :
  Calls Tryz.prog 69 #[.pointer (some ⟨R,0,none⟩),.string (str l)] w (DirT R g x l line w):=by
 have HR:=Lib.hid h
 have hRw:=h.box.lt
 have HP:=Lib.hid (Parse_any l (by omega) w hL.here)
 have HE:=Lib.hid he
 have HD:=Lib.hid hd
 have HX:=Lib.hid hx
 clear hx
 unfold ParseT at HP
 rw [hd,he] at HP
 unfold dV dcs at HP
 clear h hL he hd hl
 go_enter Tryz.func69,Tryz.ntmps69
 go_upto_region 3 with (go_at_call 110;((with_reducible refine HP.out.mono ?_);rintro e w1 ⟨rfl,hb⟩);have HB:=Lib.hid hb;clear hb)
 have hD:BoxA (w1.alloc (.cells #[.int .u8 4,.string (str n),.string (str p),.int .i64 z,.bool o] 80)) w1.heap.size 80 #[.int .u8 4,.string (str n),.string (str p),.int .i64 z,.bool o]:=BoxA.new _ _ _
 have hB2:Below w.heap.size w (w1.alloc (.cells #[.int .u8 4,.string (str n),.string (str p),.int .i64 z,.bool o] 80)):=HB.out.alloc HB.out.size _
 have hRD:R < w1.heap.size:=Nat.lt_of_lt_of_le hRw HB.out.size
 obtain ⟨w2,hw2⟩:∃ w2,w1.alloc (.cells #[.int .u8 4,.string (str n),.string (str p),.int .i64 z,.bool o] 80)=w2:=⟨_,rfl⟩
 first | rw [hw2] at hD hB2 ⊢ | (simp only [Nat.cast_ofNat,Nat.cast_one] at hw2 ⊢;rw [hw2] at hD hB2 ⊢)
 clear hw2
 have HR2:=Lib.hid (HR.out.next hB2)
 have HBW:=Lib.hid hB2
 have y0:=hD.cell 0 _
 have y1:=hD.cell 1 _
 have y2:=hD.cell 2 _
 have y3:=hD.cell 3 _
 have y4:=hD.cell 4 _
 have hDz:=hD.lt
 have HDB:=Lib.hid hD
 have hR2:R < w2.heap.size:=HR2.out.box.lt
 generalize w1.heap.size=D at *
 have hDR:¬ D=R:=by omega
 have hRD2:¬ R=D:=by omega
 clear hD hB2 HP HB
 have HPP:=Lib.hid (show pput x (ldir l)=some { x with make:=x.make++[⟨4,n,p,z,o⟩] } by rw [HD.out];rfl)
 have cj:w2.cell? ⟨R,9,none⟩=some g.m:=HR2.out.box.cell 9 _
 have mixed:Tryz.prog.follows .mixedOrders=true:=by kernel_rfl
 obtain ⟨m0,hm0⟩:∃ m0,x.make.length=m0:=⟨_,rfl⟩
 have HM0:=Lib.hid hm0
 clear hm0
 go_upto_region 12 with fail
 have HW1:Hid (Below w2.heap.size w2 (w2.alloc (.cells #[.int .u8 4,.string (str n),.string (str p),.int .i64 z,.bool o] 80)).drew):=((Below.refl _ w2).alloc (Nat.le_refl _) _).drew
 have HO1:Hid ((w2.alloc (.cells #[.int .u8 4,.string (str n),.string (str p),.int .i64 z,.bool o] 80)).drew.ownsRow (R+1) 80 5 g.m m0 (flM x.make)):=by rw [←HM0.out];exact (HR2.out.next HW1.out).m
 have HC1:Hid (∀ j u,(cM ⟨4,n,p,z,o⟩)[j]?=some u→(w2.alloc (.cells #[.int .u8 4,.string (str n),.string (str p),.int .i64 z,.bool o] 80)).drew.cell? ((⟨w2.heap.size,0,none⟩:Addr).add j)=some u):=row_cells w2 (cM ⟨4,n,p,z,o⟩) 80
 have HZ1:Hid (R+1≤(w2.alloc (.cells #[.int .u8 4,.string (str n),.string (str p),.int .i64 z,.bool o] 80)).drew.heap.size):=by show R+1≤(w2.alloc (.cells #[.int .u8 4,.string (str n),.string (str p),.int .i64 z,.bool o] 80)).heap.size;simp;omega
 have HM1:Hid (m0≤1000000):=by show _≤_;have:=HX.out;rw [←HM0.out];omega
 go_region_law_o (go_loud (refine step_app eltM rfl (.tmp 61) (.tmp 63) rfl (base:=R+1) (n:=m0) (cs:=flM x.make) (v:=g.m) (by rfl) (by exact HO1.out) ⟨w2.heap.size,0,none⟩ (cM ⟨4,n,p,z,o⟩) (by rfl) (by exact HC1.out) rfl (by exact cM_one _) HM1.out (by decide) (by exact HZ1.out) ?_;intro gb cb w6 h1 h2 h3;have hmid:=HR2.out.mid_m HW1.out h2;have c46:w6.cell? ⟨R,9,none⟩=some g.m:=hmid.cell 9 _;have f46:=hmid.free 9;have hR6:=hmid.lt;have HADD:=Lib.hid (HR2.out.push_m HW1.out ⟨4,n,p,z,o⟩ (v':=.slice (some ⟨gb,0,none⟩) (m0+1) cb) (by rw [HM0.out];exact h1) h2 (h3.imp (fun e=>e) (fun e=>congrArg Option.some e)));clear h1 h2 h3 hmid))
 all_goals
  go_wp2
  go_end0
  exact DirT.go HE.out HPP.out HADD.out.1 ((Kp.of g HBW.out (Nat.le_of_lt hRw)).trans HADD.out.2)
set_option maxRecDepth 100000 in
set_option maxHeartbeats 8000000 in
theorem dirk_5 {w:World} {R:Nat} {x:Slip} {line:Int} {g:Gh} (h:Rdr w R x line g) (l:Tx) (hl:l.length≤20000) (hL:LaidB R w) (n p:Tx) (z:Int) (o:Bool) (he:lerr l=0) (hd:ldir l=⟨5,n,p,z,o⟩) (hx:x.drop.length≤20000) :
  Calls Tryz.prog 69 #[.pointer (some ⟨R,0,none⟩),.string (str l)] w (DirT R g x l line w):=by
 have HR:=Lib.hid h
 have hRw:=h.box.lt
 have HP:=Lib.hid (Parse_any l (by omega) w hL.here)
 have HE:=Lib.hid he
 have HD:=Lib.hid hd
 have HX:=Lib.hid hx
 clear hx
 unfold ParseT at HP
 rw [hd,he] at HP
 unfold dV dcs at HP
 clear h hL he hd hl
 go_enter Tryz.func69,Tryz.ntmps69
 go_upto_region 3 with (go_at_call 110;((with_reducible refine HP.out.mono ?_);rintro e w1 ⟨rfl,hb⟩);have HB:=Lib.hid hb;clear hb)
 have hD:BoxA (w1.alloc (.cells #[.int .u8 5,.string (str n),.string (str p),.int .i64 z,.bool o] 80)) w1.heap.size 80 #[.int .u8 5,.string (str n),.string (str p),.int .i64 z,.bool o]:=BoxA.new _ _ _
 have hB2:Below w.heap.size w (w1.alloc (.cells #[.int .u8 5,.string (str n),.string (str p),.int .i64 z,.bool o] 80)):=HB.out.alloc HB.out.size _
 have hRD:R < w1.heap.size:=Nat.lt_of_lt_of_le hRw HB.out.size
 obtain ⟨w2,hw2⟩:∃ w2,w1.alloc (.cells #[.int .u8 5,.string (str n),.string (str p),.int .i64 z,.bool o] 80)=w2:=⟨_,rfl⟩
 first | rw [hw2] at hD hB2 ⊢ | (simp only [Nat.cast_ofNat,Nat.cast_one] at hw2 ⊢;rw [hw2] at hD hB2 ⊢)
 clear hw2
 have HR2:=Lib.hid (HR.out.next hB2)
 have HBW:=Lib.hid hB2
 have y0:=hD.cell 0 _
 have y1:=hD.cell 1 _
 have y2:=hD.cell 2 _
 have y3:=hD.cell 3 _
 have y4:=hD.cell 4 _
 have hDz:=hD.lt
 have HDB:=Lib.hid hD
 have hR2:R < w2.heap.size:=HR2.out.box.lt
 generalize w1.heap.size=D at *
 have hDR:¬ D=R:=by omega
 have hRD2:¬ R=D:=by omega
 clear hD hB2 HP HB
 have HPP:=Lib.hid (show pput x (ldir l)=some { x with drop:=x.drop++[n] } by rw [HD.out];rfl)
 have cj:w2.cell? ⟨R,10,none⟩=some g.d:=HR2.out.box.cell 10 _
 have mixed:Tryz.prog.follows .mixedOrders=true:=by kernel_rfl
 obtain ⟨m0,hm0⟩:∃ m0,x.drop.length=m0:=⟨_,rfl⟩
 have HM0:=Lib.hid hm0
 clear hm0
 go_upto_region 14 with fail
 have HW1:Hid (Below w2.heap.size w2 (w2.alloc (.cells #[.string (str n)] 9)).drew):=((Below.refl _ w2).alloc (Nat.le_refl _) _).drew
 have HO1:Hid ((w2.alloc (.cells #[.string (str n)] 9)).drew.ownsRow (R+1) 9 1 g.d m0 (flS x.drop)):=by rw [←HM0.out];exact (HR2.out.next HW1.out).d
 have HC1:Hid (∀ j u,(cS n)[j]?=some u→(w2.alloc (.cells #[.string (str n)] 9)).drew.cell? ((⟨w2.heap.size,0,none⟩:Addr).add j)=some u):=row_cells w2 (cS n) 9
 have HZ1:Hid (R+1≤(w2.alloc (.cells #[.string (str n)] 9)).drew.heap.size):=by show R+1≤(w2.alloc (.cells #[.string (str n)] 9)).heap.size;simp;omega
 have HM1:Hid (m0≤1000000):=by show _≤_;have:=HX.out;rw [←HM0.out];omega
 go_region_law_o (go_loud (refine step_app eltS rfl (.tmp 75) (.tmp 78) rfl (base:=R+1) (n:=m0) (cs:=flS x.drop) (v:=g.d) (by rfl) (by exact HO1.out) ⟨w2.heap.size,0,none⟩ (cS n) (by rfl) (by exact HC1.out) rfl (by exact cS_one _) HM1.out (by decide) (by exact HZ1.out) ?_;intro gb cb w6 h1 h2 h3;have hmid:=HR2.out.mid_d HW1.out h2;have c46:w6.cell? ⟨R,10,none⟩=some g.d:=hmid.cell 10 _;have f46:=hmid.free 10;have hR6:=hmid.lt;have HADD:=Lib.hid (HR2.out.push_d HW1.out n (v':=.slice (some ⟨gb,0,none⟩) (m0+1) cb) (by rw [HM0.out];exact h1) h2 (h3.imp (fun e=>e) (fun e=>congrArg Option.some e)));clear h1 h2 h3 hmid))
 all_goals
  go_wp2
  go_end0
  exact DirT.go HE.out HPP.out HADD.out.1 ((Kp.of g HBW.out (Nat.le_of_lt hRw)).trans HADD.out.2)
set_option maxRecDepth 100000 in
set_option maxHeartbeats 8000000 in
theorem dirk_6 {w:World} {R:Nat} {x:Slip} {line:Int} {g:Gh} (h:Rdr w R x line g) (l:Tx) (hl:l.length≤20000) (hL:LaidB R w) (n p:Tx) (z:Int) (o:Bool) (he:lerr l=0) (hd:ldir l=⟨6,n,p,z,o⟩) (hx:x.use.length≤20000) :
  Calls Tryz.prog 69 #[.pointer (some ⟨R,0,none⟩),.string (str l)] w (DirT R g x l line w):=by
 have HR:=Lib.hid h
 have hRw:=h.box.lt
 have HP:=Lib.hid (Parse_any l (by omega) w hL.here)
 have HE:=Lib.hid he
 have HD:=Lib.hid hd
 have HX:=Lib.hid hx
 clear hx
 unfold ParseT at HP
 rw [hd,he] at HP
 unfold dV dcs at HP
 clear h hL he hd hl
 go_enter Tryz.func69,Tryz.ntmps69
 go_upto_region 3 with (go_at_call 110;((with_reducible refine HP.out.mono ?_);rintro e w1 ⟨rfl,hb⟩);have HB:=Lib.hid hb;clear hb)
 have hD:BoxA (w1.alloc (.cells #[.int .u8 6,.string (str n),.string (str p),.int .i64 z,.bool o] 80)) w1.heap.size 80 #[.int .u8 6,.string (str n),.string (str p),.int .i64 z,.bool o]:=BoxA.new _ _ _
 have hB2:Below w.heap.size w (w1.alloc (.cells #[.int .u8 6,.string (str n),.string (str p),.int .i64 z,.bool o] 80)):=HB.out.alloc HB.out.size _
 have hRD:R < w1.heap.size:=Nat.lt_of_lt_of_le hRw HB.out.size
 obtain ⟨w2,hw2⟩:∃ w2,w1.alloc (.cells #[.int .u8 6,.string (str n),.string (str p),.int .i64 z,.bool o] 80)=w2:=⟨_,rfl⟩
 first | rw [hw2] at hD hB2 ⊢ | (simp only [Nat.cast_ofNat,Nat.cast_one] at hw2 ⊢;rw [hw2] at hD hB2 ⊢)
 clear hw2
 have HR2:=Lib.hid (HR.out.next hB2)
 have HBW:=Lib.hid hB2
 have y0:=hD.cell 0 _
 have y1:=hD.cell 1 _
 have y2:=hD.cell 2 _
 have y3:=hD.cell 3 _
 have y4:=hD.cell 4 _
 have hDz:=hD.lt
 have HDB:=Lib.hid hD
 have hR2:R < w2.heap.size:=HR2.out.box.lt
 generalize w1.heap.size=D at *
 have hDR:¬ D=R:=by omega
 have hRD2:¬ R=D:=by omega
 clear hD hB2 HP HB
 have HPP:=Lib.hid (show pput x (ldir l)=some { x with use:=x.use++[n] } by rw [HD.out];rfl)
 have cj:w2.cell? ⟨R,11,none⟩=some g.u:=HR2.out.box.cell 11 _
 have mixed:Tryz.prog.follows .mixedOrders=true:=by kernel_rfl
 obtain ⟨m0,hm0⟩:∃ m0,x.use.length=m0:=⟨_,rfl⟩
 have HM0:=Lib.hid hm0
 clear hm0
 go_upto_region 16 with fail
 have HW1:Hid (Below w2.heap.size w2 (w2.alloc (.cells #[.string (str n)] 9)).drew):=((Below.refl _ w2).alloc (Nat.le_refl _) _).drew
 have HO1:Hid ((w2.alloc (.cells #[.string (str n)] 9)).drew.ownsRow (R+1) 9 1 g.u m0 (flS x.use)):=by rw [←HM0.out];exact (HR2.out.next HW1.out).u
 have HC1:Hid (∀ j u,(cS n)[j]?=some u→(w2.alloc (.cells #[.string (str n)] 9)).drew.cell? ((⟨w2.heap.size,0,none⟩:Addr).add j)=some u):=row_cells w2 (cS n) 9
 have HZ1:Hid (R+1≤(w2.alloc (.cells #[.string (str n)] 9)).drew.heap.size):=by show R+1≤(w2.alloc (.cells #[.string (str n)] 9)).heap.size;simp;omega
 have HM1:Hid (m0≤1000000):=by show _≤_;have:=HX.out;rw [←HM0.out];omega
 go_region_law_o (go_loud (refine step_app eltS rfl (.tmp 90) (.tmp 93) rfl (base:=R+1) (n:=m0) (cs:=flS x.use) (v:=g.u) (by rfl) (by exact HO1.out) ⟨w2.heap.size,0,none⟩ (cS n) (by rfl) (by exact HC1.out) rfl (by exact cS_one _) HM1.out (by decide) (by exact HZ1.out) ?_;intro gb cb w6 h1 h2 h3;have hmid:=HR2.out.mid_u HW1.out h2;have c46:w6.cell? ⟨R,11,none⟩=some g.u:=hmid.cell 11 _;have f46:=hmid.free 11;have hR6:=hmid.lt;have HADD:=Lib.hid (HR2.out.push_u HW1.out n (v':=.slice (some ⟨gb,0,none⟩) (m0+1) cb) (by rw [HM0.out];exact h1) h2 (h3.imp (fun e=>e) (fun e=>congrArg Option.some e)));clear h1 h2 h3 hmid))
 all_goals
  go_wp2
  go_end0
  exact DirT.go HE.out HPP.out HADD.out.1 ((Kp.of g HBW.out (Nat.le_of_lt hRw)).trans HADD.out.2)
set_option maxRecDepth 100000 in
theorem dirk_bad {w:World} {R:Nat} {x:Slip} {line:Int} {g:Gh} (h:Rdr w R x line g) (l:Tx) (hl:l.length≤20000) (hL:LaidB R w) (he:¬ lerr l=0) :
  Calls Tryz.prog 69 #[.pointer (some ⟨R,0,none⟩),.string (str l)] w (DirT R g x l line w):=by
 have HR:=Lib.hid h
 have hRw:=h.box.lt
 have HP:=Lib.hid (Parse_any l (by omega) w hL.here)
 obtain ⟨e0,he0⟩:∃ e0,lerr l=e0:=⟨_,rfl⟩
 have HE:=Lib.hid he0
 unfold ParseT at HP
 rw [he0] at HP he
 unfold dV dcs at HP
 have hb0:(e0 == 0)=false:=by rw [beq_eq_false_iff_ne];exact he
 have HE0:=Lib.hid he
 clear h hL he hl he0
 go_enter Tryz.func69,Tryz.ntmps69
 go_wp2_with (first
  | (go_at_call 110;((with_reducible refine HP.out.mono ?_);rintro e w1 ⟨rfl,hb⟩);have HB:=Lib.hid hb;clear hb)
  | (go_at_call 111;((with_reducible refine (fail_any (HR.out.next (HB.out.alloc HB.out.size _)) _).mono ?_);rintro e w5 ⟨rfl,rfl⟩)))
 exact ⟨rfl,DirT.bad HE.out HE0.out (Lk.of g (HB.out.alloc HB.out.size _) (Nat.le_of_lt hRw))⟩
theorem directive_any {w:World} {R:Nat} {x:Slip} {line:Int} {g:Gh} (h:Rdr w R x line g) (l:Tx) (hl:l.length≤20000) (hL:LaidB R w) (hm:x.make.length≤20000) (hd:x.drop.length≤20000) (hu:x.use.length≤20000) :
  Calls Tryz.prog 69 #[.pointer (some ⟨R,0,none⟩),.string (str l)] w (DirT R g x l line w):=by
 by_cases he:lerr l=0
 ·have hk:=((chk_iff _).1 (ldir_chk he)).1
  cases hx:ldir l with
  | mk k n p z o =>
   rw [hx] at hk
   dsimp only at hk
   have six:k=1∨k=2∨k=3∨k=4∨k=5∨k=6:=by omega
   rcases six with rfl | rfl | rfl | rfl | rfl | rfl
   ·exact dirk_1 h l hl hL n p z o he hx
   ·exact dirk_2 h l hl hL n p z o he hx
   ·exact dirk_3 h l hl hL n p z o he hx
   ·exact dirk_4 h l hl hL n p z o he hx hm
   ·exact dirk_5 h l hl hL n p z o he hx hd
   ·exact dirk_6 h l hl hL n p z o he hx hu
 ·exact dirk_bad h l hl hL he
end Go.Proofs.YtekcjfdllclphaaGreatDoor.gn
end
