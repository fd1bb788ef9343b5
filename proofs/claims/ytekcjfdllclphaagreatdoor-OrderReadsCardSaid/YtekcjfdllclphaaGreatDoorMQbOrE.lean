/- The contracts of number, either, name, size: a field that is made. -/
import Derived.Test.YtekcjfdllclphaaGreatDoorMQbOrB
import Derived.Test.YtekcjfdllclphaaGreatDoorMQbOrC
import Derived.Shelf.Abstract
set_option linter.unusedVariables false
set_option linter.unusedSimpArgs false
section
namespace Go.Proofs.YtekcjfdllclphaaGreatDoor.gn
open Go.RowKit
open Go.Proofs.YtekcjfdllclphaaGreatDoor.un
open Go.Proofs.YtekcjfdllclphaaGreatDoor.di
open Go.Proofs.YtekcjfdllclphaaGreatDoor.sp (Slip within? okW)
open Go.Proofs.YtekcjfdllclphaaGreatDoor.od (Ord okO stO numV sizV resK badW nK)
theorem made2 (w:World) (a b:Array Value) (t u:TypeId):∃ W,(w.alloc (.cells a t)).alloc (.cells b u)=W∧BoxA W w.heap.size t a∧BoxA W (w.heap.size+1) u b∧Below w.heap.size w W:=by
 refine ⟨_,rfl,BoxA.next (BoxA.new w t a) ((Below.refl _ _).alloc (Nat.le_refl _) _),?_,((Below.refl _ w).alloc (Nat.le_refl _) _).alloc (by simp) _⟩
 have:=BoxA.new (w.alloc (.cells a t)) u b
 rwa [World.size_alloc] at this
theorem made4 (w:World) (a b c d:Array Value) (t u v x:TypeId):∃ W,(((w.alloc (.cells a t)).alloc (.cells b u)).alloc (.cells c v)).alloc (.cells d x)=W∧BoxA W w.heap.size t a∧BoxA W (w.heap.size+1) u b∧BoxA W (w.heap.size+1+1) v c∧BoxA W (w.heap.size+1+1+1) x d∧Below w.heap.size w W:=by
 obtain ⟨W1,h1,b1,b2,l1⟩:=made2 w a b t u
 have hs:W1.heap.size=w.heap.size+1+1:=by rw [←h1];simp
 obtain ⟨W2,h2,b3,b4,l2⟩:=made2 W1 c d v x
 rw [hs] at b3 b4
 refine ⟨W2,by rw [←h2,← h1],b1.next l2,b2.next l2,b3,b4,l1.trans (l2.mono (by omega))⟩
def FldT (K:ByteArray) (t:Tx) (fn:FuncId) (cp:Array Value):Value:=.agg #[.string K,.string (str t),.func (.func fn) #[] cp]
set_option maxRecDepth 100000 in
set_option maxHeartbeats 3200000 in
theorem number_fld (K:ByteArray) (bo j:Nat) (n a b:Int) (h0:-9223372036854775808≤n) (h1:n≤9223372036854775807) (w:World) (hc:w.cell? ⟨bo,j,none⟩=some (.int .i64 n)) (hlt:bo < w.heap.size) (hL:LaidU w) :
  Calls Tryz.prog 80 #[.string K,.pointer (some ⟨bo,j,none⟩),.int .i64 a,.int .i64 b] w fun e w'=>∃ c,e=.returned (FldT K (txt n) 113 #[.pointer (some ⟨c,0,none⟩),.pointer (some ⟨c+1,0,none⟩),.pointer (some ⟨c+1+1,0,none⟩)])∧NumC w' c (c+1) (c+1+1) bo j a b∧w.heap.size≤c∧Below w.heap.size w w':=by
 obtain ⟨W,hW,b1,b2,b3,b4,l⟩:=made4 w #[.pointer (some ⟨bo,j,none⟩)] #[.int .i64 a] #[.int .i64 b] #[.string { data:=#[] },.string { data:=#[] },.nilFunc] 122 2 2 67
 have HW:=Lib.hid hW
 have HB:=Lib.hid (And.intro b1 (And.intro b2 (And.intro b3 b4)))
 have HL:=Lib.hid l
 have HX:=Lib.hid (text_any n h0 h1 W (hL.next l))
 have k1:=b1.cell 0 _
 have k2:W.cell? ⟨bo,j,none⟩=some (.int .i64 n):=(Below.cell l hlt).trans hc
 have hlt2:bo < W.heap.size:=Nat.lt_of_lt_of_le hlt l.size
 clear hW b1 b2 b3 b4 l hc hlt hL h0 h1
 go_enter Tryz.func80,Tryz.ntmps80
 go_upto_region 1 with fail
 rw [HW.out]
 go_wp2_with (first
  | (go_at_call 93;((with_reducible refine HX.out.mono ?_);rintro e w2 ⟨rfl,hb⟩);have HB2:=Lib.hid hb;clear hb)
  | (refine wpList_store_row rfl _ _ _ rfl (w.heap.size+1+1+1) #[.string K,.string (str (txt n)),.func (.func 113) #[] #[.pointer (some ⟨w.heap.size,0,none⟩),.pointer (some ⟨w.heap.size+1,0,none⟩),.pointer (some ⟨w.heap.size+1+1,0,none⟩)]] rfl rfl _ _ (HB.out.2.2.2.next HB2.out) (by kernel_rfl) rfl (by kernel_rfl) ?_))
 refine bodyPost_ret (v:=FldT K (txt n) 113 #[.pointer (some ⟨w.heap.size,0,none⟩),.pointer (some ⟨w.heap.size+1,0,none⟩),.pointer (some ⟨w.heap.size+1+1,0,none⟩)]) (results_cell_row rfl _ _ _ _ _ _ _ rfl (setRow_heap _ _ _ _ _ _ (HB.out.2.2.2.next HB2.out)) Tryz.underlying67 rfl (by kernel_rfl)) rfl ⟨w.heap.size,rfl,⟨(setRow_other _ _ _ _ (by omega)).trans (HB.out.1.next HB2.out),(setRow_other _ _ _ _ (by omega)).trans (HB.out.2.1.next HB2.out),(setRow_other _ _ _ _ (by omega)).trans (HB.out.2.2.1.next HB2.out)⟩,Nat.le_refl _,below_setRow (HL.out.trans (HB2.out.mono HL.out.size)) (by omega) _⟩
set_option maxRecDepth 100000 in
set_option maxHeartbeats 3200000 in
theorem size_fld (K:ByteArray) (bo j:Nat) (n:Int) (h0:-9223372036854775808≤n) (h1:n≤9223372036854775807) (w:World) (hc:w.cell? ⟨bo,j,none⟩=some (.int .i64 n)) (hlt:bo < w.heap.size) (hL:LaidU w) :
  Calls Tryz.prog 92 #[.string K,.pointer (some ⟨bo,j,none⟩)] w fun e w'=>∃ c,e=.returned (FldT K (stxt n) 119 #[.pointer (some ⟨c,0,none⟩)])∧PtC w' c bo j 122∧w.heap.size≤c∧Below w.heap.size w w':=by
 obtain ⟨W,hW,b1,b4,l⟩:=made2 w #[.pointer (some ⟨bo,j,none⟩)] #[.string { data:=#[] },.string { data:=#[] },.nilFunc] 122 67
 have HW:=Lib.hid hW
 have HB:=Lib.hid (And.intro b1 b4)
 have HL:=Lib.hid l
 have HX:=Lib.hid (stext_any n h0 h1 W (hL.next l))
 have k1:=b1.cell 0 _
 have k2:W.cell? ⟨bo,j,none⟩=some (.int .i64 n):=(Below.cell l hlt).trans hc
 have hlt2:bo < W.heap.size:=Nat.lt_of_lt_of_le hlt l.size
 clear hW b1 b4 l hc hlt hL h0 h1
 go_enter Tryz.func92,Tryz.ntmps92
 go_upto_region 1 with fail
 rw [HW.out]
 go_wp2_with (first
  | (go_at_call 118;((with_reducible refine HX.out.mono ?_);rintro e w2 ⟨rfl,hb⟩);have HB2:=Lib.hid hb;clear hb)
  | (refine wpList_store_row rfl _ _ _ rfl (w.heap.size+1) #[.string K,.string (str (stxt n)),.func (.func 119) #[] #[.pointer (some ⟨w.heap.size,0,none⟩)]] rfl rfl _ _ (HB.out.2.next HB2.out) (by kernel_rfl) rfl (by kernel_rfl) ?_))
 refine bodyPost_ret (v:=FldT K (stxt n) 119 #[.pointer (some ⟨w.heap.size,0,none⟩)]) (results_cell_row rfl _ _ _ _ _ _ _ rfl (setRow_heap _ _ _ _ _ _ (HB.out.2.next HB2.out)) Tryz.underlying67 rfl (by kernel_rfl)) rfl ⟨w.heap.size,rfl,(setRow_other _ _ _ _ (by omega)).trans (BoxA.next HB.out.1 HB2.out),Nat.le_refl _,below_setRow (HL.out.trans (HB2.out.mono HL.out.size)) (by omega) _⟩
set_option maxRecDepth 100000 in
set_option maxHeartbeats 3200000 in
theorem name_fld (K:ByteArray) (bo j:Nat) (n:Tx) (w:World) (hc:w.cell? ⟨bo,j,none⟩=some (.string (str n))) (hlt:bo < w.heap.size) :
  Calls Tryz.prog 88 #[.string K,.pointer (some ⟨bo,j,none⟩)] w fun e w'=>∃ c,e=.returned (FldT K n 116 #[.pointer (some ⟨c,0,none⟩)])∧PtC w' c bo j 126∧w.heap.size≤c∧Below w.heap.size w w':=by
 obtain ⟨W,hW,b1,b4,l⟩:=made2 w #[.pointer (some ⟨bo,j,none⟩)] #[.string { data:=#[] },.string { data:=#[] },.nilFunc] 126 67
 have HW:=Lib.hid hW
 have HB:=Lib.hid (And.intro b1 b4)
 have HL:=Lib.hid l
 have k1:=b1.cell 0 _
 have k2:W.cell? ⟨bo,j,none⟩=some (.string (str n)):=(Below.cell l hlt).trans hc
 have hlt2:bo < W.heap.size:=Nat.lt_of_lt_of_le hlt l.size
 clear hW b1 b4 l hc hlt
 go_enter Tryz.func88,Tryz.ntmps88
 go_upto_region 1 with fail
 rw [HW.out]
 go_wp2_with (refine wpList_store_row rfl _ _ _ rfl (w.heap.size+1) #[.string K,.string (str n),.func (.func 116) #[] #[.pointer (some ⟨w.heap.size,0,none⟩)]] rfl rfl _ _ HB.out.2 (by kernel_rfl) rfl (by kernel_rfl) ?_)
 refine bodyPost_ret (v:=FldT K n 116 #[.pointer (some ⟨w.heap.size,0,none⟩)]) (results_cell_row rfl _ _ _ _ _ _ _ rfl (setRow_heap _ _ _ _ _ _ HB.out.2) Tryz.underlying67 rfl (by kernel_rfl)) rfl ⟨w.heap.size,rfl,(setRow_other _ _ _ _ (by omega)).trans HB.out.1,Nat.le_refl _,below_setRow HL.out (by omega) _⟩
set_option maxRecDepth 100000 in
set_option maxHeartbeats 3200000 in
theorem either_fld (K Y N:ByteArray) (yes no:Tx) (hy:str yes=Y) (hn:str no=N) (bo j:Nat) (q:Bool) (w:World) (hc:w.cell? ⟨bo,j,none⟩=some (.bool q)) (hlt:bo < w.heap.size) :
  Calls Tryz.prog 85 #[.string K,.pointer (some ⟨bo,j,none⟩),.string Y,.string N] w fun e w'=>∃ c,e=.returned (FldT K (if q then yes else no) 115 #[.pointer (some ⟨c+1,0,none⟩),.pointer (some ⟨c,0,none⟩),.pointer (some ⟨c+1+1,0,none⟩)])∧EithC w' (c+1) c (c+1+1) bo j yes no∧w.heap.size≤c∧Below w.heap.size w w':=by
 subst hy hn
 obtain ⟨W,hW,b1,b2,b3,b4,l⟩:=made4 w #[.pointer (some ⟨bo,j,none⟩)] #[.string (str yes)] #[.string (str no)] #[.string { data:=#[] },.string { data:=#[] },.nilFunc] 124 9 9 67
 have HW:=Lib.hid hW
 have HB:=Lib.hid (And.intro b1 (And.intro b2 (And.intro b3 b4)))
 have HL:=Lib.hid l
 have k1:=b1.cell 0 _
 have k3:=b2.cell 0 _
 have k4:=b3.cell 0 _
 have hl3:=b3.lt
 have hl2:=b2.lt
 have k2:W.cell? ⟨bo,j,none⟩=some (.bool q):=(Below.cell l hlt).trans hc
 have hlt2:bo < W.heap.size:=Nat.lt_of_lt_of_le hlt l.size
 clear hW b1 b2 b3 b4 l hc hlt
 cases q with
 | true =>
  go_enter Tryz.func85,Tryz.ntmps85
  go_upto_region 1 with fail
  rw [HW.out]
  go_wp2_with (refine wpList_store_row rfl _ _ _ rfl (w.heap.size+1+1+1) #[.string K,.string (str yes),.func (.func 115) #[] #[.pointer (some ⟨w.heap.size+1,0,none⟩),.pointer (some ⟨w.heap.size,0,none⟩),.pointer (some ⟨w.heap.size+1+1,0,none⟩)]] rfl rfl _ _ HB.out.2.2.2 (by kernel_rfl) rfl (by kernel_rfl) ?_)
  refine bodyPost_ret (v:=FldT K yes 115 #[.pointer (some ⟨w.heap.size+1,0,none⟩),.pointer (some ⟨w.heap.size,0,none⟩),.pointer (some ⟨w.heap.size+1+1,0,none⟩)]) (results_cell_row rfl _ _ _ _ _ _ _ rfl (setRow_heap _ _ _ _ _ _ HB.out.2.2.2) Tryz.underlying67 rfl (by kernel_rfl)) rfl ⟨w.heap.size,rfl,⟨(setRow_other _ _ _ _ (by omega)).trans HB.out.2.1,(setRow_other _ _ _ _ (by omega)).trans HB.out.1,(setRow_other _ _ _ _ (by omega)).trans HB.out.2.2.1⟩,Nat.le_refl _,below_setRow HL.out (by omega) _⟩
 | false =>
  go_enter Tryz.func85,Tryz.ntmps85
  go_upto_region 1 with fail
  rw [HW.out]
  go_wp2_with (refine wpList_store_row rfl _ _ _ rfl (w.heap.size+1+1+1) #[.string K,.string (str no),.func (.func 115) #[] #[.pointer (some ⟨w.heap.size+1,0,none⟩),.pointer (some ⟨w.heap.size,0,none⟩),.pointer (some ⟨w.heap.size+1+1,0,none⟩)]] rfl rfl _ _ HB.out.2.2.2 (by kernel_rfl) rfl (by kernel_rfl) ?_)
  refine bodyPost_ret (v:=FldT K no 115 #[.pointer (some ⟨w.heap.size+1,0,none⟩),.pointer (some ⟨w.heap.size,0,none⟩),.pointer (some ⟨w.heap.size+1+1,0,none⟩)]) (results_cell_row rfl _ _ _ _ _ _ _ rfl (setRow_heap _ _ _ _ _ _ HB.out.2.2.2) Tryz.underlying67 rfl (by kernel_rfl)) rfl ⟨w.heap.size,rfl,⟨(setRow_other _ _ _ _ (by omega)).trans HB.out.2.1,(setRow_other _ _ _ _ (by omega)).trans HB.out.1,(setRow_other _ _ _ _ (by omega)).trans HB.out.2.2.1⟩,Nat.le_refl _,below_setRow HL.out (by omega) _⟩
end Go.Proofs.YtekcjfdllclphaaGreatDoor.gn
end
section
namespace Go.Proofs.YtekcjfdllclphaaGreatDoor.gn
open Go.RowKit
open Go.Proofs.YtekcjfdllclphaaGreatDoor.un
open Go.Proofs.YtekcjfdllclphaaGreatDoor.di
open Go.Proofs.YtekcjfdllclphaaGreatDoor.sp (Slip within? okW jobW userK)
open Go.Proofs.YtekcjfdllclphaaGreatDoor.od (Ord okO stO numV sizV resK badW nK lo hi)
def StO (bo:Nat) (g:Gh) (key:Tx) (b:Bool) (v:Tx) (o:Ord) (w:World) (e:Ending) (w':World):Prop:=e=.returned (.bool b)∧But bo w w'∧OrdB w' bo (stO key v o) g
structure StoP (w:World) (bo k:Nat) (g:Gh) (key:Tx) (fn:FuncId) (cp:Array Value):Prop where
 bl:∀ a,Value.pointer (some a)∈cp.toList→a.block≠bo∧∃ cs t,w.heap[a.block]?=some (.cells cs t (0,0))∧t≠67
 en:∀ (args:Array Value) (W:World),(callFunc fn args).run Tryz.prog W=.ok (.enter fn args) W
 run:∀ (W:World) (o:Ord) (v:Tx),(∀ a,Value.pointer (some a)∈cp.toList→W.heap[a.block]?=w.heap[a.block]?)→OrdB W bo o g→v.length≤140737488355328→LaidU W→Calls Tryz.prog fn (#[.string (str v)]++cp) W (StO bo g key (okO k key v) v o W)
theorem StoP.kept {w w':World} {bo k:Nat} {g:Gh} {key:Tx} {fn:FuncId} {cp:Array Value} (h:StoP w bo k g key fn cp) (hk:∀ b cs t,b < w.heap.size→b≠bo→w.heap[b]?=some (.cells cs t (0,0))→t≠67→w'.heap[b]?=w.heap[b]?):StoP w' bo k g key fn cp:=by
 have hs:∀ a,Value.pointer (some a)∈cp.toList→w'.heap[a.block]?=w.heap[a.block]?:=fun a ha=>by
  obtain ⟨h1,cs,t,h2,h3⟩:=h.bl a ha
  exact hk _ cs t (Array.getElem?_eq_some_iff.1 h2).1 h1 h2 h3
 refine ⟨fun a ha=>?_,h.en,fun W o v hw=>h.run W o v fun a ha=>(hw a ha).trans (hs a ha)⟩
 obtain ⟨h1,cs,t,h2,h3⟩:=h.bl a ha
 exact ⟨h1,cs,t,(hs a ha).trans h2,h3⟩
theorem StoP.but {w w':World} {bo k:Nat} {g:Gh} {key:Tx} {fn:FuncId} {cp:Array Value} (h:StoP w bo k g key fn cp) (hb:But bo w w'):StoP w' bo k g key fn cp:=h.kept fun b _ _ h1 h2 _ _=>hb.block b h1 (fun e=>h2 (Option.some.inj e))
theorem StoP.next {w w':World} {bo k:Nat} {g:Gh} {key:Tx} {fn:FuncId} {cp:Array Value} (h:StoP w bo k g key fn cp) (hb:Below w.heap.size w w'):StoP w' bo k g key fn cp:=h.but (But.of_below hb)
theorem StoP.call {w:World} {bo k:Nat} {g:Gh} {key:Tx} {fn:FuncId} {cp:Array Value} (h:StoP w bo k g key fn cp) (o:Ord) (v:Tx) (ho:OrdB w bo o g) (hv:v.length≤140737488355328) (hL:LaidU w):Calls Tryz.prog fn (#[.string (str v)]++cp) w (StO bo g key (okO k key v) v o w):=h.run w o v (fun _ _=>rfl) ho hv hL
theorem putO {w w':World} {e:Ending} {bo j:Nat} {u:Value} {b:Bool} {o o':Ord} {g:Gh} (h:PutT bo j u b w e w') (ho:OrdB w bo o g) (hc:(ocs o g).setIfInBounds j u=ocs o' g):e=.returned (.bool b)∧But bo w w'∧OrdB w' bo o' g:=by
 obtain ⟨he,w1,h1,rfl⟩:=h
 refine ⟨he,(But.of_below h1).setCell _ _,?_⟩
 unfold OrdB
 rw [←hc]
 exact BoxA.set (ho.next h1) j u
theorem nameO {w w':World} {e:Ending} {bo j:Nat} {v:Tx} {o o':Ord} {g:Gh} (h:NameT bo j v w e w') (ho:OrdB w bo o g) (hc:(ocs o g).setIfInBounds j (.string (str v))=ocs o' g):e=.returned (.bool (isName v))∧But bo w w'∧OrdB w' bo (if isName v=false then o else o') g:=by
 obtain ⟨he,w1,h1,rfl⟩:=h
 refine ⟨he,?_⟩
 cases hn:isName v with
 | true =>
  rw [if_pos rfl,if_neg (by decide)]
  refine ⟨(But.of_below h1).setCell _ _,?_⟩
  unfold OrdB
  rw [←hc]
  exact BoxA.set (ho.next h1) j _
 | false =>
  rw [if_neg (by decide),if_pos rfl]
  exact ⟨But.of_below h1,ho.next h1⟩
theorem NumC.row {w:World} {c1 c2 c3 bo j R:Nat} {a b:Int} (h:NumC w c1 c2 c3 bo j a b) (cs:Array Value) (n1:c1≠R) (n2:c2≠R) (n3:c3≠R):NumC (w.setRow R cs) c1 c2 c3 bo j a b:=⟨(setRow_other _ _ _ _ n1).trans h.pt,(setRow_other _ _ _ _ n2).trans h.lo,(setRow_other _ _ _ _ n3).trans h.hi⟩
theorem EithC.row {w:World} {c1 c2 c3 bo j R:Nat} {yes no:Tx} (h:EithC w c1 c2 c3 bo j yes no) (cs:Array Value) (n1:c1≠R) (n2:c2≠R) (n3:c3≠R):EithC (w.setRow R cs) c1 c2 c3 bo j yes no:=⟨(setRow_other _ _ _ _ n1).trans h.yes,(setRow_other _ _ _ _ n2).trans h.pt,(setRow_other _ _ _ _ n3).trans h.no⟩
theorem PtC.row {w:World} {c bo j R:Nat} {t:TypeId} (h:PtC w c bo j t) (cs:Array Value) (n1:c≠R):PtC (w.setRow R cs) c bo j t:=(setRow_other _ _ _ _ n1).trans h
section
variable {w : World} {c bo k : Nat} {g : Gh}
theorem StoP.job (h:NumC w c (c+1) (c+1+1) bo 1 1 1073741824) (hb:bo < c):StoP w bo k g jobW 113 #[.pointer (some ⟨c,0,none⟩),.pointer (some ⟨c+1,0,none⟩),.pointer (some ⟨c+1+1,0,none⟩)]:=by
 refine ⟨fun a ha=>?_,enters_of Tryz.func113 (by kernel_rfl) rfl,fun W o v hk ho hv hL=>?_⟩
 ·simp only [List.mem_cons,List.not_mem_nil,or_false,Value.pointer.injEq,Option.some.injEq] at ha
  rcases ha with rfl | rfl | rfl
  ·exact ⟨by dsimp only;omega,_,_,h.pt,by decide⟩
  ·exact ⟨by dsimp only;omega,_,_,h.lo,by decide⟩
  ·exact ⟨by dsimp only;omega,_,_,h.hi,by decide⟩
 ·have:=number1_any c (c+1) (c+1+1) bo 1 1 1073741824 o.job v hv (by decide) (by decide) W ⟨(hk ⟨c,0,none⟩ (by simp)).trans h.pt,(hk ⟨c+1,0,none⟩ (by simp)).trans h.lo,(hk ⟨c+1+1,0,none⟩ (by simp)).trans h.hi⟩ (BoxA.cell ho 1 _) (BoxA.free ho 1) ho.lt (by omega) (by omega) hL
  exact this.mono fun e w' hp=>putO hp ho rfl
theorem StoP.num (h:NumC w c (c+1) (c+1+1) bo 2 (lo k) (hi k)) (hb:bo < c):StoP w bo k g nK 113 #[.pointer (some ⟨c,0,none⟩),.pointer (some ⟨c+1,0,none⟩),.pointer (some ⟨c+1+1,0,none⟩)]:=by
 refine ⟨fun a ha=>?_,enters_of Tryz.func113 (by kernel_rfl) rfl,fun W o v hk ho hv hL=>?_⟩
 ·simp only [List.mem_cons,List.not_mem_nil,or_false,Value.pointer.injEq,Option.some.injEq] at ha
  rcases ha with rfl | rfl | rfl
  ·exact ⟨by dsimp only;omega,_,_,h.pt,by decide⟩
  ·exact ⟨by dsimp only;omega,_,_,h.lo,by decide⟩
  ·exact ⟨by dsimp only;omega,_,_,h.hi,by decide⟩
 ·have h1:lo k≤1099511627776:=by unfold lo;split <;> decide
  have:=number1_any c (c+1) (c+1+1) bo 2 (lo k) (hi k) o.n v hv h1 (od.hi_top k) W ⟨(hk ⟨c,0,none⟩ (by simp)).trans h.pt,(hk ⟨c+1,0,none⟩ (by simp)).trans h.lo,(hk ⟨c+1+1,0,none⟩ (by simp)).trans h.hi⟩ (BoxA.cell ho 2 _) (BoxA.free ho 2) ho.lt (by omega) (by omega) hL
  exact this.mono fun e w' hp=>putO hp ho rfl
theorem StoP.res (h:EithC w (c+1) c (c+1+1) bo 7 okW badW) (hb:bo < c):StoP w bo k g resK 115 #[.pointer (some ⟨c+1,0,none⟩),.pointer (some ⟨c,0,none⟩),.pointer (some ⟨c+1+1,0,none⟩)]:=by
 refine ⟨fun a ha=>?_,enters_of Tryz.func115 (by kernel_rfl) rfl,fun W o v hk ho hv hL=>?_⟩
 ·simp only [List.mem_cons,List.not_mem_nil,or_false,Value.pointer.injEq,Option.some.injEq] at ha
  rcases ha with rfl | rfl | rfl
  ·exact ⟨by dsimp only;omega,_,_,h.yes,by decide⟩
  ·exact ⟨by dsimp only;omega,_,_,h.pt,by decide⟩
  ·exact ⟨by dsimp only;omega,_,_,h.no,by decide⟩
 ·have:=either1_any (c+1) c (c+1+1) bo 7 o.yes okW badW v W ⟨(hk ⟨c+1,0,none⟩ (by simp)).trans h.yes,(hk ⟨c,0,none⟩ (by simp)).trans h.pt,(hk ⟨c+1+1,0,none⟩ (by simp)).trans h.no⟩ (BoxA.cell ho 7 _) (BoxA.free ho 7) (by omega) (by omega)
  exact this.mono fun e w' hp=>putO hp ho rfl
theorem StoP.acc (h:EithC w (c+1) c (c+1+1) bo 7 pubV priV) (hb:bo < c):StoP w bo k g accK 115 #[.pointer (some ⟨c+1,0,none⟩),.pointer (some ⟨c,0,none⟩),.pointer (some ⟨c+1+1,0,none⟩)]:=by
 refine ⟨fun a ha=>?_,enters_of Tryz.func115 (by kernel_rfl) rfl,fun W o v hk ho hv hL=>?_⟩
 ·simp only [List.mem_cons,List.not_mem_nil,or_false,Value.pointer.injEq,Option.some.injEq] at ha
  rcases ha with rfl | rfl | rfl
  ·exact ⟨by dsimp only;omega,_,_,h.yes,by decide⟩
  ·exact ⟨by dsimp only;omega,_,_,h.pt,by decide⟩
  ·exact ⟨by dsimp only;omega,_,_,h.no,by decide⟩
 ·have:=either1_any (c+1) c (c+1+1) bo 7 o.yes pubV priV v W ⟨(hk ⟨c+1,0,none⟩ (by simp)).trans h.yes,(hk ⟨c,0,none⟩ (by simp)).trans h.pt,(hk ⟨c+1+1,0,none⟩ (by simp)).trans h.no⟩ (BoxA.cell ho 7 _) (BoxA.free ho 7) (by omega) (by omega)
  exact this.mono fun e w' hp=>putO hp ho rfl
theorem StoP.user (h:PtC w c bo 5 126) (hb:bo < c):StoP w bo k g userK 116 #[.pointer (some ⟨c,0,none⟩)]:=by
 refine ⟨fun a ha=>?_,enters_of Tryz.func116 (by kernel_rfl) rfl,fun W o v hk ho hv hL=>?_⟩
 ·simp only [List.mem_cons,List.not_mem_nil,or_false,Value.pointer.injEq,Option.some.injEq] at ha
  subst ha
  exact ⟨by dsimp only;omega,_,_,h,by decide⟩
 ·have:=name1_any c bo 5 o.user v (by omega) W ((hk ⟨c,0,none⟩ (by simp)).trans h) (BoxA.cell ho 5 _) (BoxA.free ho 5) ho.lt (by omega)
  exact this.mono fun e w' hp=>nameO (o':={ o with user:=v }) hp ho rfl
theorem StoP.name (h:PtC w c bo 3 126) (hb:bo < c):StoP w bo k g nameK 116 #[.pointer (some ⟨c,0,none⟩)]:=by
 refine ⟨fun a ha=>?_,enters_of Tryz.func116 (by kernel_rfl) rfl,fun W o v hk ho hv hL=>?_⟩
 ·simp only [List.mem_cons,List.not_mem_nil,or_false,Value.pointer.injEq,Option.some.injEq] at ha
  subst ha
  exact ⟨by dsimp only;omega,_,_,h,by decide⟩
 ·have:=name1_any c bo 3 o.name v (by omega) W ((hk ⟨c,0,none⟩ (by simp)).trans h) (BoxA.cell ho 3 _) (BoxA.free ho 3) ho.lt (by omega)
  exact this.mono fun e w' hp=>nameO (o':={ o with name:=v }) hp ho rfl
theorem StoP.pool (h:PtC w c bo 4 126) (hb:bo < c):StoP w bo k g poolK 116 #[.pointer (some ⟨c,0,none⟩)]:=by
 refine ⟨fun a ha=>?_,enters_of Tryz.func116 (by kernel_rfl) rfl,fun W o v hk ho hv hL=>?_⟩
 ·simp only [List.mem_cons,List.not_mem_nil,or_false,Value.pointer.injEq,Option.some.injEq] at ha
  subst ha
  exact ⟨by dsimp only;omega,_,_,h,by decide⟩
 ·have:=name1_any c bo 4 o.pool v (by omega) W ((hk ⟨c,0,none⟩ (by simp)).trans h) (BoxA.cell ho 4 _) (BoxA.free ho 4) ho.lt (by omega)
  exact this.mono fun e w' hp=>nameO (o':={ o with pool:=v }) hp ho rfl
theorem StoP.cap (h:PtC w c bo 6 122) (hb:bo < c):StoP w bo k g capK 119 #[.pointer (some ⟨c,0,none⟩)]:=by
 refine ⟨fun a ha=>?_,enters_of Tryz.func119 (by kernel_rfl) rfl,fun W o v hk ho hv hL=>?_⟩
 ·simp only [List.mem_cons,List.not_mem_nil,or_false,Value.pointer.injEq,Option.some.injEq] at ha
  subst ha
  exact ⟨by dsimp only;omega,_,_,h,by decide⟩
 ·have:=size1_any c bo 6 o.size v hv W ((hk ⟨c,0,none⟩ (by simp)).trans h) (BoxA.cell ho 6 _) (BoxA.free ho 6) ho.lt hL
  exact this.mono fun e w' hp=>putO hp ho rfl
end
structure OW (o:Ord):Prop where
 job:-9223372036854775808≤o.job∧o.job≤9223372036854775807
 n:-9223372036854775808≤o.n∧o.n≤9223372036854775807
 size:-9223372036854775808≤o.size∧o.size≤9223372036854775807
 name:o.name.length≤140737488355328
 pool:o.pool.length≤140737488355328
 user:o.user.length≤140737488355328
 kind:o.kind≤255
def PtrO (w:World) (c bo:Nat):Prop:=BoxA w c 65 #[.pointer (some ⟨bo,0,none⟩)]
theorem PtrO.next {w w':World} {c bo:Nat} (h:PtrO w c bo) (hb:Below w.heap.size w w'):PtrO w' c bo:=BoxA.next h hb
def LetT (bo k:Nat) (g:Gh) (key t:Tx) (w:World) (e:Ending) (w':World):Prop:=∃ fn cp,e=.returned (FldT (str key) t fn cp)∧StoP w' bo k g key fn cp∧Below w.heap.size w w'
theorem made1 (w:World) (a:Array Value) (t:TypeId):∃ W,w.alloc (.cells a t)=W∧BoxA W w.heap.size t a∧Below w.heap.size w W∧w.heap.size < W.heap.size:=⟨_,rfl,BoxA.new w t a,(Below.refl _ _).alloc (Nat.le_refl _) _,by simp⟩
set_option maxRecDepth 100000 in
set_option maxHeartbeats 3200000 in
theorem let_t (c0 bo k:Nat) (h1:lo k=1) (h2:hi k=1000) (o:Ord) (g:Gh) (w:World) (hp:PtrO w c0 bo) (ho:OrdB w bo o g) (hw:OW o) (hL:LaidU w):Calls Tryz.prog 79 #[.pointer (some ⟨c0,0,none⟩)] w (LetT bo k g nK (txt o.n) w):=by
 obtain ⟨W,hW,b1,hl,hs⟩:=made1 w #[.string { data:=#[] },.string { data:=#[] },.nilFunc] 67
 have HOW:=Lib.hid hw
 have HC:=Lib.hid (show W.cell? ⟨bo,2,none⟩=_ from BoxA.cell (ho.next hl) 2 _)
 have HX:=Lib.hid (number_fld { data:=#[110] } bo 2 o.n 1 1000 HOW.out.n.1 HOW.out.n.2 _ HC.out (Nat.lt_of_lt_of_le ho.lt hl.size) (hL.next hl))
 generalize txt o.n=T at HX ⊢
 have HB:=Lib.hid b1
 have HL:=Lib.hid hl
 have HW:=Lib.hid hW
 have HBO:=Lib.hid ho.lt
 have HS:=Lib.hid hs
 have k1:W.cell? ⟨c0,0,none⟩=some (.pointer (some ⟨bo,0,none⟩)):=BoxA.cell (hp.next hl) 0 _
 have hlt:bo < W.heap.size:=Nat.lt_of_lt_of_le ho.lt hl.size
 clear hW b1 hl hs hp ho hw hL
 go_enter Tryz.func79,Tryz.ntmps79
 go_upto_region 1 with fail
 rw [HW.out]
 go_wp2_with (first
  | (go_at_call 80;((with_reducible refine HX.out.mono ?_);rintro e w2 ⟨c,rfl,hN,hc,hb⟩);have HN:=Lib.hid hN;have HC2:=Lib.hid hc;have HB2:=Lib.hid hb;clear hN hc hb)
  | (refine wpList_store_row rfl _ _ _ rfl w.heap.size #[.string { data:=#[110] },.string (str T),.func (.func 113) #[] #[.pointer (some ⟨c,0,none⟩),.pointer (some ⟨c+1,0,none⟩),.pointer (some ⟨c+1+1,0,none⟩)]] rfl rfl _ _ (HB.out.next HB2.out) (by kernel_rfl) rfl (by kernel_rfl) ?_))
 have hcw:w.heap.size < c:=Nat.lt_of_lt_of_le HS.out HC2.out
 have hbo:=HBO.out
 exact bodyPost_ret (v:=FldT { data:=#[110] } T 113 #[.pointer (some ⟨c,0,none⟩),.pointer (some ⟨c+1,0,none⟩),.pointer (some ⟨c+1+1,0,none⟩)]) (results_cell_row rfl _ _ _ _ _ _ _ rfl (setRow_heap _ _ _ _ _ _ (HB.out.next HB2.out)) Tryz.underlying67 rfl (by kernel_rfl)) rfl ⟨_,_,rfl,StoP.num (show NumC _ c (c+1) (c+1+1) bo 2 (lo k) (hi k) by rw [h1,h2];exact HN.out.row _ (by omega) (by omega) (by omega)) (by omega),below_setRow (HL.out.trans (HB2.out.mono HL.out.size)) (Nat.le_refl _) _⟩
set_option maxRecDepth 100000 in
set_option maxHeartbeats 3200000 in
theorem let_q (c0 bo k:Nat) (h1:lo k=0) (h2:hi k=9) (o:Ord) (g:Gh) (w:World) (hp:PtrO w c0 bo) (ho:OrdB w bo o g) (hw:OW o) (hL:LaidU w):Calls Tryz.prog 81 #[.pointer (some ⟨c0,0,none⟩)] w (LetT bo k g nK (txt o.n) w):=by
 obtain ⟨W,hW,b1,hl,hs⟩:=made1 w #[.string { data:=#[] },.string { data:=#[] },.nilFunc] 67
 have HOW:=Lib.hid hw
 have HC:=Lib.hid (show W.cell? ⟨bo,2,none⟩=_ from BoxA.cell (ho.next hl) 2 _)
 have HX:=Lib.hid (number_fld { data:=#[110] } bo 2 o.n 0 9 HOW.out.n.1 HOW.out.n.2 _ HC.out (Nat.lt_of_lt_of_le ho.lt hl.size) (hL.next hl))
 generalize txt o.n=T at HX ⊢
 have HB:=Lib.hid b1
 have HL:=Lib.hid hl
 have HW:=Lib.hid hW
 have HBO:=Lib.hid ho.lt
 have HS:=Lib.hid hs
 have k1:W.cell? ⟨c0,0,none⟩=some (.pointer (some ⟨bo,0,none⟩)):=BoxA.cell (hp.next hl) 0 _
 have hlt:bo < W.heap.size:=Nat.lt_of_lt_of_le ho.lt hl.size
 clear hW b1 hl hs hp ho hw hL
 go_enter Tryz.func81,Tryz.ntmps81
 go_upto_region 1 with fail
 rw [HW.out]
 go_wp2_with (first
  | (go_at_call 80;((with_reducible refine HX.out.mono ?_);rintro e w2 ⟨c,rfl,hN,hc,hb⟩);have HN:=Lib.hid hN;have HC2:=Lib.hid hc;have HB2:=Lib.hid hb;clear hN hc hb)
  | (refine wpList_store_row rfl _ _ _ rfl w.heap.size #[.string { data:=#[110] },.string (str T),.func (.func 113) #[] #[.pointer (some ⟨c,0,none⟩),.pointer (some ⟨c+1,0,none⟩),.pointer (some ⟨c+1+1,0,none⟩)]] rfl rfl _ _ (HB.out.next HB2.out) (by kernel_rfl) rfl (by kernel_rfl) ?_))
 have hcw:w.heap.size < c:=Nat.lt_of_lt_of_le HS.out HC2.out
 have hbo:=HBO.out
 exact bodyPost_ret (v:=FldT { data:=#[110] } T 113 #[.pointer (some ⟨c,0,none⟩),.pointer (some ⟨c+1,0,none⟩),.pointer (some ⟨c+1+1,0,none⟩)]) (results_cell_row rfl _ _ _ _ _ _ _ rfl (setRow_heap _ _ _ _ _ _ (HB.out.next HB2.out)) Tryz.underlying67 rfl (by kernel_rfl)) rfl ⟨_,_,rfl,StoP.num (show NumC _ c (c+1) (c+1+1) bo 2 (lo k) (hi k) by rw [h1,h2];exact HN.out.row _ (by omega) (by omega) (by omega)) (by omega),below_setRow (HL.out.trans (HB2.out.mono HL.out.size)) (Nat.le_refl _) _⟩
set_option maxRecDepth 100000 in
set_option maxHeartbeats 3200000 in
theorem let_m (c0 bo k:Nat) (h1:lo k=0) (h2:hi k=63) (o:Ord) (g:Gh) (w:World) (hp:PtrO w c0 bo) (ho:OrdB w bo o g) (hw:OW o) (hL:LaidU w):Calls Tryz.prog 82 #[.pointer (some ⟨c0,0,none⟩)] w (LetT bo k g nK (txt o.n) w):=by
 obtain ⟨W,hW,b1,hl,hs⟩:=made1 w #[.string { data:=#[] },.string { data:=#[] },.nilFunc] 67
 have HOW:=Lib.hid hw
 have HC:=Lib.hid (show W.cell? ⟨bo,2,none⟩=_ from BoxA.cell (ho.next hl) 2 _)
 have HX:=Lib.hid (number_fld { data:=#[110] } bo 2 o.n 0 63 HOW.out.n.1 HOW.out.n.2 _ HC.out (Nat.lt_of_lt_of_le ho.lt hl.size) (hL.next hl))
 generalize txt o.n=T at HX ⊢
 have HB:=Lib.hid b1
 have HL:=Lib.hid hl
 have HW:=Lib.hid hW
 have HBO:=Lib.hid ho.lt
 have HS:=Lib.hid hs
 have k1:W.cell? ⟨c0,0,none⟩=some (.pointer (some ⟨bo,0,none⟩)):=BoxA.cell (hp.next hl) 0 _
 have hlt:bo < W.heap.size:=Nat.lt_of_lt_of_le ho.lt hl.size
 clear hW b1 hl hs hp ho hw hL
 go_enter Tryz.func82,Tryz.ntmps82
 go_upto_region 1 with fail
 rw [HW.out]
 go_wp2_with (first
  | (go_at_call 80;((with_reducible refine HX.out.mono ?_);rintro e w2 ⟨c,rfl,hN,hc,hb⟩);have HN:=Lib.hid hN;have HC2:=Lib.hid hc;have HB2:=Lib.hid hb;clear hN hc hb)
  | (refine wpList_store_row rfl _ _ _ rfl w.heap.size #[.string { data:=#[110] },.string (str T),.func (.func 113) #[] #[.pointer (some ⟨c,0,none⟩),.pointer (some ⟨c+1,0,none⟩),.pointer (some ⟨c+1+1,0,none⟩)]] rfl rfl _ _ (HB.out.next HB2.out) (by kernel_rfl) rfl (by kernel_rfl) ?_))
 have hcw:w.heap.size < c:=Nat.lt_of_lt_of_le HS.out HC2.out
 have hbo:=HBO.out
 exact bodyPost_ret (v:=FldT { data:=#[110] } T 113 #[.pointer (some ⟨c,0,none⟩),.pointer (some ⟨c+1,0,none⟩),.pointer (some ⟨c+1+1,0,none⟩)]) (results_cell_row rfl _ _ _ _ _ _ _ rfl (setRow_heap _ _ _ _ _ _ (HB.out.next HB2.out)) Tryz.underlying67 rfl (by kernel_rfl)) rfl ⟨_,_,rfl,StoP.num (show NumC _ c (c+1) (c+1+1) bo 2 (lo k) (hi k) by rw [h1,h2];exact HN.out.row _ (by omega) (by omega) (by omega)) (by omega),below_setRow (HL.out.trans (HB2.out.mono HL.out.size)) (Nat.le_refl _) _⟩
set_option maxRecDepth 100000 in
set_option maxHeartbeats 3200000 in
theorem let_j (c0 bo k:Nat)  (o:Ord) (g:Gh) (w:World) (hp:PtrO w c0 bo) (ho:OrdB w bo o g) (hw:OW o) (hL:LaidU w):Calls Tryz.prog 83 #[.pointer (some ⟨c0,0,none⟩)] w (LetT bo k g jobW (txt o.job) w):=by
 obtain ⟨W,hW,b1,hl,hs⟩:=made1 w #[.string { data:=#[] },.string { data:=#[] },.nilFunc] 67
 have HOW:=Lib.hid hw
 have HC:=Lib.hid (show W.cell? ⟨bo,1,none⟩=_ from BoxA.cell (ho.next hl) 1 _)
 have HX:=Lib.hid (number_fld { data:=#[106,111,98] } bo 1 o.job 1 1073741824 HOW.out.job.1 HOW.out.job.2 _ HC.out (Nat.lt_of_lt_of_le ho.lt hl.size) (hL.next hl))
 generalize txt o.job=T at HX ⊢
 have HB:=Lib.hid b1
 have HL:=Lib.hid hl
 have HW:=Lib.hid hW
 have HBO:=Lib.hid ho.lt
 have HS:=Lib.hid hs
 have k1:W.cell? ⟨c0,0,none⟩=some (.pointer (some ⟨bo,0,none⟩)):=BoxA.cell (hp.next hl) 0 _
 have hlt:bo < W.heap.size:=Nat.lt_of_lt_of_le ho.lt hl.size
 clear hW b1 hl hs hp ho hw hL
 go_enter Tryz.func83,Tryz.ntmps83
 go_upto_region 1 with fail
 rw [HW.out]
 go_wp2_with (first
  | (go_at_call 80;((with_reducible refine HX.out.mono ?_);rintro e w2 ⟨c,rfl,hN,hc,hb⟩);have HN:=Lib.hid hN;have HC2:=Lib.hid hc;have HB2:=Lib.hid hb;clear hN hc hb)
  | (refine wpList_store_row rfl _ _ _ rfl w.heap.size #[.string { data:=#[106,111,98] },.string (str T),.func (.func 113) #[] #[.pointer (some ⟨c,0,none⟩),.pointer (some ⟨c+1,0,none⟩),.pointer (some ⟨c+1+1,0,none⟩)]] rfl rfl _ _ (HB.out.next HB2.out) (by kernel_rfl) rfl (by kernel_rfl) ?_))
 have hcw:w.heap.size < c:=Nat.lt_of_lt_of_le HS.out HC2.out
 have hbo:=HBO.out
 exact bodyPost_ret (v:=FldT { data:=#[106,111,98] } T 113 #[.pointer (some ⟨c,0,none⟩),.pointer (some ⟨c+1,0,none⟩),.pointer (some ⟨c+1+1,0,none⟩)]) (results_cell_row rfl _ _ _ _ _ _ _ rfl (setRow_heap _ _ _ _ _ _ (HB.out.next HB2.out)) Tryz.underlying67 rfl (by kernel_rfl)) rfl ⟨_,_,rfl,StoP.job (HN.out.row _ (by omega) (by omega) (by omega)) (by omega),below_setRow (HL.out.trans (HB2.out.mono HL.out.size)) (Nat.le_refl _) _⟩
set_option maxRecDepth 100000 in
set_option maxHeartbeats 3200000 in
theorem let_r (c0 bo k:Nat)  (o:Ord) (g:Gh) (w:World) (hp:PtrO w c0 bo) (ho:OrdB w bo o g) (hw:OW o) (hL:LaidU w):Calls Tryz.prog 84 #[.pointer (some ⟨c0,0,none⟩)] w (LetT bo k g resK ((if o.yes then okW else badW)) w):=by
 obtain ⟨W,hW,b1,hl,hs⟩:=made1 w #[.string { data:=#[] },.string { data:=#[] },.nilFunc] 67
 have HOW:=Lib.hid hw
 have HC:=Lib.hid (show W.cell? ⟨bo,7,none⟩=_ from BoxA.cell (ho.next hl) 7 _)
 have HX:=Lib.hid (either_fld { data:=#[114,101,115,117,108,116] } { data:=#[111,107] } { data:=#[98,97,100] } okW badW rfl rfl bo 7 o.yes _ HC.out (Nat.lt_of_lt_of_le ho.lt hl.size))
 generalize (if o.yes then okW else badW)=T at HX ⊢
 have HB:=Lib.hid b1
 have HL:=Lib.hid hl
 have HW:=Lib.hid hW
 have HBO:=Lib.hid ho.lt
 have HS:=Lib.hid hs
 have k1:W.cell? ⟨c0,0,none⟩=some (.pointer (some ⟨bo,0,none⟩)):=BoxA.cell (hp.next hl) 0 _
 have hlt:bo < W.heap.size:=Nat.lt_of_lt_of_le ho.lt hl.size
 clear hW b1 hl hs hp ho hw hL
 go_enter Tryz.func84,Tryz.ntmps84
 go_upto_region 1 with fail
 rw [HW.out]
 go_wp2_with (first
  | (go_at_call 85;((with_reducible refine HX.out.mono ?_);rintro e w2 ⟨c,rfl,hN,hc,hb⟩);have HN:=Lib.hid hN;have HC2:=Lib.hid hc;have HB2:=Lib.hid hb;clear hN hc hb)
  | (refine wpList_store_row rfl _ _ _ rfl w.heap.size #[.string { data:=#[114,101,115,117,108,116] },.string (str T),.func (.func 115) #[] #[.pointer (some ⟨c+1,0,none⟩),.pointer (some ⟨c,0,none⟩),.pointer (some ⟨c+1+1,0,none⟩)]] rfl rfl _ _ (HB.out.next HB2.out) (by kernel_rfl) rfl (by kernel_rfl) ?_))
 have hcw:w.heap.size < c:=Nat.lt_of_lt_of_le HS.out HC2.out
 have hbo:=HBO.out
 exact bodyPost_ret (v:=FldT { data:=#[114,101,115,117,108,116] } T 115 #[.pointer (some ⟨c+1,0,none⟩),.pointer (some ⟨c,0,none⟩),.pointer (some ⟨c+1+1,0,none⟩)]) (results_cell_row rfl _ _ _ _ _ _ _ rfl (setRow_heap _ _ _ _ _ _ (HB.out.next HB2.out)) Tryz.underlying67 rfl (by kernel_rfl)) rfl ⟨_,_,rfl,StoP.res (HN.out.row _ (by omega) (by omega) (by omega)) (by omega),below_setRow (HL.out.trans (HB2.out.mono HL.out.size)) (Nat.le_refl _) _⟩
set_option maxRecDepth 100000 in
set_option maxHeartbeats 3200000 in
theorem let_a (c0 bo k:Nat)  (o:Ord) (g:Gh) (w:World) (hp:PtrO w c0 bo) (ho:OrdB w bo o g) (hw:OW o) (hL:LaidU w):Calls Tryz.prog 86 #[.pointer (some ⟨c0,0,none⟩)] w (LetT bo k g accK ((if o.yes then pubV else priV)) w):=by
 obtain ⟨W,hW,b1,hl,hs⟩:=made1 w #[.string { data:=#[] },.string { data:=#[] },.nilFunc] 67
 have HOW:=Lib.hid hw
 have HC:=Lib.hid (show W.cell? ⟨bo,7,none⟩=_ from BoxA.cell (ho.next hl) 7 _)
 have HX:=Lib.hid (either_fld { data:=#[97,99,99,101,115,115] } { data:=#[112,117,98,108,105,99] } { data:=#[112,114,105,118,97,116,101] } pubV priV rfl rfl bo 7 o.yes _ HC.out (Nat.lt_of_lt_of_le ho.lt hl.size))
 generalize (if o.yes then pubV else priV)=T at HX ⊢
 have HB:=Lib.hid b1
 have HL:=Lib.hid hl
 have HW:=Lib.hid hW
 have HBO:=Lib.hid ho.lt
 have HS:=Lib.hid hs
 have k1:W.cell? ⟨c0,0,none⟩=some (.pointer (some ⟨bo,0,none⟩)):=BoxA.cell (hp.next hl) 0 _
 have hlt:bo < W.heap.size:=Nat.lt_of_lt_of_le ho.lt hl.size
 clear hW b1 hl hs hp ho hw hL
 go_enter Tryz.func86,Tryz.ntmps86
 go_upto_region 1 with fail
 rw [HW.out]
 go_wp2_with (first
  | (go_at_call 85;((with_reducible refine HX.out.mono ?_);rintro e w2 ⟨c,rfl,hN,hc,hb⟩);have HN:=Lib.hid hN;have HC2:=Lib.hid hc;have HB2:=Lib.hid hb;clear hN hc hb)
  | (refine wpList_store_row rfl _ _ _ rfl w.heap.size #[.string { data:=#[97,99,99,101,115,115] },.string (str T),.func (.func 115) #[] #[.pointer (some ⟨c+1,0,none⟩),.pointer (some ⟨c,0,none⟩),.pointer (some ⟨c+1+1,0,none⟩)]] rfl rfl _ _ (HB.out.next HB2.out) (by kernel_rfl) rfl (by kernel_rfl) ?_))
 have hcw:w.heap.size < c:=Nat.lt_of_lt_of_le HS.out HC2.out
 have hbo:=HBO.out
 exact bodyPost_ret (v:=FldT { data:=#[97,99,99,101,115,115] } T 115 #[.pointer (some ⟨c+1,0,none⟩),.pointer (some ⟨c,0,none⟩),.pointer (some ⟨c+1+1,0,none⟩)]) (results_cell_row rfl _ _ _ _ _ _ _ rfl (setRow_heap _ _ _ _ _ _ (HB.out.next HB2.out)) Tryz.underlying67 rfl (by kernel_rfl)) rfl ⟨_,_,rfl,StoP.acc (HN.out.row _ (by omega) (by omega) (by omega)) (by omega),below_setRow (HL.out.trans (HB2.out.mono HL.out.size)) (Nat.le_refl _) _⟩
set_option maxRecDepth 100000 in
set_option maxHeartbeats 3200000 in
theorem let_u (c0 bo k:Nat)  (o:Ord) (g:Gh) (w:World) (hp:PtrO w c0 bo) (ho:OrdB w bo o g) (hw:OW o) (hL:LaidU w):Calls Tryz.prog 87 #[.pointer (some ⟨c0,0,none⟩)] w (LetT bo k g userK (o.user) w):=by
 obtain ⟨W,hW,b1,hl,hs⟩:=made1 w #[.string { data:=#[] },.string { data:=#[] },.nilFunc] 67
 have HOW:=Lib.hid hw
 have HC:=Lib.hid (show W.cell? ⟨bo,5,none⟩=_ from BoxA.cell (ho.next hl) 5 _)
 have HX:=Lib.hid (name_fld { data:=#[117,115,101,114] } bo 5 o.user _ HC.out (Nat.lt_of_lt_of_le ho.lt hl.size))
 generalize o.user=T at HX ⊢
 have HB:=Lib.hid b1
 have HL:=Lib.hid hl
 have HW:=Lib.hid hW
 have HBO:=Lib.hid ho.lt
 have HS:=Lib.hid hs
 have k1:W.cell? ⟨c0,0,none⟩=some (.pointer (some ⟨bo,0,none⟩)):=BoxA.cell (hp.next hl) 0 _
 have hlt:bo < W.heap.size:=Nat.lt_of_lt_of_le ho.lt hl.size
 clear hW b1 hl hs hp ho hw hL
 go_enter Tryz.func87,Tryz.ntmps87
 go_upto_region 1 with fail
 rw [HW.out]
 go_wp2_with (first
  | (go_at_call 88;((with_reducible refine HX.out.mono ?_);rintro e w2 ⟨c,rfl,hN,hc,hb⟩);have HN:=Lib.hid hN;have HC2:=Lib.hid hc;have HB2:=Lib.hid hb;clear hN hc hb)
  | (refine wpList_store_row rfl _ _ _ rfl w.heap.size #[.string { data:=#[117,115,101,114] },.string (str T),.func (.func 116) #[] #[.pointer (some ⟨c,0,none⟩)]] rfl rfl _ _ (HB.out.next HB2.out) (by kernel_rfl) rfl (by kernel_rfl) ?_))
 have hcw:w.heap.size < c:=Nat.lt_of_lt_of_le HS.out HC2.out
 have hbo:=HBO.out
 exact bodyPost_ret (v:=FldT { data:=#[117,115,101,114] } T 116 #[.pointer (some ⟨c,0,none⟩)]) (results_cell_row rfl _ _ _ _ _ _ _ rfl (setRow_heap _ _ _ _ _ _ (HB.out.next HB2.out)) Tryz.underlying67 rfl (by kernel_rfl)) rfl ⟨_,_,rfl,StoP.user (PtC.row HN.out _ (by omega)) (by omega),below_setRow (HL.out.trans (HB2.out.mono HL.out.size)) (Nat.le_refl _) _⟩
set_option maxRecDepth 100000 in
set_option maxHeartbeats 3200000 in
theorem let_n (c0 bo k:Nat)  (o:Ord) (g:Gh) (w:World) (hp:PtrO w c0 bo) (ho:OrdB w bo o g) (hw:OW o) (hL:LaidU w):Calls Tryz.prog 89 #[.pointer (some ⟨c0,0,none⟩)] w (LetT bo k g nameK (o.name) w):=by
 obtain ⟨W,hW,b1,hl,hs⟩:=made1 w #[.string { data:=#[] },.string { data:=#[] },.nilFunc] 67
 have HOW:=Lib.hid hw
 have HC:=Lib.hid (show W.cell? ⟨bo,3,none⟩=_ from BoxA.cell (ho.next hl) 3 _)
 have HX:=Lib.hid (name_fld { data:=#[110,97,109,101] } bo 3 o.name _ HC.out (Nat.lt_of_lt_of_le ho.lt hl.size))
 generalize o.name=T at HX ⊢
 have HB:=Lib.hid b1
 have HL:=Lib.hid hl
 have HW:=Lib.hid hW
 have HBO:=Lib.hid ho.lt
 have HS:=Lib.hid hs
 have k1:W.cell? ⟨c0,0,none⟩=some (.pointer (some ⟨bo,0,none⟩)):=BoxA.cell (hp.next hl) 0 _
 have hlt:bo < W.heap.size:=Nat.lt_of_lt_of_le ho.lt hl.size
 clear hW b1 hl hs hp ho hw hL
 go_enter Tryz.func89,Tryz.ntmps89
 go_upto_region 1 with fail
 rw [HW.out]
 go_wp2_with (first
  | (go_at_call 88;((with_reducible refine HX.out.mono ?_);rintro e w2 ⟨c,rfl,hN,hc,hb⟩);have HN:=Lib.hid hN;have HC2:=Lib.hid hc;have HB2:=Lib.hid hb;clear hN hc hb)
  | (refine wpList_store_row rfl _ _ _ rfl w.heap.size #[.string { data:=#[110,97,109,101] },.string (str T),.func (.func 116) #[] #[.pointer (some ⟨c,0,none⟩)]] rfl rfl _ _ (HB.out.next HB2.out) (by kernel_rfl) rfl (by kernel_rfl) ?_))
 have hcw:w.heap.size < c:=Nat.lt_of_lt_of_le HS.out HC2.out
 have hbo:=HBO.out
 exact bodyPost_ret (v:=FldT { data:=#[110,97,109,101] } T 116 #[.pointer (some ⟨c,0,none⟩)]) (results_cell_row rfl _ _ _ _ _ _ _ rfl (setRow_heap _ _ _ _ _ _ (HB.out.next HB2.out)) Tryz.underlying67 rfl (by kernel_rfl)) rfl ⟨_,_,rfl,StoP.name (PtC.row HN.out _ (by omega)) (by omega),below_setRow (HL.out.trans (HB2.out.mono HL.out.size)) (Nat.le_refl _) _⟩
set_option maxRecDepth 100000 in
set_option maxHeartbeats 3200000 in
theorem let_p (c0 bo k:Nat)  (o:Ord) (g:Gh) (w:World) (hp:PtrO w c0 bo) (ho:OrdB w bo o g) (hw:OW o) (hL:LaidU w):Calls Tryz.prog 90 #[.pointer (some ⟨c0,0,none⟩)] w (LetT bo k g poolK (o.pool) w):=by
 obtain ⟨W,hW,b1,hl,hs⟩:=made1 w #[.string { data:=#[] },.string { data:=#[] },.nilFunc] 67
 have HOW:=Lib.hid hw
 have HC:=Lib.hid (show W.cell? ⟨bo,4,none⟩=_ from BoxA.cell (ho.next hl) 4 _)
 have HX:=Lib.hid (name_fld { data:=#[112,111,111,108] } bo 4 o.pool _ HC.out (Nat.lt_of_lt_of_le ho.lt hl.size))
 generalize o.pool=T at HX ⊢
 have HB:=Lib.hid b1
 have HL:=Lib.hid hl
 have HW:=Lib.hid hW
 have HBO:=Lib.hid ho.lt
 have HS:=Lib.hid hs
 have k1:W.cell? ⟨c0,0,none⟩=some (.pointer (some ⟨bo,0,none⟩)):=BoxA.cell (hp.next hl) 0 _
 have hlt:bo < W.heap.size:=Nat.lt_of_lt_of_le ho.lt hl.size
 clear hW b1 hl hs hp ho hw hL
 go_enter Tryz.func90,Tryz.ntmps90
 go_upto_region 1 with fail
 rw [HW.out]
 go_wp2_with (first
  | (go_at_call 88;((with_reducible refine HX.out.mono ?_);rintro e w2 ⟨c,rfl,hN,hc,hb⟩);have HN:=Lib.hid hN;have HC2:=Lib.hid hc;have HB2:=Lib.hid hb;clear hN hc hb)
  | (refine wpList_store_row rfl _ _ _ rfl w.heap.size #[.string { data:=#[112,111,111,108] },.string (str T),.func (.func 116) #[] #[.pointer (some ⟨c,0,none⟩)]] rfl rfl _ _ (HB.out.next HB2.out) (by kernel_rfl) rfl (by kernel_rfl) ?_))
 have hcw:w.heap.size < c:=Nat.lt_of_lt_of_le HS.out HC2.out
 have hbo:=HBO.out
 exact bodyPost_ret (v:=FldT { data:=#[112,111,111,108] } T 116 #[.pointer (some ⟨c,0,none⟩)]) (results_cell_row rfl _ _ _ _ _ _ _ rfl (setRow_heap _ _ _ _ _ _ (HB.out.next HB2.out)) Tryz.underlying67 rfl (by kernel_rfl)) rfl ⟨_,_,rfl,StoP.pool (PtC.row HN.out _ (by omega)) (by omega),below_setRow (HL.out.trans (HB2.out.mono HL.out.size)) (Nat.le_refl _) _⟩
set_option maxRecDepth 100000 in
set_option maxHeartbeats 3200000 in
theorem let_c (c0 bo k:Nat)  (o:Ord) (g:Gh) (w:World) (hp:PtrO w c0 bo) (ho:OrdB w bo o g) (hw:OW o) (hL:LaidU w):Calls Tryz.prog 91 #[.pointer (some ⟨c0,0,none⟩)] w (LetT bo k g capK (stxt o.size) w):=by
 obtain ⟨W,hW,b1,hl,hs⟩:=made1 w #[.string { data:=#[] },.string { data:=#[] },.nilFunc] 67
 have HOW:=Lib.hid hw
 have HC:=Lib.hid (show W.cell? ⟨bo,6,none⟩=_ from BoxA.cell (ho.next hl) 6 _)
 have HX:=Lib.hid (size_fld { data:=#[99,97,112,97,99,105,116,121] } bo 6 o.size HOW.out.size.1 HOW.out.size.2 _ HC.out (Nat.lt_of_lt_of_le ho.lt hl.size) (hL.next hl))
 generalize stxt o.size=T at HX ⊢
 have HB:=Lib.hid b1
 have HL:=Lib.hid hl
 have HW:=Lib.hid hW
 have HBO:=Lib.hid ho.lt
 have HS:=Lib.hid hs
 have k1:W.cell? ⟨c0,0,none⟩=some (.pointer (some ⟨bo,0,none⟩)):=BoxA.cell (hp.next hl) 0 _
 have hlt:bo < W.heap.size:=Nat.lt_of_lt_of_le ho.lt hl.size
 clear hW b1 hl hs hp ho hw hL
 go_enter Tryz.func91,Tryz.ntmps91
 go_upto_region 1 with fail
 rw [HW.out]
 go_wp2_with (first
  | (go_at_call 92;((with_reducible refine HX.out.mono ?_);rintro e w2 ⟨c,rfl,hN,hc,hb⟩);have HN:=Lib.hid hN;have HC2:=Lib.hid hc;have HB2:=Lib.hid hb;clear hN hc hb)
  | (refine wpList_store_row rfl _ _ _ rfl w.heap.size #[.string { data:=#[99,97,112,97,99,105,116,121] },.string (str T),.func (.func 119) #[] #[.pointer (some ⟨c,0,none⟩)]] rfl rfl _ _ (HB.out.next HB2.out) (by kernel_rfl) rfl (by kernel_rfl) ?_))
 have hcw:w.heap.size < c:=Nat.lt_of_lt_of_le HS.out HC2.out
 have hbo:=HBO.out
 exact bodyPost_ret (v:=FldT { data:=#[99,97,112,97,99,105,116,121] } T 119 #[.pointer (some ⟨c,0,none⟩)]) (results_cell_row rfl _ _ _ _ _ _ _ rfl (setRow_heap _ _ _ _ _ _ (HB.out.next HB2.out)) Tryz.underlying67 rfl (by kernel_rfl)) rfl ⟨_,_,rfl,StoP.cap (PtC.row HN.out _ (by omega)) (by omega),below_setRow (HL.out.trans (HB2.out.mono HL.out.size)) (Nat.le_refl _) _⟩
end Go.Proofs.YtekcjfdllclphaaGreatDoor.gn
end
