/- What a field's closure does; the closures of letters, the map of letters. (Written by gen_orF.py.) -/
import Derived.Test.YtekcjfdllclphaaGreatDoorMQaOrE
import Derived.Shelf.Abstract
import Derived.Test.YtekcjfdllclphaaGreatDoorMQaOrR
import Derived.Test.YtekcjfdllclphaaGreatDoorMQaOrB
import Derived.Test.YtekcjfdllclphaaGreatDoorMQaSlM
section
set_option linter.unusedVariables false
set_option linter.unusedSimpArgs false
namespace Go.Proofs.YtekcjfdllclphaaGreatDoor.gn
open Go.RowKit
open Go.Proofs.YtekcjfdllclphaaGreatDoor.un
open Go.Proofs.YtekcjfdllclphaaGreatDoor.di
open Go.Proofs.YtekcjfdllclphaaGreatDoor.sp (Slip within? okW jobW userK)
open Go.Proofs.YtekcjfdllclphaaGreatDoor.od (Ord okO stO numV sizV resK badW nK lo hi)
def StO (bo:Nat) (g:Gh) (key:Tx) (b:Bool) (v:Tx) (o:Ord) (w:World) (e:Ending) (w':World):Prop:=e=.returned (.bool b)∧But bo w w'∧OrdB w' bo (stO key v o) g
structure StoP (w:World) (bo k:Nat) (g:Gh) (key:Tx) (fn:FuncId) (cp:Array Value):Prop where
 bl:∀ a,Value.pointer (some a)∈cp.toList→a.block≠bo∧∃ cs t,w.heap[a.block]?=some (.cells cs t (0,0))∧t≠67
 en:∀ (args:Array Value) (W:World),(callFunc fn args).run Tryz.prog W=.ok (.enter fn args) W
 run:∀ (W:World) (o:Ord) (v:Tx),(∀ a,Value.pointer (some a)∈cp.toList→W.heap[a.block]?=w.heap[a.block]?)→OrdB W bo o g→v.length≤140737488355328→LaidU W→Calls Tryz.prog fn (#[.string (str v)]++cp) W (StO bo g key (okO k key v) v o W)
theorem StoP.kept {w w':World} {bo k:Nat} {g:Gh} {key:Tx} {fn:FuncId} {cp:Array Value} (h:StoP w bo k g key fn cp) (hk:∀ b cs t,b < w.heap.size→b≠bo→w.heap[b]?=some (.cells cs t (0,0))→t≠67→w'.heap[b]?=w.heap[b]?):StoP w' bo k g key fn cp:=by
 have hs:∀ a,Value.pointer (some a)∈cp.toList→w'.heap[a.block]?=w.heap[a.block]?:=fun a ha=>by
  obtain ⟨h1,cs,t,h2,h3⟩:=h.bl a ha
  exact hk _ cs t (Array.getElem?_eq_some_iff.1 h2).1 h1 h2 h3
 refine ⟨fun a ha=>?_,h.en,fun W o v hw=>h.run W o v fun a ha=>(hw a ha).trans (hs a ha)⟩
 obtain ⟨h1,cs,t,h2,h3⟩:=h.bl a ha
 exact ⟨h1,cs,t,(hs a ha).trans h2,h3⟩
theorem StoP.but {w w':World} {bo k:Nat} {g:Gh} {key:Tx} {fn:FuncId} {cp:Array Value} (h:StoP w bo k g key fn cp) (hb:But bo w w'):StoP w' bo k g key fn cp:=h.kept fun b _ _ h1 h2 _ _=>hb.block b h1 (fun e=>h2 (Option.some.inj e))
theorem StoP.next {w w':World} {bo k:Nat} {g:Gh} {key:Tx} {fn:FuncId} {cp:Array Value} (h:StoP w bo k g key fn cp) (hb:Below w.heap.size w w'):StoP w' bo k g key fn cp:=h.but (But.of_below hb)
theorem StoP.call {w:World} {bo k:Nat} {g:Gh} {key:Tx} {fn:FuncId} {cp:Array Value} (h:StoP w bo k g key fn cp) (o:Ord) (v:Tx) (ho:OrdB w bo o g) (hv:v.length≤140737488355328) (hL:LaidU w):Calls Tryz.prog fn (#[.string (str v)]++cp) w (StO bo g key (okO k key v) v o w):=h.run w o v (fun _ _=>rfl) ho hv hL
theorem putO {w w':World} {e:Ending} {bo j:Nat} {u:Value} {b:Bool} {o o':Ord} {g:Gh} (h:PutT bo j u b w e w') (ho:OrdB w bo o g) (hc:(ocs o g).setIfInBounds j u=ocs o' g):e=.returned (.bool b)∧But bo w w'∧OrdB w' bo o' g:=by
 obtain ⟨he,w1,h1,rfl⟩:=h
 refine ⟨he,(But.of_below h1).setCell _ _,?_⟩
 unfold OrdB
 rw [←hc]
 exact BoxA.set (ho.next h1) j u
theorem nameO {w w':World} {e:Ending} {bo j:Nat} {v:Tx} {o o':Ord} {g:Gh} (h:NameT bo j v w e w') (ho:OrdB w bo o g) (hc:(ocs o g).setIfInBounds j (.string (str v))=ocs o' g):e=.returned (.bool (isName v))∧But bo w w'∧OrdB w' bo (if isName v=false then o else o') g:=by
 obtain ⟨he,w1,h1,rfl⟩:=h
 refine ⟨he,?_⟩
 cases hn:isName v with
 | true =>
  rw [if_pos rfl,if_neg (by decide)]
  refine ⟨(But.of_below h1).setCell _ _,?_⟩
  unfold OrdB
  rw [←hc]
  exact BoxA.set (ho.next h1) j _
 | false =>
  rw [if_neg (by decide),if_pos rfl]
  exact ⟨But.of_below h1,ho.next h1⟩
theorem NumC.row {w:World} {c1 c2 c3 bo j R:Nat} {a b:Int} (h:NumC w c1 c2 c3 bo j a b) (cs:Array Value) (n1:c1≠R) (n2:c2≠R) (n3:c3≠R):NumC (w.setRow R cs) c1 c2 c3 bo j a b:=⟨(setRow_other _ _ _ _ n1).trans h.pt,(setRow_other _ _ _ _ n2).trans h.lo,(setRow_other _ _ _ _ n3).trans h.hi⟩
theorem EithC.row {w:World} {c1 c2 c3 bo j R:Nat} {yes no:Tx} (h:EithC w c1 c2 c3 bo j yes no) (cs:Array Value) (n1:c1≠R) (n2:c2≠R) (n3:c3≠R):EithC (w.setRow R cs) c1 c2 c3 bo j yes no:=⟨(setRow_other _ _ _ _ n1).trans h.yes,(setRow_other _ _ _ _ n2).trans h.pt,(setRow_other _ _ _ _ n3).trans h.no⟩
theorem PtC.row {w:World} {c bo j R:Nat} {t:TypeId} (h:PtC w c bo j t) (cs:Array Value) (n1:c≠R):PtC (w.setRow R cs) c bo j t:=(setRow_other _ _ _ _ n1).trans h
section
variable {w : World} {c bo k : Nat} {g : Gh}
theorem StoP.job (h:NumC w c (c+1) (c+1+1) bo 1 1 1073741824) (hb:bo < c):StoP w bo k g jobW 113 #[.pointer (some ⟨c,0,none⟩),.pointer (some ⟨c+1,0,none⟩),.pointer (some ⟨c+1+1,0,none⟩)]:=by
 refine ⟨fun a ha=>?_,enters_of Tryz.func113 (by kernel_rfl) rfl,fun W o v hk ho hv hL=>?_⟩
 ·simp only [List.mem_cons,List.not_mem_nil,or_false,Value.pointer.injEq,Option.some.injEq] at ha
  rcases ha with rfl | rfl | rfl
  ·exact ⟨by dsimp only;omega,_,_,h.pt,by decide⟩
  ·exact ⟨by dsimp only;omega,_,_,h.lo,by decide⟩
  ·exact ⟨by dsimp only;omega,_,_,h.hi,by decide⟩
 ·have:=number1_any c (c+1) (c+1+1) bo 1 1 1073741824 o.job v hv (by decide) (by decide) W ⟨(hk ⟨c,0,none⟩ (by simp)).trans h.pt,(hk ⟨c+1,0,none⟩ (by simp)).trans h.lo,(hk ⟨c+1+1,0,none⟩ (by simp)).trans h.hi⟩ (BoxA.cell ho 1 _) (BoxA.free ho 1) ho.lt (by omega) (by omega) hL
  exact this.mono fun e w' hp=>putO hp ho rfl
theorem StoP.num (h:NumC w c (c+1) (c+1+1) bo 2 (lo k) (hi k)) (hb:bo < c):StoP w bo k g nK 113 #[.pointer (some ⟨c,0,none⟩),.pointer (some ⟨c+1,0,none⟩),.pointer (some ⟨c+1+1,0,none⟩)]:=by
 refine ⟨fun a ha=>?_,enters_of Tryz.func113 (by kernel_rfl) rfl,fun W o v hk ho hv hL=>?_⟩
 ·simp only [List.mem_cons,List.not_mem_nil,or_false,Value.pointer.injEq,Option.some.injEq] at ha
  rcases ha with rfl | rfl | rfl
  ·exact ⟨by dsimp only;omega,_,_,h.pt,by decide⟩
  ·exact ⟨by dsimp only;omega,_,_,h.lo,by decide⟩
  ·exact ⟨by dsimp only;omega,_,_,h.hi,by decide⟩
 ·have h1:lo k≤1099511627776:=by unfold lo;split <;> decide
  have:=number1_any c (c+1) (c+1+1) bo 2 (lo k) (hi k) o.n v hv h1 (od.hi_top k) W ⟨(hk ⟨c,0,none⟩ (by simp)).trans h.pt,(hk ⟨c+1,0,none⟩ (by simp)).trans h.lo,(hk ⟨c+1+1,0,none⟩ (by simp)).trans h.hi⟩ (BoxA.cell ho 2 _) (BoxA.free ho 2) ho.lt (by omega) (by omega) hL
  exact this.mono fun e w' hp=>putO hp ho rfl
theorem StoP.res (h:EithC w (c+1) c (c+1+1) bo 7 okW badW) (hb:bo < c):StoP w bo k g resK 115 #[.pointer (some ⟨c+1,0,none⟩),.pointer (some ⟨c,0,none⟩),.pointer (some ⟨c+1+1,0,none⟩)]:=by
 refine ⟨fun a ha=>?_,enters_of Tryz.func115 (by kernel_rfl) rfl,fun W o v hk ho hv hL=>?_⟩
 ·simp only [List.mem_cons,List.not_mem_nil,or_false,Value.pointer.injEq,Option.some.injEq] at ha
  rcases ha with rfl | rfl | rfl
  ·exact ⟨by dsimp only;omega,_,_,h.yes,by decide⟩
  ·exact ⟨by dsimp only;omega,_,_,h.pt,by decide⟩
  ·exact ⟨by dsimp only;omega,_,_,h.no,by decide⟩
 ·have:=either1_any (c+1) c (c+1+1) bo 7 o.yes okW badW v W ⟨(hk ⟨c+1,0,none⟩ (by simp)).trans h.yes,(hk ⟨c,0,none⟩ (by simp)).trans h.pt,(hk ⟨c+1+1,0,none⟩ (by simp)).trans h.no⟩ (BoxA.cell ho 7 _) (BoxA.free ho 7) (by omega) (by omega)
  exact this.mono fun e w' hp=>putO hp ho rfl
theorem StoP.acc (h:EithC w (c+1) c (c+1+1) bo 7 pubV priV) (hb:bo < c):StoP w bo k g accK 115 #[.pointer (some ⟨c+1,0,none⟩),.pointer (some ⟨c,0,none⟩),.pointer (some ⟨c+1+1,0,none⟩)]:=by
 refine ⟨fun a ha=>?_,enters_of Tryz.func115 (by kernel_rfl) rfl,fun W o v hk ho hv hL=>?_⟩
 ·simp only [List.mem_cons,List.not_mem_nil,or_false,Value.pointer.injEq,Option.some.injEq] at ha
  rcases ha with rfl | rfl | rfl
  ·exact ⟨by dsimp only;omega,_,_,h.yes,by decide⟩
  ·exact ⟨by dsimp only;omega,_,_,h.pt,by decide⟩
  ·exact ⟨by dsimp only;omega,_,_,h.no,by decide⟩
 ·have:=either1_any (c+1) c (c+1+1) bo 7 o.yes pubV priV v W ⟨(hk ⟨c+1,0,none⟩ (by simp)).trans h.yes,(hk ⟨c,0,none⟩ (by simp)).trans h.pt,(hk ⟨c+1+1,0,none⟩ (by simp)).trans h.no⟩ (BoxA.cell ho 7 _) (BoxA.free ho 7) (by omega) (by omega)
  exact this.mono fun e w' hp=>putO hp ho rfl
theorem StoP.user (h:PtC w c bo 5 126) (hb:bo < c):StoP w bo k g userK 116 #[.pointer (some ⟨c,0,none⟩)]:=by
 refine ⟨fun a ha=>?_,enters_of Tryz.func116 (by kernel_rfl) rfl,fun W o v hk ho hv hL=>?_⟩
 ·simp only [List.mem_cons,List.not_mem_nil,or_false,Value.pointer.injEq,Option.some.injEq] at ha
  subst ha
  exact ⟨by dsimp only;omega,_,_,h,by decide⟩
 ·have:=name1_any c bo 5 o.user v (by omega) W ((hk ⟨c,0,none⟩ (by simp)).trans h) (BoxA.cell ho 5 _) (BoxA.free ho 5) ho.lt (by omega)
  exact this.mono fun e w' hp=>nameO (o':={ o with user:=v }) hp ho rfl
theorem StoP.name (h:PtC w c bo 3 126) (hb:bo < c):StoP w bo k g nameK 116 #[.pointer (some ⟨c,0,none⟩)]:=by
 refine ⟨fun a ha=>?_,enters_of Tryz.func116 (by kernel_rfl) rfl,fun W o v hk ho hv hL=>?_⟩
 ·simp only [List.mem_cons,List.not_mem_nil,or_false,Value.pointer.injEq,Option.some.injEq] at ha
  subst ha
  exact ⟨by dsimp only;omega,_,_,h,by decide⟩
 ·have:=name1_any c bo 3 o.name v (by omega) W ((hk ⟨c,0,none⟩ (by simp)).trans h) (BoxA.cell ho 3 _) (BoxA.free ho 3) ho.lt (by omega)
  exact this.mono fun e w' hp=>nameO (o':={ o with name:=v }) hp ho rfl
theorem StoP.pool (h:PtC w c bo 4 126) (hb:bo < c):StoP w bo k g poolK 116 #[.pointer (some ⟨c,0,none⟩)]:=by
 refine ⟨fun a ha=>?_,enters_of Tryz.func116 (by kernel_rfl) rfl,fun W o v hk ho hv hL=>?_⟩
 ·simp only [List.mem_cons,List.not_mem_nil,or_false,Value.pointer.injEq,Option.some.injEq] at ha
  subst ha
  exact ⟨by dsimp only;omega,_,_,h,by decide⟩
 ·have:=name1_any c bo 4 o.pool v (by omega) W ((hk ⟨c,0,none⟩ (by simp)).trans h) (BoxA.cell ho 4 _) (BoxA.free ho 4) ho.lt (by omega)
  exact this.mono fun e w' hp=>nameO (o':={ o with pool:=v }) hp ho rfl
theorem StoP.cap (h:PtC w c bo 6 122) (hb:bo < c):StoP w bo k g capK 119 #[.pointer (some ⟨c,0,none⟩)]:=by
 refine ⟨fun a ha=>?_,enters_of Tryz.func119 (by kernel_rfl) rfl,fun W o v hk ho hv hL=>?_⟩
 ·simp only [List.mem_cons,List.not_mem_nil,or_false,Value.pointer.injEq,Option.some.injEq] at ha
  subst ha
  exact ⟨by dsimp only;omega,_,_,h,by decide⟩
 ·have:=size1_any c bo 6 o.size v hv W ((hk ⟨c,0,none⟩ (by simp)).trans h) (BoxA.cell ho 6 _) (BoxA.free ho 6) ho.lt hL
  exact this.mono fun e w' hp=>putO hp ho rfl
end
structure OW (o:Ord):Prop where
 job:-9223372036854775808≤o.job∧o.job≤9223372036854775807
 n:-9223372036854775808≤o.n∧o.n≤9223372036854775807
 size:-9223372036854775808≤o.size∧o.size≤9223372036854775807
 name:o.name.length≤140737488355328
 pool:o.pool.length≤140737488355328
 user:o.user.length≤140737488355328
 kind:o.kind≤255
def PtrO (w:World) (c bo:Nat):Prop:=BoxA w c 65 #[.pointer (some ⟨bo,0,none⟩)]
theorem PtrO.next {w w':World} {c bo:Nat} (h:PtrO w c bo) (hb:Below w.heap.size w w'):PtrO w' c bo:=BoxA.next h hb
def LetT (bo k:Nat) (g:Gh) (key t:Tx) (w:World) (e:Ending) (w':World):Prop:=∃ fn cp,e=.returned (FldT (str key) t fn cp)∧StoP w' bo k g key fn cp∧Below w.heap.size w w'
theorem made1 (w:World) (a:Array Value) (t:TypeId):∃ W,w.alloc (.cells a t)=W∧BoxA W w.heap.size t a∧Below w.heap.size w W∧w.heap.size < W.heap.size:=⟨_,rfl,BoxA.new w t a,(Below.refl _ _).alloc (Nat.le_refl _) _,by simp⟩
set_option maxRecDepth 100000 in
set_option maxHeartbeats 3200000 in
theorem let_t (c0 bo k:Nat) (h1:lo k=1) (h2:hi k=1000) (o:Ord) (g:Gh) (w:World) (hp:PtrO w c0 bo) (ho:OrdB w bo o g) (hw:OW o) (hL:LaidU w):Calls Tryz.prog 79 #[.pointer (some ⟨c0,0,none⟩)] w (LetT bo k g nK (txt o.n) w):=by
 obtain ⟨W,hW,b1,hl,hs⟩:=made1 w #[.string { data:=#[] },.string { data:=#[] },.nilFunc] 67
 have HOW:=Lib.hid hw
 have HC:=Lib.hid (show W.cell? ⟨bo,2,none⟩=_ from BoxA.cell (ho.next hl) 2 _)
 have HX:=Lib.hid (number_fld { data:=#[110] } bo 2 o.n 1 1000 HOW.out.n.1 HOW.out.n.2 _ HC.out (Nat.lt_of_lt_of_le ho.lt hl.size) (hL.next hl))
 generalize txt o.n=T at HX ⊢
 have HB:=Lib.hid b1
 have HL:=Lib.hid hl
 have HW:=Lib.hid hW
 have HBO:=Lib.hid ho.lt
 have HS:=Lib.hid hs
 have k1:W.cell? ⟨c0,0,none⟩=some (.pointer (some ⟨bo,0,none⟩)):=BoxA.cell (hp.next hl) 0 _
 have hlt:bo < W.heap.size:=Nat.lt_of_lt_of_le ho.lt hl.size
 clear hW b1 hl hs hp ho hw hL
 go_enter Tryz.func79,Tryz.ntmps79
 go_upto_region 1 with fail
 rw [HW.out]
 go_wp2_with (first
  | (go_at_call 80;((with_reducible refine HX.out.mono ?_);rintro e w2 ⟨c,rfl,hN,hc,hb⟩);have HN:=Lib.hid hN;have HC2:=Lib.hid hc;have HB2:=Lib.hid hb;clear hN hc hb)
  | (refine wpList_store_row rfl _ _ _ rfl w.heap.size #[.string { data:=#[110] },.string (str T),.func (.func 113) #[] #[.pointer (some ⟨c,0,none⟩),.pointer (some ⟨c+1,0,none⟩),.pointer (some ⟨c+1+1,0,none⟩)]] rfl rfl _ _ (HB.out.next HB2.out) (by kernel_rfl) rfl (by kernel_rfl) ?_))
 have hcw:w.heap.size < c:=Nat.lt_of_lt_of_le HS.out HC2.out
 have hbo:=HBO.out
 exact bodyPost_ret (v:=FldT { data:=#[110] } T 113 #[.pointer (some ⟨c,0,none⟩),.pointer (some ⟨c+1,0,none⟩),.pointer (some ⟨c+1+1,0,none⟩)]) (results_cell_row rfl _ _ _ _ _ _ _ rfl (setRow_heap _ _ _ _ _ _ (HB.out.next HB2.out)) Tryz.underlying67 rfl (by kernel_rfl)) rfl ⟨_,_,rfl,StoP.num (show NumC _ c (c+1) (c+1+1) bo 2 (lo k) (hi k) by rw [h1,h2];exact HN.out.row _ (by omega) (by omega) (by omega)) (by omega),below_setRow (HL.out.trans (HB2.out.mono HL.out.size)) (Nat.le_refl _) _⟩
set_option maxRecDepth 100000 in
set_option maxHeartbeats 3200000 in
theorem let_q (c0 bo k:Nat) (h1:lo k=0) (h2:hi k=9) (o:Ord) (g:Gh) (w:World) (hp:PtrO w c0 bo) (ho:OrdB w bo o g) (hw:OW o) (hL:LaidU w):Calls Tryz.prog 81 #[.pointer (some ⟨c0,0,none⟩)] w (LetT bo k g nK (txt o.n) w):=by
 obtain ⟨W,hW,b1,hl,hs⟩:=made1 w #[.string { data:=#[] },.string { data:=#[] },.nilFunc] 67
 have HOW:=Lib.hid hw
 have HC:=Lib.hid (show W.cell? ⟨bo,2,none⟩=_ from BoxA.cell (ho.next hl) 2 _)
 have HX:=Lib.hid (number_fld { data:=#[110] } bo 2 o.n 0 9 HOW.out.n.1 HOW.out.n.2 _ HC.out (Nat.lt_of_lt_of_le ho.lt hl.size) (hL.next hl))
 generalize txt o.n=T at HX ⊢
 have HB:=Lib.hid b1
 have HL:=Lib.hid hl
 have HW:=Lib.hid hW
 have HBO:=Lib.hid ho.lt
 have HS:=Lib.hid hs
 have k1:W.cell? ⟨c0,0,none⟩=some (.pointer (some ⟨bo,0,none⟩)):=BoxA.cell (hp.next hl) 0 _
 have hlt:bo < W.heap.size:=Nat.lt_of_lt_of_le ho.lt hl.size
 clear hW b1 hl hs hp ho hw hL
 go_enter Tryz.func81,Tryz.ntmps81
 go_upto_region 1 with fail
 rw [HW.out]
 go_wp2_with (first
  | (go_at_call 80;((with_reducible refine HX.out.mono ?_);rintro e w2 ⟨c,rfl,hN,hc,hb⟩);have HN:=Lib.hid hN;have HC2:=Lib.hid hc;have HB2:=Lib.hid hb;clear hN hc hb)
  | (refine wpList_store_row rfl _ _ _ rfl w.heap.size #[.string { data:=#[110] },.string (str T),.func (.func 113) #[] #[.pointer (some ⟨c,0,none⟩),.pointer (some ⟨c+1,0,none⟩),.pointer (some ⟨c+1+1,0,none⟩)]] rfl rfl _ _ (HB.out.next HB2.out) (by kernel_rfl) rfl (by kernel_rfl) ?_))
 have hcw:w.heap.size < c:=Nat.lt_of_lt_of_le HS.out HC2.out
 have hbo:=HBO.out
 exact bodyPost_ret (v:=FldT { data:=#[110] } T 113 #[.pointer (some ⟨c,0,none⟩),.pointer (some ⟨c+1,0,none⟩),.pointer (some ⟨c+1+1,0,none⟩)]) (results_cell_row rfl _ _ _ _ _ _ _ rfl (setRow_heap _ _ _ _ _ _ (HB.out.next HB2.out)) Tryz.underlying67 rfl (by kernel_rfl)) rfl ⟨_,_,rfl,StoP.num (show NumC _ c (c+1) (c+1+1) bo 2 (lo k) (hi k) by rw [h1,h2];exact HN.out.row _ (by omega) (by omega) (by omega)) (by omega),below_setRow (HL.out.trans (HB2.out.mono HL.out.size)) (Nat.le_refl _) _⟩
set_option maxRecDepth 100000 in
set_option maxHeartbeats 3200000 in
theorem let_m (c0 bo k:Nat) (h1:lo k=0) (h2:hi k=63) (o:Ord) (g:Gh) (w:World) (hp:PtrO w c0 bo) (ho:OrdB w bo o g) (hw:OW o) (hL:LaidU w):Calls Tryz.prog 82 #[.pointer (some ⟨c0,0,none⟩)] w (LetT bo k g nK (txt o.n) w):=by
 obtain ⟨W,hW,b1,hl,hs⟩:=made1 w #[.string { data:=#[] },.string { data:=#[] },.nilFunc] 67
 have HOW:=Lib.hid hw
 have HC:=Lib.hid (show W.cell? ⟨bo,2,none⟩=_ from BoxA.cell (ho.next hl) 2 _)
 have HX:=Lib.hid (number_fld { data:=#[110] } bo 2 o.n 0 63 HOW.out.n.1 HOW.out.n.2 _ HC.out (Nat.lt_of_lt_of_le ho.lt hl.size) (hL.next hl))
 generalize txt o.n=T at HX ⊢
 have HB:=Lib.hid b1
 have HL:=Lib.hid hl
 have HW:=Lib.hid hW
 have HBO:=Lib.hid ho.lt
 have HS:=Lib.hid hs
 have k1:W.cell? ⟨c0,0,none⟩=some (.pointer (some ⟨bo,0,none⟩)):=BoxA.cell (hp.next hl) 0 _
 have hlt:bo < W.heap.size:=Nat.lt_of_lt_of_le ho.lt hl.size
 clear hW b1 hl hs hp ho hw hL
 go_enter Tryz.func82,Tryz.ntmps82
 go_upto_region 1 with fail
 rw [HW.out]
 go_wp2_with (first
  | (go_at_call 80;((with_reducible refine HX.out.mono ?_);rintro e w2 ⟨c,rfl,hN,hc,hb⟩);have HN:=Lib.hid hN;have HC2:=Lib.hid hc;have HB2:=Lib.hid hb;clear hN hc hb)
  | (refine wpList_store_row rfl _ _ _ rfl w.heap.size #[.string { data:=#[110] },.string (str T),.func (.func 113) #[] #[.pointer (some ⟨c,0,none⟩),.pointer (some ⟨c+1,0,none⟩),.pointer (some ⟨c+1+1,0,none⟩)]] rfl rfl _ _ (HB.out.next HB2.out) (by kernel_rfl) rfl (by kernel_rfl) ?_))
 have hcw:w.heap.size < c:=Nat.lt_of_lt_of_le HS.out HC2.out
 have hbo:=HBO.out
 exact bodyPost_ret (v:=FldT { data:=#[110] } T 113 #[.pointer (some ⟨c,0,none⟩),.pointer (some ⟨c+1,0,none⟩),.pointer (some ⟨c+1+1,0,none⟩)]) (results_cell_row rfl _ _ _ _ _ _ _ rfl (setRow_heap _ _ _ _ _ _ (HB.out.next HB2.out)) Tryz.underlying67 rfl (by kernel_rfl)) rfl ⟨_,_,rfl,StoP.num (show NumC _ c (c+1) (c+1+1) bo 2 (lo k) (hi k) by rw [h1,h2];exact HN.out.row _ (by omega) (by omega) (by omega)) (by omega),below_setRow (HL.out.trans (HB2.out.mono HL.out.size)) (Nat.le_refl _) _⟩
set_option maxRecDepth 100000 in
set_option maxHeartbeats 3200000 in
theorem let_j (c0 bo k:Nat)  (o:Ord) (g:Gh) (w:World) (hp:PtrO w c0 bo) (ho:OrdB w bo o g) (hw:OW o) (hL:LaidU w):Calls Tryz.prog 83 #[.pointer (some ⟨c0,0,none⟩)] w (LetT bo k g jobW (txt o.job) w):=by
 obtain ⟨W,hW,b1,hl,hs⟩:=made1 w #[.string { data:=#[] },.string { data:=#[] },.nilFunc] 67
 have HOW:=Lib.hid hw
 have HC:=Lib.hid (show W.cell? ⟨bo,1,none⟩=_ from BoxA.cell (ho.next hl) 1 _)
 have HX:=Lib.hid (number_fld { data:=#[106,111,98] } bo 1 o.job 1 1073741824 HOW.out.job.1 HOW.out.job.2 _ HC.out (Nat.lt_of_lt_of_le ho.lt hl.size) (hL.next hl))
 generalize txt o.job=T at HX ⊢
 have HB:=Lib.hid b1
 have HL:=Lib.hid hl
 have HW:=Lib.hid hW
 have HBO:=Lib.hid ho.lt
 have HS:=Lib.hid hs
 have k1:W.cell? ⟨c0,0,none⟩=some (.pointer (some ⟨bo,0,none⟩)):=BoxA.cell (hp.next hl) 0 _
 have hlt:bo < W.heap.size:=Nat.lt_of_lt_of_le ho.lt hl.size
 clear hW b1 hl hs hp ho hw hL
 go_enter Tryz.func83,Tryz.ntmps83
 go_upto_region 1 with fail
 rw [HW.out]
 go_wp2_with (first
  | (go_at_call 80;((with_reducible refine HX.out.mono ?_);rintro e w2 ⟨c,rfl,hN,hc,hb⟩);have HN:=Lib.hid hN;have HC2:=Lib.hid hc;have HB2:=Lib.hid hb;clear hN hc hb)
  | (refine wpList_store_row rfl _ _ _ rfl w.heap.size #[.string { data:=#[106,111,98] },.string (str T),.func (.func 113) #[] #[.pointer (some ⟨c,0,none⟩),.pointer (some ⟨c+1,0,none⟩),.pointer (some ⟨c+1+1,0,none⟩)]] rfl rfl _ _ (HB.out.next HB2.out) (by kernel_rfl) rfl (by kernel_rfl) ?_))
 have hcw:w.heap.size < c:=Nat.lt_of_lt_of_le HS.out HC2.out
 have hbo:=HBO.out
 exact bodyPost_ret (v:=FldT { data:=#[106,111,98] } T 113 #[.pointer (some ⟨c,0,none⟩),.pointer (some ⟨c+1,0,none⟩),.pointer (some ⟨c+1+1,0,none⟩)]) (results_cell_row rfl _ _ _ _ _ _ _ rfl (setRow_heap _ _ _ _ _ _ (HB.out.next HB2.out)) Tryz.underlying67 rfl (by kernel_rfl)) rfl ⟨_,_,rfl,StoP.job (HN.out.row _ (by omega) (by omega) (by omega)) (by omega),below_setRow (HL.out.trans (HB2.out.mono HL.out.size)) (Nat.le_refl _) _⟩
set_option maxRecDepth 100000 in
set_option maxHeartbeats 3200000 in
theorem let_r (c0 bo k:Nat)  (o:Ord) (g:Gh) (w:World) (hp:PtrO w c0 bo) (ho:OrdB w bo o g) (hw:OW o) (hL:LaidU w):Calls Tryz.prog 84 #[.pointer (some ⟨c0,0,none⟩)] w (LetT bo k g resK ((if o.yes then okW else badW)) w):=by
 obtain ⟨W,hW,b1,hl,hs⟩:=made1 w #[.string { data:=#[] },.string { data:=#[] },.nilFunc] 67
 have HOW:=Lib.hid hw
 have HC:=Lib.hid (show W.cell? ⟨bo,7,none⟩=_ from BoxA.cell (ho.next hl) 7 _)
 have HX:=Lib.hid (either_fld { data:=#[114,101,115,117,108,116] } { data:=#[111,107] } { data:=#[98,97,100] } okW badW rfl rfl bo 7 o.yes _ HC.out (Nat.lt_of_lt_of_le ho.lt hl.size))
 generalize (if o.yes then okW else badW)=T at HX ⊢
 have HB:=Lib.hid b1
 have HL:=Lib.hid hl
 have HW:=Lib.hid hW
 have HBO:=Lib.hid ho.lt
 have HS:=Lib.hid hs
 have k1:W.cell? ⟨c0,0,none⟩=some (.pointer (some ⟨bo,0,none⟩)):=BoxA.cell (hp.next hl) 0 _
 have hlt:bo < W.heap.size:=Nat.lt_of_lt_of_le ho.lt hl.size
 clear hW b1 hl hs hp ho hw hL
 go_enter Tryz.func84,Tryz.ntmps84
 go_upto_region 1 with fail
 rw [HW.out]
 go_wp2_with (first
  | (go_at_call 85;((with_reducible refine HX.out.mono ?_);rintro e w2 ⟨c,rfl,hN,hc,hb⟩);have HN:=Lib.hid hN;have HC2:=Lib.hid hc;have HB2:=Lib.hid hb;clear hN hc hb)
  | (refine wpList_store_row rfl _ _ _ rfl w.heap.size #[.string { data:=#[114,101,115,117,108,116] },.string (str T),.func (.func 115) #[] #[.pointer (some ⟨c+1,0,none⟩),.pointer (some ⟨c,0,none⟩),.pointer (some ⟨c+1+1,0,none⟩)]] rfl rfl _ _ (HB.out.next HB2.out) (by kernel_rfl) rfl (by kernel_rfl) ?_))
 have hcw:w.heap.size < c:=Nat.lt_of_lt_of_le HS.out HC2.out
 have hbo:=HBO.out
 exact bodyPost_ret (v:=FldT { data:=#[114,101,115,117,108,116] } T 115 #[.pointer (some ⟨c+1,0,none⟩),.pointer (some ⟨c,0,none⟩),.pointer (some ⟨c+1+1,0,none⟩)]) (results_cell_row rfl _ _ _ _ _ _ _ rfl (setRow_heap _ _ _ _ _ _ (HB.out.next HB2.out)) Tryz.underlying67 rfl (by kernel_rfl)) rfl ⟨_,_,rfl,StoP.res (HN.out.row _ (by omega) (by omega) (by omega)) (by omega),below_setRow (HL.out.trans (HB2.out.mono HL.out.size)) (Nat.le_refl _) _⟩
set_option maxRecDepth 100000 in
set_option maxHeartbeats 3200000 in
theorem let_a (c0 bo k:Nat)  (o:Ord) (g:Gh) (w:World) (hp:PtrO w c0 bo) (ho:OrdB w bo o g) (hw:OW o) (hL:LaidU w):Calls Tryz.prog 86 #[.pointer (some ⟨c0,0,none⟩)] w (LetT bo k g accK ((if o.yes then pubV else priV)) w):=by
 obtain ⟨W,hW,b1,hl,hs⟩:=made1 w #[.string { data:=#[] },.string { data:=#[] },.nilFunc] 67
 have HOW:=Lib.hid hw
 have HC:=Lib.hid (show W.cell? ⟨bo,7,none⟩=_ from BoxA.cell (ho.next hl) 7 _)
 have HX:=Lib.hid (either_fld { data:=#[97,99,99,101,115,115] } { data:=#[112,117,98,108,105,99] } { data:=#[112,114,105,118,97,116,101] } pubV priV rfl rfl bo 7 o.yes _ HC.out (Nat.lt_of_lt_of_le ho.lt hl.size))
 generalize (if o.yes then pubV else priV)=T at HX ⊢
 have HB:=Lib.hid b1
 have HL:=Lib.hid hl
 have HW:=Lib.hid hW
 have HBO:=Lib.hid ho.lt
 have HS:=Lib.hid hs
 have k1:W.cell? ⟨c0,0,none⟩=some (.pointer (some ⟨bo,0,none⟩)):=BoxA.cell (hp.next hl) 0 _
 have hlt:bo < W.heap.size:=Nat.lt_of_lt_of_le ho.lt hl.size
 clear hW b1 hl hs hp ho hw hL
 go_enter Tryz.func86,Tryz.ntmps86
 go_upto_region 1 with fail
 rw [HW.out]
 go_wp2_with (first
  | (go_at_call 85;((with_reducible refine HX.out.mono ?_);rintro e w2 ⟨c,rfl,hN,hc,hb⟩);have HN:=Lib.hid hN;have HC2:=Lib.hid hc;have HB2:=Lib.hid hb;clear hN hc hb)
  | (refine wpList_store_row rfl _ _ _ rfl w.heap.size #[.string { data:=#[97,99,99,101,115,115] },.string (str T),.func (.func 115) #[] #[.pointer (some ⟨c+1,0,none⟩),.pointer (some ⟨c,0,none⟩),.pointer (some ⟨c+1+1,0,none⟩)]] rfl rfl _ _ (HB.out.next HB2.out) (by kernel_rfl) rfl (by kernel_rfl) ?_))
 have hcw:w.heap.size < c:=Nat.lt_of_lt_of_le HS.out HC2.out
 have hbo:=HBO.out
 exact bodyPost_ret (v:=FldT { data:=#[97,99,99,101,115,115] } T 115 #[.pointer (some ⟨c+1,0,none⟩),.pointer (some ⟨c,0,none⟩),.pointer (some ⟨c+1+1,0,none⟩)]) (results_cell_row rfl _ _ _ _ _ _ _ rfl (setRow_heap _ _ _ _ _ _ (HB.out.next HB2.out)) Tryz.underlying67 rfl (by kernel_rfl)) rfl ⟨_,_,rfl,StoP.acc (HN.out.row _ (by omega) (by omega) (by omega)) (by omega),below_setRow (HL.out.trans (HB2.out.mono HL.out.size)) (Nat.le_refl _) _⟩
set_option maxRecDepth 100000 in
set_option maxHeartbeats 3200000 in
theorem let_u (c0 bo k:Nat)  (o:Ord) (g:Gh) (w:World) (hp:PtrO w c0 bo) (ho:OrdB w bo o g) (hw:OW o) (hL:LaidU w):Calls Tryz.prog 87 #[.pointer (some ⟨c0,0,none⟩)] w (LetT bo k g userK (o.user) w):=by
 obtain ⟨W,hW,b1,hl,hs⟩:=made1 w #[.string { data:=#[] },.string { data:=#[] },.nilFunc] 67
 have HOW:=Lib.hid hw
 have HC:=Lib.hid (show W.cell? ⟨bo,5,none⟩=_ from BoxA.cell (ho.next hl) 5 _)
 have HX:=Lib.hid (name_fld { data:=#[117,115,101,114] } bo 5 o.user _ HC.out (Nat.lt_of_lt_of_le ho.lt hl.size))
 generalize o.user=T at HX ⊢
 have HB:=Lib.hid b1
 have HL:=Lib.hid hl
 have HW:=Lib.hid hW
 have HBO:=Lib.hid ho.lt
 have HS:=Lib.hid hs
 have k1:W.cell? ⟨c0,0,none⟩=some (.pointer (some ⟨bo,0,none⟩)):=BoxA.cell (hp.next hl) 0 _
 have hlt:bo < W.heap.size:=Nat.lt_of_lt_of_le ho.lt hl.size
 clear hW b1 hl hs hp ho hw hL
 go_enter Tryz.func87,Tryz.ntmps87
 go_upto_region 1 with fail
 rw [HW.out]
 go_wp2_with (first
  | (go_at_call 88;((with_reducible refine HX.out.mono ?_);rintro e w2 ⟨c,rfl,hN,hc,hb⟩);have HN:=Lib.hid hN;have HC2:=Lib.hid hc;have HB2:=Lib.hid hb;clear hN hc hb)
  | (refine wpList_store_row rfl _ _ _ rfl w.heap.size #[.string { data:=#[117,115,101,114] },.string (str T),.func (.func 116) #[] #[.pointer (some ⟨c,0,none⟩)]] rfl rfl _ _ (HB.out.next HB2.out) (by kernel_rfl) rfl (by kernel_rfl) ?_))
 have hcw:w.heap.size < c:=Nat.lt_of_lt_of_le HS.out HC2.out
 have hbo:=HBO.out
 exact bodyPost_ret (v:=FldT { data:=#[117,115,101,114] } T 116 #[.pointer (some ⟨c,0,none⟩)]) (results_cell_row rfl _ _ _ _ _ _ _ rfl (setRow_heap _ _ _ _ _ _ (HB.out.next HB2.out)) Tryz.underlying67 rfl (by kernel_rfl)) rfl ⟨_,_,rfl,StoP.user (PtC.row HN.out _ (by omega)) (by omega),below_setRow (HL.out.trans (HB2.out.mono HL.out.size)) (Nat.le_refl _) _⟩
set_option maxRecDepth 100000 in
set_option maxHeartbeats 3200000 in
theorem let_n (c0 bo k:Nat)  (o:Ord) (g:Gh) (w:World) (hp:PtrO w c0 bo) (ho:OrdB w bo o g) (hw:OW o) (hL:LaidU w):Calls Tryz.prog 89 #[.pointer (some ⟨c0,0,none⟩)] w (LetT bo k g nameK (o.name) w):=by
 obtain ⟨W,hW,b1,hl,hs⟩:=made1 w #[.string { data:=#[] },.string { data:=#[] },.nilFunc] 67
 have HOW:=Lib.hid hw
 have HC:=Lib.hid (show W.cell? ⟨bo,3,none⟩=_ from BoxA.cell (ho.next hl) 3 _)
 have HX:=Lib.hid (name_fld { data:=#[110,97,109,101] } bo 3 o.name _ HC.out (Nat.lt_of_lt_of_le ho.lt hl.size))
 generalize o.name=T at HX ⊢
 have HB:=Lib.hid b1
 have HL:=Lib.hid hl
 have HW:=Lib.hid hW
 have HBO:=Lib.hid ho.lt
 have HS:=Lib.hid hs
 have k1:W.cell? ⟨c0,0,none⟩=some (.pointer (some ⟨bo,0,none⟩)):=BoxA.cell (hp.next hl) 0 _
 have hlt:bo < W.heap.size:=Nat.lt_of_lt_of_le ho.lt hl.size
 clear hW b1 hl hs hp ho hw hL
 go_enter Tryz.func89,Tryz.ntmps89
 go_upto_region 1 with fail
 rw [HW.out]
 go_wp2_with (first
  | (go_at_call 88;((with_reducible refine HX.out.mono ?_);rintro e w2 ⟨c,rfl,hN,hc,hb⟩);have HN:=Lib.hid hN;have HC2:=Lib.hid hc;have HB2:=Lib.hid hb;clear hN hc hb)
  | (refine wpList_store_row rfl _ _ _ rfl w.heap.size #[.string { data:=#[110,97,109,101] },.string (str T),.func (.func 116) #[] #[.pointer (some ⟨c,0,none⟩)]] rfl rfl _ _ (HB.out.next HB2.out) (by kernel_rfl) rfl (by kernel_rfl) ?_))
 have hcw:w.heap.size < c:=Nat.lt_of_lt_of_le HS.out HC2.out
 have hbo:=HBO.out
 exact bodyPost_ret (v:=FldT { data:=#[110,97,109,101] } T 116 #[.pointer (some ⟨c,0,none⟩)]) (results_cell_row rfl _ _ _ _ _ _ _ rfl (setRow_heap _ _ _ _ _ _ (HB.out.next HB2.out)) Tryz.underlying67 rfl (by kernel_rfl)) rfl ⟨_,_,rfl,StoP.name (PtC.row HN.out _ (by omega)) (by omega),below_setRow (HL.out.trans (HB2.out.mono HL.out.size)) (Nat.le_refl _) _⟩
set_option maxRecDepth 100000 in
set_option maxHeartbeats 3200000 in
theorem let_p (c0 bo k:Nat)  (o:Ord) (g:Gh) (w:World) (hp:PtrO w c0 bo) (ho:OrdB w bo o g) (hw:OW o) (hL:LaidU w):Calls Tryz.prog 90 #[.pointer (some ⟨c0,0,none⟩)] w (LetT bo k g poolK (o.pool) w):=by
 obtain ⟨W,hW,b1,hl,hs⟩:=made1 w #[.string { data:=#[] },.string { data:=#[] },.nilFunc] 67
 have HOW:=Lib.hid hw
 have HC:=Lib.hid (show W.cell? ⟨bo,4,none⟩=_ from BoxA.cell (ho.next hl) 4 _)
 have HX:=Lib.hid (name_fld { data:=#[112,111,111,108] } bo 4 o.pool _ HC.out (Nat.lt_of_lt_of_le ho.lt hl.size))
 generalize o.pool=T at HX ⊢
 have HB:=Lib.hid b1
 have HL:=Lib.hid hl
 have HW:=Lib.hid hW
 have HBO:=Lib.hid ho.lt
 have HS:=Lib.hid hs
 have k1:W.cell? ⟨c0,0,none⟩=some (.pointer (some ⟨bo,0,none⟩)):=BoxA.cell (hp.next hl) 0 _
 have hlt:bo < W.heap.size:=Nat.lt_of_lt_of_le ho.lt hl.size
 clear hW b1 hl hs hp ho hw hL
 go_enter Tryz.func90,Tryz.ntmps90
 go_upto_region 1 with fail
 rw [HW.out]
 go_wp2_with (first
  | (go_at_call 88;((with_reducible refine HX.out.mono ?_);rintro e w2 ⟨c,rfl,hN,hc,hb⟩);have HN:=Lib.hid hN;have HC2:=Lib.hid hc;have HB2:=Lib.hid hb;clear hN hc hb)
  | (refine wpList_store_row rfl _ _ _ rfl w.heap.size #[.string { data:=#[112,111,111,108] },.string (str T),.func (.func 116) #[] #[.pointer (some ⟨c,0,none⟩)]] rfl rfl _ _ (HB.out.next HB2.out) (by kernel_rfl) rfl (by kernel_rfl) ?_))
 have hcw:w.heap.size < c:=Nat.lt_of_lt_of_le HS.out HC2.out
 have hbo:=HBO.out
 exact bodyPost_ret (v:=FldT { data:=#[112,111,111,108] } T 116 #[.pointer (some ⟨c,0,none⟩)]) (results_cell_row rfl _ _ _ _ _ _ _ rfl (setRow_heap _ _ _ _ _ _ (HB.out.next HB2.out)) Tryz.underlying67 rfl (by kernel_rfl)) rfl ⟨_,_,rfl,StoP.pool (PtC.row HN.out _ (by omega)) (by omega),below_setRow (HL.out.trans (HB2.out.mono HL.out.size)) (Nat.le_refl _) _⟩
set_option maxRecDepth 100000 in
set_option maxHeartbeats 3200000 in
theorem let_c (c0 bo k:Nat)  (o:Ord) (g:Gh) (w:World) (hp:PtrO w c0 bo) (ho:OrdB w bo o g) (hw:OW o) (hL:LaidU w):Calls Tryz.prog 91 #[.pointer (some ⟨c0,0,none⟩)] w (LetT bo k g capK (stxt o.size) w):=by
 obtain ⟨W,hW,b1,hl,hs⟩:=made1 w #[.string { data:=#[] },.string { data:=#[] },.nilFunc] 67
 have HOW:=Lib.hid hw
 have HC:=Lib.hid (show W.cell? ⟨bo,6,none⟩=_ from BoxA.cell (ho.next hl) 6 _)
 have HX:=Lib.hid (size_fld { data:=#[99,97,112,97,99,105,116,121] } bo 6 o.size HOW.out.size.1 HOW.out.size.2 _ HC.out (Nat.lt_of_lt_of_le ho.lt hl.size) (hL.next hl))
 generalize stxt o.size=T at HX ⊢
 have HB:=Lib.hid b1
 have HL:=Lib.hid hl
 have HW:=Lib.hid hW
 have HBO:=Lib.hid ho.lt
 have HS:=Lib.hid hs
 have k1:W.cell? ⟨c0,0,none⟩=some (.pointer (some ⟨bo,0,none⟩)):=BoxA.cell (hp.next hl) 0 _
 have hlt:bo < W.heap.size:=Nat.lt_of_lt_of_le ho.lt hl.size
 clear hW b1 hl hs hp ho hw hL
 go_enter Tryz.func91,Tryz.ntmps91
 go_upto_region 1 with fail
 rw [HW.out]
 go_wp2_with (first
  | (go_at_call 92;((with_reducible refine HX.out.mono ?_);rintro e w2 ⟨c,rfl,hN,hc,hb⟩);have HN:=Lib.hid hN;have HC2:=Lib.hid hc;have HB2:=Lib.hid hb;clear hN hc hb)
  | (refine wpList_store_row rfl _ _ _ rfl w.heap.size #[.string { data:=#[99,97,112,97,99,105,116,121] },.string (str T),.func (.func 119) #[] #[.pointer (some ⟨c,0,none⟩)]] rfl rfl _ _ (HB.out.next HB2.out) (by kernel_rfl) rfl (by kernel_rfl) ?_))
 have hcw:w.heap.size < c:=Nat.lt_of_lt_of_le HS.out HC2.out
 have hbo:=HBO.out
 exact bodyPost_ret (v:=FldT { data:=#[99,97,112,97,99,105,116,121] } T 119 #[.pointer (some ⟨c,0,none⟩)]) (results_cell_row rfl _ _ _ _ _ _ _ rfl (setRow_heap _ _ _ _ _ _ (HB.out.next HB2.out)) Tryz.underlying67 rfl (by kernel_rfl)) rfl ⟨_,_,rfl,StoP.cap (PtC.row HN.out _ (by omega)) (by omega),below_setRow (HL.out.trans (HB2.out.mono HL.out.size)) (Nat.le_refl _) _⟩
end Go.Proofs.YtekcjfdllclphaaGreatDoor.gn
end
section
set_option linter.unusedVariables false
set_option linter.unusedSimpArgs false
namespace Go.Proofs.YtekcjfdllclphaaGreatDoor.gn
open Go.RowKit
open Go.Proofs.YtekcjfdllclphaaGreatDoor.un
open Go.Proofs.YtekcjfdllclphaaGreatDoor.di
open Go.Proofs.YtekcjfdllclphaaGreatDoor.sp (Slip within? okW jobW userK)
open Go.Proofs.YtekcjfdllclphaaGreatDoor.od (Ord okO stO numV sizV resK badW nK lo hi fsO keysO hasJ hasN hasU hasP)
def letN:Nat→FuncId
 | 116=>79
 | 113=>81
 | 109=>82
 | 106=>83
 | 114=>84
 | 97=>86
 | 117=>87
 | 110=>89
 | 112=>90
 | 99=>91
 | _=>0
def letK:Nat→Tx
 | 116=>nK
 | 113=>nK
 | 109=>nK
 | 106=>jobW
 | 114=>resK
 | 97=>accK
 | 117=>userK
 | 110=>nameK
 | 112=>poolK
 | 99=>capK
 | _=>[]
def letX (o:Ord):Nat→Tx
 | 116=>txt o.n
 | 113=>txt o.n
 | 109=>txt o.n
 | 106=>txt o.job
 | 114=>if o.yes then okW else badW
 | 97=>if o.yes then pubV else priV
 | 117=>o.user
 | 110=>o.name
 | 112=>o.pool
 | 99=>stxt o.size
 | _=>[]
def letF (o:Ord) (c:UInt8):Tx × Tx:=(letK c.toNat,letX o c.toNat)
theorem letters_fs (o:Ord):(lettersO o.kind).map (letF o)=fsO o:=by
 obtain ⟨k,job,n,name,pool,user,size,yes,slip⟩:=o
 show (lettersO k).map _=_
 by_cases h:1≤k∧k≤18
 ·rcases od.eighteen h with rfl | rfl | rfl | rfl | rfl | rfl | rfl | rfl | rfl | rfl | rfl | rfl | rfl | rfl | rfl | rfl | rfl | rfl <;> rfl
 ·rw [(no_word h).2]
  have h1:hasJ k=false:=by unfold hasJ;rw [decide_eq_false];omega
  have h2:hasN k=false:=by unfold hasN;rw [decide_eq_false];omega
  have h3:hasU k=false:=by unfold hasU;rw [decide_eq_false];omega
  have h4:hasP k=false:=by unfold hasP;rw [decide_eq_false];omega
  unfold fsO
  dsimp only
  rw [h1,h2,h3,h4,if_neg (show ¬ k=7 by omega),if_neg (show ¬ k=15 by omega),if_neg (show ¬ k=15 by omega)]
  rfl
theorem let_cases {k:Nat} {c:UInt8} (h:c∈lettersO k):(c=116∧k=1)∨(c=113∧k=6)∨(c=109∧9≤k∧k≤12)∨c=106∨c=114∨c=97∨c=117∨c=110∨c=112∨c=99:=by
 by_cases hk:1≤k∧k≤18
 ·rcases od.eighteen hk with rfl | rfl | rfl | rfl | rfl | rfl | rfl | rfl | rfl | rfl | rfl | rfl | rfl | rfl | rfl | rfl | rfl | rfl <;> simp [lettersO] at h <;> first | (subst h;simp;done) | (rcases h with rfl | rfl | rfl | rfl | rfl <;> simp;done) | (rcases h with rfl | rfl <;> simp;done)
 ·rw [(no_word hk).2] at h
  cases h
theorem let_any (c0 bo:Nat) (o:Ord) (g:Gh) (c:UInt8) (hc:c∈lettersO o.kind) (w:World) (hp:PtrO w c0 bo) (ho:OrdB w bo o g) (hw:OW o) (hL:LaidU w):Calls Tryz.prog (letN c.toNat) #[.pointer (some ⟨c0,0,none⟩)] w (LetT bo o.kind g (letK c.toNat) (letX o c.toNat) w):=by
 rcases let_cases hc with ⟨rfl,hk⟩ | ⟨rfl,hk⟩ | ⟨rfl,hk⟩ | rfl | rfl | rfl | rfl | rfl | rfl | rfl
 ·exact let_t c0 bo o.kind (by rw [hk];rfl) (by rw [hk];rfl) o g w hp ho hw hL
 ·exact let_q c0 bo o.kind (by rw [hk];rfl) (by rw [hk];rfl) o g w hp ho hw hL
 ·exact let_m c0 bo o.kind (by unfold lo;rw [if_neg (by omega)]) (by unfold hi;rw [if_neg (by omega),if_neg (by omega)]) o g w hp ho hw hL
 ·exact let_j c0 bo o.kind o g w hp ho hw hL
 ·exact let_r c0 bo o.kind o g w hp ho hw hL
 ·exact let_a c0 bo o.kind o g w hp ho hw hL
 ·exact let_u c0 bo o.kind o g w hp ho hw hL
 ·exact let_n c0 bo o.kind o g w hp ho hw hL
 ·exact let_p c0 bo o.kind o g w hp ho hw hL
 ·exact let_c c0 bo o.kind o g w hp ho hw hL
theorem let_enter {k:Nat} {c:UInt8} (hc:c∈lettersO k) (x:Value) (W:World):(callFunc (letN c.toNat) #[x]).run Tryz.prog W=.ok (.enter (letN c.toNat) #[x]) W:=by
 rcases let_cases hc with ⟨rfl,_⟩ | ⟨rfl,_⟩ | ⟨rfl,_⟩ | rfl | rfl | rfl | rfl | rfl | rfl | rfl <;> kernel_rfl
def clo1 (fn:FuncId) (c:Nat):Value:=.func (.func fn) #[] #[.pointer (some ⟨c,0,none⟩)]
def LetM (w:World) (b c bo:Nat):Prop:=∃ n f,MapR w b n f∧(∀ (k:Nat) (x:UInt8),x∈lettersO k→f (x.toNat:Int)=some (clo1 (letN x.toNat) c))∧PtrO w c bo
theorem LetM.next {w w':World} {b c bo:Nat} (h:LetM w b c bo) (hb:Below w.heap.size w w'):LetM w' b c bo:=by
 obtain ⟨n,f,h1,h2,h3⟩:=h
 exact ⟨n,f,h1.next hb,h2,h3.next hb⟩
theorem zeroLF (W:World):(zeroValue 95).run Tryz.prog W=.ok .nilFunc W:=by kernel_rfl
theorem LetM.look {w:World} {b c bo:Nat} (h:LetM w b c bo) {k:Nat} {x:UInt8} (hx:x∈lettersO k):(Instr.lookup 93 (.map (some b)) (.int .i32 (x.toNat:Int)) false).run Tryz.prog w=.ok (clo1 (letN x.toNat) c) w:=by
 obtain ⟨n,f,h1,h2,_⟩:=h
 have hw:(Lit.int .i32 (x.toNat:Int)).wf=true:=by
  rcases let_cases hx with ⟨rfl,_⟩ | ⟨rfl,_⟩ | ⟨rfl,_⟩ | rfl | rfl | rfl | rfl | rfl | rfl | rfl <;> decide
 rw [h1.look Tryz.underlying93 (zeroLF w) hw,h2 k x hx]
 rfl
set_option maxRecDepth 100000 in
set_option maxHeartbeats 3200000 in
theorem letters_any (bo:Nat) (w:World):Calls Tryz.prog 50 #[.pointer (some ⟨bo,0,none⟩)] w fun e w'=>∃ b c,e=.returned (.map (some b))∧LetM w' b c bo∧w.heap.size≤b∧w.heap.size≤c∧Below w.heap.size w w':=by
 have ht:=Tryz.underlying93
 have p0:PtrO (w.alloc (.cells #[.pointer (some ⟨bo,0,none⟩)] 65)) w.heap.size bo:=BoxA.new _ _ _
 have b0:Below w.heap.size w (w.alloc (.cells #[.pointer (some ⟨bo,0,none⟩)] 65)):=(Below.refl _ w).alloc (Nat.le_refl _) _
 obtain ⟨z,hz⟩:∃ z,w.alloc (.cells #[.pointer (some ⟨bo,0,none⟩)] 65)=z:=⟨_,rfl⟩
 have sz:z.heap.size=w.heap.size+1:=by rw [←hz];simp
 rw [hz] at p0 b0
 have y0:Below z.heap.size z (z.alloc (.map #[] 0)):=(Below.refl _ _).alloc (Nat.le_refl _) _
 have m0:=MapR.new z
 have P0:=p0.next y0
 have B0:Below w.heap.size w (z.alloc (.map #[] 0)):=b0.trans (y0.mono b0.size)
 obtain ⟨v1,r1,m1,g1⟩:=m0.put (x:=116) ht (by decide) (by decide) (clo1 79 w.heap.size)
 obtain ⟨v2,r2,m2,g2⟩:=m1.put (x:=113) ht (by decide) (by decide) (clo1 81 w.heap.size)
 obtain ⟨v3,r3,m3,g3⟩:=m2.put (x:=109) ht (by decide) (by decide) (clo1 82 w.heap.size)
 obtain ⟨v4,r4,m4,g4⟩:=m3.put (x:=106) ht (by decide) (by decide) (clo1 83 w.heap.size)
 obtain ⟨v5,r5,m5,g5⟩:=m4.put (x:=114) ht (by decide) (by decide) (clo1 84 w.heap.size)
 obtain ⟨v6,r6,m6,g6⟩:=m5.put (x:=97) ht (by decide) (by decide) (clo1 86 w.heap.size)
 obtain ⟨v7,r7,m7,g7⟩:=m6.put (x:=117) ht (by decide) (by decide) (clo1 87 w.heap.size)
 obtain ⟨v8,r8,m8,g8⟩:=m7.put (x:=110) ht (by decide) (by decide) (clo1 89 w.heap.size)
 obtain ⟨v9,r9,m9,g9⟩:=m8.put (x:=112) ht (by decide) (by decide) (clo1 90 w.heap.size)
 obtain ⟨v10,r10,m10,g10⟩:=m9.put (x:=99) ht (by decide) (by decide) (clo1 91 w.heap.size)
 have hg:But z.heap.size (z.alloc (.map #[] 0)) v10:=(((((((((g1.trans g2).trans g3).trans g4).trans g5).trans g6).trans g7).trans g8).trans g9).trans g10)
 have HB:=Lib.hid (B0.grown hg B0.size (fun j hj=>by cases hj;rw [sz];omega))
 have HS:=Lib.hid (show LetM v10 z.heap.size w.heap.size bo from
  ⟨_,_,m10,fun k x hx=>by rcases let_cases hx with ⟨rfl,_⟩ | ⟨rfl,_⟩ | ⟨rfl,_⟩ | rfl | rfl | rfl | rfl | rfl | rfl | rfl <;> rfl,BoxA.but P0 hg (by rw [sz];omega)⟩)
 have u1:(Instr.mapUpdate 93 (.map (some (w.heap.size+1))) (.int .i32 116) (.func (.func 79) #[] #[.pointer (some ⟨w.heap.size,0,none⟩)])).run Tryz.prog (z.alloc (.map #[] 0))=.ok () v1:=by rw [←sz];exact r1
 have u2:(Instr.mapUpdate 93 (.map (some (w.heap.size+1))) (.int .i32 113) (.func (.func 81) #[] #[.pointer (some ⟨w.heap.size,0,none⟩)])).run Tryz.prog v1=.ok () v2:=by rw [←sz];exact r2
 have u3:(Instr.mapUpdate 93 (.map (some (w.heap.size+1))) (.int .i32 109) (.func (.func 82) #[] #[.pointer (some ⟨w.heap.size,0,none⟩)])).run Tryz.prog v2=.ok () v3:=by rw [←sz];exact r3
 have u4:(Instr.mapUpdate 93 (.map (some (w.heap.size+1))) (.int .i32 106) (.func (.func 83) #[] #[.pointer (some ⟨w.heap.size,0,none⟩)])).run Tryz.prog v3=.ok () v4:=by rw [←sz];exact r4
 have u5:(Instr.mapUpdate 93 (.map (some (w.heap.size+1))) (.int .i32 114) (.func (.func 84) #[] #[.pointer (some ⟨w.heap.size,0,none⟩)])).run Tryz.prog v4=.ok () v5:=by rw [←sz];exact r5
 have u6:(Instr.mapUpdate 93 (.map (some (w.heap.size+1))) (.int .i32 97) (.func (.func 86) #[] #[.pointer (some ⟨w.heap.size,0,none⟩)])).run Tryz.prog v5=.ok () v6:=by rw [←sz];exact r6
 have u7:(Instr.mapUpdate 93 (.map (some (w.heap.size+1))) (.int .i32 117) (.func (.func 87) #[] #[.pointer (some ⟨w.heap.size,0,none⟩)])).run Tryz.prog v6=.ok () v7:=by rw [←sz];exact r7
 have u8:(Instr.mapUpdate 93 (.map (some (w.heap.size+1))) (.int .i32 110) (.func (.func 89) #[] #[.pointer (some ⟨w.heap.size,0,none⟩)])).run Tryz.prog v7=.ok () v8:=by rw [←sz];exact r8
 have u9:(Instr.mapUpdate 93 (.map (some (w.heap.size+1))) (.int .i32 112) (.func (.func 90) #[] #[.pointer (some ⟨w.heap.size,0,none⟩)])).run Tryz.prog v8=.ok () v9:=by rw [←sz];exact r9
 have u10:(Instr.mapUpdate 93 (.map (some (w.heap.size+1))) (.int .i32 99) (.func (.func 91) #[] #[.pointer (some ⟨w.heap.size,0,none⟩)])).run Tryz.prog v9=.ok () v10:=by rw [←sz];exact r10
 rw [←hz] at u1
 have SZ:=Lib.hid sz
 have hmm:=@run_makeMap Tryz.prog
 clear p0 b0 sz y0 m0 P0 B0 r1 r2 r3 r4 r5 r6 r7 r8 r9 r10 m1 m2 m3 m4 m5 m6 m7 m8 m9 m10 g1 g2 g3 g4 g5 g6 g7 g8 g9 g10 hg hz
 go_enter Tryz.func50,Tryz.ntmps50
 go_wp2
 go_ret
 exact ⟨z.heap.size,w.heap.size,by rw [SZ.out];rfl,HS.out,by rw [SZ.out];omega,Nat.le_refl _,HB.out⟩
end Go.Proofs.YtekcjfdllclphaaGreatDoor.gn
end
section
set_option linter.unusedVariables false
namespace Go.Proofs.YtekcjfdllclphaaGreatDoor.gn
open Go.RowKit
open Go.Proofs.YtekcjfdllclphaaGreatDoor.un
open Go.Proofs.YtekcjfdllclphaaGreatDoor.di
open Go.Proofs.YtekcjfdllclphaaGreatDoor.sp (cuts cuts_one cuts_app cuts_ne)
structure CS (c:UInt8) (l:Tx) (i f:Nat) (S:List Tx):Prop where
 fi:f≤i
 il:i≤l.length
 sp:cuts c l=S++cuts c (l.drop f)
 no:c ∉ (l.drop f).take (i - f)
theorem CS.split {l:Tx} {i f:Nat} (hfi:f≤i) (hi:i < l.length):l.drop f=(l.drop f).take (i - f)++l[i]::l.drop (i+1):=by
 have h1:=List.take_append_drop (i - f) (l.drop f)
 rw [List.drop_drop,show f+(i - f)=i by omega,List.drop_eq_getElem_cons hi] at h1
 exact h1.symm
theorem CS.hit {c:UInt8} {l:Tx} {i f:Nat} {S:List Tx} (h:CS c l i f S) (hi:i < l.length) (hb:l[i]=c):CS c l (i+1) (i+1) (S++[(l.drop f).take (i - f)]):=by
 refine ⟨Nat.le_refl _,by omega,?_,by simp⟩
 have hs:=CS.split h.fi hi
 rw [hb] at hs
 rw [h.sp,hs,cuts_app c _ _ h.no,List.append_assoc]
 rw [←hs]
 rfl
end Go.Proofs.YtekcjfdllclphaaGreatDoor.gn
end
