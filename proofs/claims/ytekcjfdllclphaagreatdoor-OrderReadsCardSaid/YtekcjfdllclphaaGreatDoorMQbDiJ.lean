/- The contract of Parse. -/
import Derived.Test.YtekcjfdllclphaaGreatDoorMQbDiI
import Derived.Laws.ResultCell
import Derived.Laws.Rows
import Derived.Deep.RegionHeld3
import Derived.Deep.DeepCutAuto
set_option linter.unusedVariables false
section
namespace Go.Proofs.YtekcjfdllclphaaGreatDoor.gn
open Go.RowKit
open Go.Proofs.YtekcjfdllclphaaGreatDoor.un
open Go.Proofs.YtekcjfdllclphaaGreatDoor.di
theorem results_two {P:Program} {fn:Func} {p u:Tmp} {ty:TypeId} (h:fn.results=#[.cell p ty,.tmp u]) (tmps:Array Value) (w:World) (g:Nat) (t:TypeId) (cs:Array Value) (fr:Nat × Nat) (d:TypeDesc)
  (hp:tmps.getD p undef=.pointer (some ⟨g,0,none⟩)) (hg:w.heap[g]?=some (.cells cs t fr))
  (hu:P.underlying ty=some d) (hd:(match d with | .struct _ | .array _ _=>true | _=>false)=true) (hi:(P.info? ty).map (·.size)=some cs.size) :
  (results fn tmps).run P w=.ok (.tuple #[.agg cs,tmps.getD u undef]) w:=by
 rw [results_cell_tmp h,hp]
 simp [asAddr,run_loadVar_row w g t ty cs fr d hg hu hd hi,Result.andThen]
theorem at0 {α:Type} {o:α} {l:List α}:(o::l)[0]?=some o:=rfl
theorem atS {α:Type} {o x:α} {l:List α} {n:Nat} (h:l[n]?=some o):(x::l)[n+1]?=some o:=h
theorem ata {α:Type} {o:α} {l:List α} {n:Nat} (h:l[n]?=some o):l.toArray[n]?=some o:=by simpa using h
theorem below_udrew {B:Nat} {w w':World} (h:Below B w.drew w'):Below B w w':=⟨h.os,h.tape,h.output,h.size,h.block⟩
def ParseT (l:Tx) (w:World) (e:Ending) (w':World):Prop:=e=.returned (.tuple #[dV (ldir l),.int .i64 (lerr l)])∧Below w.heap.size w w'
theorem line_short {l:Tx} (h:(words l).length < 2):line? l=none:=by
 unfold line?
 split
 ·rename_i b w ws hw
  rw [hw,List.length_cons,List.length_cons] at h
  omega
 ·rfl
theorem words_len:∀ l:Tx,(words l).length≤l.length+1
 | []=>by simp [words]
 | b::r=>by
  have ih:=words_len r
  by_cases hb:b=32
  ·rw [hb,words_bl]
   simp only [List.length_cons]
   omega
  ·rw [words_nb hb]
   cases hw:words r with
   | nil=>simp
   | cons h t =>
    rw [hw] at ih
    simp only [List.length_cons] at ih ⊢
    omega
theorem words_mem_len:∀ (l x:Tx),x∈words l→x.length≤l.length
 | [],x,h=>by
  simp [words] at h
  subst h
  simp
 | b::r,x,h=>by
  have ih:=words_mem_len r
  by_cases hb:b=32
  ·rw [hb,words_bl] at h
   rcases List.mem_cons.1 h with rfl | h
   ·simp
   ·have:=ih x h
    simp only [List.length_cons]
    omega
  ·rw [words_nb hb] at h
   cases hw:words r with
   | nil=>exact absurd hw (words_ne r)
   | cons y t =>
    rw [hw] at h ih
    rcases List.mem_cons.1 h with rfl | h
    ·have:=ih y (by simp)
     simp only [List.length_cons]
     omega
    ·have:=ih x (by simp [h])
     simp only [List.length_cons]
     omega
theorem line_two {l b v:Tx} {ws:List Tx} (h:words l=b::v::ws):line? l=if b=bbW then (match kind? v with
      | some k=>fields? k ws
      | none=>none) else none:=by
  unfold line?
  rw [h]
  rfl
theorem lerr_long {l:Tx} (h:500 < l.length):lerr l=3∧ldir l=Dir.zero:=by
 unfold lerr ldir
 rw [if_pos h,if_pos h]
 exact ⟨rfl,rfl⟩
theorem lerr_none {l:Tx} (h:l.length≤500) (hn:line? l=none):lerr l=140∧ldir l=Dir.zero:=by
 unfold lerr ldir
 have h':¬ 500 < l.length:=by omega
 rw [if_neg h',if_neg h',hn]
 exact ⟨rfl,rfl⟩
theorem lerr_some {l:Tx} (h:l.length≤500) {d:Dir} (hn:line? l=some d):lerr l=0∧ldir l=d:=by
 unfold lerr ldir
 have h':¬ 500 < l.length:=by omega
 rw [if_neg h',if_neg h',hn]
 exact ⟨rfl,rfl⟩
theorem parse_ret {l:Tx} {w W:World} {tmps:Array Value} {d:Dir} {e:Int} (hd:ldir l=d) (he:lerr l=e) (h2:tmps.getD 2 undef=.pointer (some ⟨w.heap.size,0,none⟩)) (h3:tmps.getD 3 undef=.int .i64 e) (hb:BoxA W w.heap.size 80 (dcs d)) (hB:Below w.heap.size w W) :
  bodyPost Tryz.prog Tryz.f110 (ParseT l w) Exit.ret ⟨tmps,[]⟩ W:=by
 refine bodyPost_ret (v:=.tuple #[dV d,.int .i64 e]) ?_ rfl ⟨by rw [hd,he],hB⟩
 rw [results_two rfl tmps W _ _ _ _ _ h2 hb Tryz.underlying80 rfl (by kernel_rfl),h3]
 rfl
set_option maxRecDepth 100000 in
theorem parse_long (l:Tx) (hl:500 < l.length) (hm:l.length≤9223372036854775807) (w:World):Calls Tryz.prog 110 #[.string (str l)] w (ParseT l w):=by
 have hz:=str_size l
 have hz0:500 < (str l).size:=by omega
 have hz1:(str l).size≤9223372036854775807:=by omega
 have HE:=Lib.hid (lerr_long hl)
 clear hl hm hz
 go_enter Tryz.func110,Tryz.ntmps110
 go_wp2
 refine parse_ret HE.out.2 HE.out.1 rfl rfl ?_ ?_
 ·exact BoxA.new _ _ _
 ·exact (Below.refl _ _).alloc (Nat.le_refl _) _
def ZB (w W:World):Prop:=BoxA W w.heap.size 80 #[.int .u8 0,.string { data:=#[] },.string { data:=#[] },.int .i64 0,.bool false]
theorem ZB.next {w W W':World} (h:ZB w W) (hb:Below W.heap.size W W'):ZB w W':=BoxA.next h hb
theorem ZB.cells {w W:World} (h:ZB w W):W.cell? ⟨w.heap.size,0,none⟩=some (.int .u8 0)∧W.cell? ⟨w.heap.size,1,none⟩=some (.string { data:=#[] })∧W.cell? ⟨w.heap.size,2,none⟩=some (.string { data:=#[] })∧W.cell? ⟨w.heap.size,3,none⟩=some (.int .i64 0)∧W.cell? ⟨w.heap.size,4,none⟩=some (.bool false) :=
 ⟨BoxA.cell h 0 _ rfl,BoxA.cell h 1 _ rfl,BoxA.cell h 2 _ rfl,BoxA.cell h 3 _ rfl,BoxA.cell h 4 _ rfl⟩
theorem parse_ret5 {l:Tx} {w W:World} {tmps:Array Value} {d:Dir} {e:Int} (hd:ldir l=d) (he:lerr l=e) (h2:tmps.getD 2 undef=.pointer (some ⟨w.heap.size,0,none⟩)) (h3:tmps.getD 3 undef=.int .i64 e) (hz:ZB w W) (hB:Below w.heap.size w W) :
  bodyPost Tryz.prog Tryz.f110 (ParseT l w) Exit.ret ⟨tmps,[]⟩ (((((W.setCell ⟨w.heap.size,0,none⟩ (.int .u8 (d.kind:Nat))).setCell ⟨w.heap.size,1,none⟩ (.string (str d.name))).setCell ⟨w.heap.size,2,none⟩ (.string (str d.pool))).setCell ⟨w.heap.size,3,none⟩ (.int .i64 d.size)).setCell ⟨w.heap.size,4,none⟩ (.bool d.opn)):=by
 refine parse_ret hd he h2 h3 ?_ ?_
 ·exact (((((show BoxA W w.heap.size _ _ from hz).set 0 _).set 1 _).set 2 _).set 3 _).set 4 _
 ·refine hB.grown (((((But.refl w.heap.size W).setCell 0 _).setCell 1 _).setCell 2 _).setCell 3 _ |>.setCell 4 _) hB.size (fun j hj=>by cases hj;exact Nat.le_refl _)
set_option maxRecDepth 100000 in
set_option maxHeartbeats 1600000 in
theorem parse_short (l:Tx) (hl:l.length≤500) (h2:(words l).length < 2) (w:World) (hL:LaidD w):Calls Tryz.prog 110 #[.string (str l)] w (ParseT l w):=by
 have hz:=str_size l
 have hz0:(str l).size≤500:=by omega
 have HE:=Lib.hid (lerr_none hl (line_short h2))
 obtain ⟨w0,hw0⟩:∃ w0,w0=w.alloc (.cells #[.int .u8 0,.string { data:=#[] },.string { data:=#[] },.int .i64 0,.bool false] 80):=⟨_,rfl⟩
 have hb0:Below w.heap.size w w0:=by rw [hw0];exact (Below.refl _ _).alloc (Nat.le_refl _) _
 have hZ:ZB w w0:=by rw [hw0];exact BoxA.new _ _ _
 have HS:=Lib.hid (split_any_d l (by omega) w0 (hL.next hb0))
 have HZ:=Lib.hid hZ
 have HB0:=Lib.hid hb0
 obtain ⟨nl,hnl⟩:∃ nl,(words l).length=nl:=⟨_,rfl⟩
 rw [hnl] at h2 HS
 have HNL:=Lib.hid hnl
 have H0:=Lib.hid hw0
 clear hl hL hz hZ hb0 hw0 hnl
 go_enter Tryz.func110,Tryz.ntmps110
 go_wp2_with (go_at_call 107;rw [←H0.out];refine HS.out.mono ?_;rintro e w1 ⟨rfl,hp,hb⟩;have HP:=Lib.hid hp;have hz1:=HZ.out.next hb;obtain ⟨z0,z1,z2,z3,z4⟩:=hz1.cells;have f0:=BoxA.free hz1 0;have f1:=BoxA.free hz1 1;have f2:=BoxA.free hz1 2;have f3:=BoxA.free hz1 3;have f4:=BoxA.free hz1 4;have HZ1:=Lib.hid hz1;have HB:=Lib.hid hb;clear hp hb hz1)
 exact parse_ret5 (d:=Dir.zero) HE.out.2 HE.out.1 rfl rfl HZ1.out (HB0.out.trans (HB.out.mono HB0.out.size))
set_option maxRecDepth 100000 in
set_option maxHeartbeats 1600000 in
theorem parse_notbb (l:Tx) (hl:l.length≤500) {b v:Tx} {ws:List Tx} (h2:words l=b::v::ws) (hb:b≠bbW) (w:World) (hL:LaidD w):Calls Tryz.prog 110 #[.string (str l)] w (ParseT l w):=by
 have hz:=str_size l
 have hz0:(str l).size≤500:=by omega
 have HE:=Lib.hid (lerr_none hl (show line? l=none by rw [line_two h2,if_neg hb]))
 obtain ⟨w0,hw0⟩:∃ w0,w0=w.alloc (.cells #[.int .u8 0,.string { data:=#[] },.string { data:=#[] },.int .i64 0,.bool false] 80):=⟨_,rfl⟩
 have hb0:Below w.heap.size w w0:=by rw [hw0];exact (Below.refl _ _).alloc (Nat.le_refl _) _
 have hZ:ZB w w0:=by rw [hw0];exact BoxA.new _ _ _
 have HS:=Lib.hid (split_any_d l (by omega) w0 (hL.next hb0))
 have HZ:=Lib.hid hZ
 have HB0:=Lib.hid hb0
 obtain ⟨nl,hnl⟩:∃ nl,(words l).length=nl:=⟨_,rfl⟩
 have h3:2≤nl:=by rw [←hnl,h2];simp
 have h4:nl≤501:=by rw [←hnl];exact Nat.le_trans (words_len l) (by omega)
 rw [hnl,h2] at HS
 have H0:=Lib.hid hw0
 obtain ⟨q1,q2⟩:=lit_no hb
 unfold bbW at q1 q2
 clear hl hL hz hZ hb0 hw0 hnl h2 hb
 go_enter Tryz.func110,Tryz.ntmps110
 go_wp2_with (go_at_call 107;rw [←H0.out];refine HS.out.mono ?_;rintro e w1 ⟨rfl,hp,hb⟩;have hc0:w1.cell? ⟨w0.heap.size,0,none⟩=some (.string (str b)):=hp.2 0 b rfl;have hz1:=HZ.out.next hb;obtain ⟨z0,z1,z2,z3,z4⟩:=hz1.cells;have f0:=BoxA.free hz1 0;have f1:=BoxA.free hz1 1;have f2:=BoxA.free hz1 2;have f3:=BoxA.free hz1 3;have f4:=BoxA.free hz1 4;have HZ1:=Lib.hid hz1;have HB:=Lib.hid hb;clear hp hb hz1)
 exact parse_ret5 (d:=Dir.zero) HE.out.2 HE.out.1 rfl rfl HZ1.out (HB0.out.trans (HB.out.mono HB0.out.size))
theorem zeroR (W:World):(zeroValue 161).run Tryz.prog W=.ok (.agg #[.int .u8 0,.slice none 0 0]) W:=by kernel_rfl
set_option maxRecDepth 100000 in
theorem slice_two {w:World} {p nl:Nat} {ws:List Tx} (h:Prts w p 2 ws) (hn:nl - 2=ws.length) (h2:2≤nl) :
  ∃ o,Prts w p o ws∧∀ W,(Instr.slice 25 (.slice (some ⟨p,0,none⟩) nl nl) (some (.int .i64 2)) none none).run Tryz.prog W=.ok (.slice (some ⟨p,o,none⟩) (nl - 2) (nl - 2)) W:=by
 have hz:∀ W,(sizeOf (Tryz.prog.elem 25)).run Tryz.prog W=.ok 1 W:=fun W=>by kernel_rfl
 have hr:∀ W,(Instr.slice 25 (.slice (some ⟨p,0,none⟩) nl nl) (some (.int .i64 2)) none none).run Tryz.prog W=.ok (sliced (some ⟨p,0,none⟩) 2 nl nl 1) W:=fun W=>by
  rw [run_slice_l W 25 _ nl nl Tryz.underlying25 .i64 2 (by omega) (by omega),hz]
  rfl
 by_cases he:nl=2
 ·refine ⟨0,⟨h.1,fun i x hx=>?_⟩,fun W=>?_⟩
  ·have:ws=[]:=List.eq_nil_of_length_eq_zero (by omega)
   rw [this] at hx
   simp at hx
  ·rw [hr,sliced,if_pos he]
 ·refine ⟨2,h,fun W=>?_⟩
  rw [hr,sliced,if_neg he]
  rfl
def RowOk (B:Nat) (W:World) (o:Option Nat) (c:Array Value):Prop:=match o with
 | some k=>∃ a,c=#[.int .u8 (k:Nat),.slice (some ⟨a,0,none⟩) (fldL k).length (fldL k).length]∧Flds W a (fldL k)∧B≤a
 | none=>c=#[.int .u8 0,.slice none 0 0]
def RowCut (w1:World) (o:Option Nat) (bb:Bool) (s5 s6:Value) (wx:World):Prop :=
 ∃ X c,s5=.pointer (some ⟨X,0,none⟩)∧s6=.bool bb∧BoxA wx X 161 c∧RowOk w1.heap.size wx o c∧w1.heap.size≤X∧Below w1.heap.size w1 wx
set_option maxRecDepth 100000 in
set_option maxHeartbeats 6400000 in
theorem parse_nokind (l:Tx) (hl:l.length≤500) {b v:Tx} {ws:List Tx} (h2:words l=b::v::ws) (hb:b=bbW) (hk:kind? v=none) (w:World) (hL:LaidD w):Calls Tryz.prog 110 #[.string (str l)] w (ParseT l w):=by
 have hz:=str_size l
 have hz0:(str l).size≤500:=by omega
 have HE:=Lib.hid (lerr_none hl (show line? l=none by rw [line_two h2,if_pos hb,hk]))
 obtain ⟨w0,hw0⟩:∃ w0,w0=w.alloc (.cells #[.int .u8 0,.string { data:=#[] },.string { data:=#[] },.int .i64 0,.bool false] 80):=⟨_,rfl⟩
 have hb0:Below w.heap.size w w0:=by rw [hw0];exact (Below.refl _ _).alloc (Nat.le_refl _) _
 have hZ:ZB w w0:=by rw [hw0];exact BoxA.new _ _ _
 have HS:=Lib.hid (split_any_d l (by omega) w0 (hL.next hb0))
 have HZ:=Lib.hid hZ
 have HB0:=Lib.hid hb0
 have HLD:=Lib.hid hL
 have HLW:=Lib.hid (show ∀ x∈ws,x.length≤1000 from fun x hx=>by
  have:=words_mem_len l x (by rw [h2];simp [hx])
  omega)
 obtain ⟨nl,hnl⟩:∃ nl,(words l).length=nl:=⟨_,rfl⟩
 have h3:2≤nl:=by rw [←hnl,h2];simp
 have h1nl:(1:Int) < (nl:Int):=by omega
 have h4:nl≤501:=by rw [←hnl];exact Nat.le_trans (words_len l) (by omega)
 have HNW:=Lib.hid (show nl - 2=ws.length by rw [←hnl,h2];simp)
 have HVL:=Lib.hid (show v.length≤maxLen by
  have:=words_mem_len l v (by rw [h2];simp)
  unfold maxLen;omega)
 rw [hnl,h2] at HS
 have H0:=Lib.hid hw0
 obtain ⟨q1,q2⟩:=lit_yes hb
 unfold bbW at q1 q2
 have HK:=Lib.hid hk
 clear hk
 clear hl hL hz hZ hb0 hw0 hnl h2 hb
 go_enter Tryz.func110,Tryz.ntmps110
 go_upto_region 6 with (go_at_call 107;rw [←H0.out];refine HS.out.mono ?_;rintro e w1 ⟨rfl,hp,hb⟩;have hc0:w1.cell? ⟨w0.heap.size,0,none⟩=some (.string (str b)):=hp.2 0 b rfl;have hc1:w1.cell? ⟨w0.heap.size,1,none⟩=some (.string (str v)):=hp.2 1 v rfl;have HP:=Lib.hid hp;have HZ1:=Lib.hid (HZ.out.next hb);have HB:=Lib.hid (HB0.out.trans (hb.mono HB0.out.size));clear hp hb)
 have hlt0:w0.heap.size < w1.heap.size:=HP.out.1
 go_cut [5,6] from 24 to 31 (fun s5 s6 wx=>RowCut w1 none false s5 s6 wx)
 case first =>
  have hneX:(⟨w1.heap.size,0,none⟩:Addr)≠⟨w0.heap.size,1,none⟩:=fun e=>by simp only [Addr.mk.injEq] at e;omega
  have hneY:(⟨w1.heap.size,1,none⟩:Addr)≠⟨w0.heap.size,1,none⟩:=fun e=>by simp only [Addr.mk.injEq] at e;omega
  refine wp_region_held_drew (S:=(fun W=>W.cell? ⟨w0.heap.size,1,none⟩=some (.string (str v)))) (by kernel_rfl) (by exact hc1) (fun hHeld=>?_)
  refine wpAnyH_take (i:=1) (v:=?_) (ata (atS at0)) (by kernel_rfl) (by kernel_rfl) (by kernel_rfl) (fun _ _ _ h=>h) (Or.inl ⟨by rfl,?_⟩) (by assumption) ?_
  rotate_left
  ·(intro w hSw;(try dsimp only at hSw);go_simp;(first | done | with_reducible rfl))
  try simp only [Act.put,List.setIfInBounds_toArray,List.set_cons_zero,List.set_cons_succ]
  refine wpAnyH_take (i:=2) (v:=?_) (ata (atS (atS at0))) (by kernel_rfl) (by kernel_rfl) (by kernel_rfl) (fun _ _ _ h=>h) (Or.inl ⟨by rfl,?_⟩) (by assumption) ?_
  rotate_left
  ·(intro w hSw;(try dsimp only at hSw);go_simp;(first | done | with_reducible rfl))
  try simp only [Act.put,List.setIfInBounds_toArray,List.set_cons_zero,List.set_cons_succ]
  refine wpAnyH_take (i:=3) (v:=?_) (ata (atS (atS (atS at0)))) (by kernel_rfl) (by kernel_rfl) (by kernel_rfl) (fun _ _ _ h=>h) (Or.inl ⟨by rfl,?_⟩) (by assumption) ?_
  rotate_left
  ·(intro w hSw;(try dsimp only at hSw);go_simp;(first | done | with_reducible rfl))
  try simp only [Act.put,List.setIfInBounds_toArray,List.set_cons_zero,List.set_cons_succ]
  refine wpAnyH_ready (rs:=[0,8]) (by kernel_rfl) (by simp) ?_
  refine AllReadyH.cons (ata at0) (fun K hK=>?_) (AllReadyH.cons (ata (atS (atS (atS (atS (atS (atS (atS (atS at0))))))))) (fun K hK=>?_) AllReadyH.nil)
  ·go_simp
   (go_at_call 124;refine (rows_any _).mono ?_;rintro e w2 ⟨rb,RL,ra,rfl,hr,hb2⟩;have hb2:Below w1.heap.size w1 w2:=below_udrew hb2;have hc2:w2.cell? ⟨w0.heap.size,1,none⟩=some (.string (str v)):=(Below.cell hb2 hlt0).trans hc1;have hlk:=hr.m.look_ok Tryz.underlying158 (zeroR w2) HVL.out;have hlk2:=(hr.next ((Below.refl _ w2).alloc (Nat.le_refl _) (.cells #[.int .u8 0,.slice none 0 0] 161))).m.look_ok Tryz.underlying158 (zeroR _) HVL.out;rw [hr.get,HK.out,Option.map_none,Option.getD_none,Option.isSome_none] at hlk;rw [hr.get,HK.out,Option.map_none,Option.getD_none,Option.isSome_none] at hlk2;have HR:=Lib.hid hr;have HB2:=Lib.hid hb2;clear hr hb2)
   go_wp2_with fail
   refine hK.out _ _ (by exact hc2) (fun hHeld=>?_)
   clear hK K
   try simp only [Act.put,List.setIfInBounds_toArray,List.set_cons_zero,List.set_cons_succ]
   refine wpAnyH_ready (rs:=[4,8]) (by kernel_rfl) (by simp) ?_
   refine AllReadyH.cons (ata (atS (atS (atS (atS at0))))) (fun K hK=>?_) (AllReadyH.cons (ata (atS (atS (atS (atS (atS (atS (atS (atS at0))))))))) (fun K hK=>?_) AllReadyH.nil)
   ·go_simp
    refine hK.out _ _ (by exact hc2) (fun hHeld=>?_)
    clear hK K
    try simp only [Act.put,List.setIfInBounds_toArray,List.set_cons_zero,List.set_cons_succ]
    refine wpAnyH_take (i:=5) (v:=?_) (ata (atS (atS (atS (atS (atS at0)))))) (by kernel_rfl) (by kernel_rfl) (by kernel_rfl) (fun _ _ _ h=>h) (Or.inl ⟨by rfl,?_⟩) (by assumption) ?_
    rotate_left
    ·(intro w hSw;(try dsimp only at hSw);go_simp;(first | done | with_reducible rfl))
    try simp only [Act.put,List.setIfInBounds_toArray,List.set_cons_zero,List.set_cons_succ]
    refine wpAnyH_take (i:=6) (v:=?_) (ata (atS (atS (atS (atS (atS (atS at0))))))) (by kernel_rfl) (by kernel_rfl) (by kernel_rfl) (fun _ _ _ h=>h) (Or.inl ⟨by rfl,?_⟩) (by assumption) ?_
    rotate_left
    ·(intro w hSw;(try dsimp only at hSw);go_simp;(first | done | with_reducible rfl))
    try simp only [Act.put,List.setIfInBounds_toArray,List.set_cons_zero,List.set_cons_succ]
    refine wpAnyH_take (i:=7) (v:=?_) (ata (atS (atS (atS (atS (atS (atS (atS at0)))))))) (by kernel_rfl) (by kernel_rfl) (by kernel_rfl) (fun _ _ _ h=>h) (Or.inl ⟨by rfl,?_⟩) (by assumption) ?_
    rotate_left
    ·(intro w hSw;(try dsimp only at hSw);go_simp;(first | done | with_reducible rfl))
    try simp only [Act.put,List.setIfInBounds_toArray,List.set_cons_zero,List.set_cons_succ]
    refine wpAnyH_ready (rs:=[8]) (by kernel_rfl) (by simp) ?_
    refine AllReadyH.cons (ata (atS (atS (atS (atS (atS (atS (atS (atS at0))))))))) (fun K hK=>?_) AllReadyH.nil
    go_simp
    refine hK.out _ _ (by first | exact hc2 | exact (Below.cell ((Below.refl _ w2).alloc (Nat.le_refl _) _) (Nat.lt_of_lt_of_le hlt0 HB2.out.size)).trans hc2) (fun hHeld=>?_)
    clear hK K
    try simp only [Act.put,List.setIfInBounds_toArray,List.set_cons_zero,List.set_cons_succ]
    refine wpAnyH_ready (rs:=[9]) (by kernel_rfl) (by simp) ?_
    refine AllReadyH.cons (ata (atS (atS (atS (atS (atS (atS (atS (atS (atS at0)))))))))) (fun K hK=>?_) AllReadyH.nil
    go_simp
    refine hK.out _ _ (by first | exact hc2 | exact (Below.cell ((Below.refl _ w2).alloc (Nat.le_refl _) _) (Nat.lt_of_lt_of_le hlt0 HB2.out.size)).trans hc2) (fun hHeld=>?_)
    clear hK K
    try simp only [Act.put,List.setIfInBounds_toArray,List.set_cons_zero,List.set_cons_succ]
    refine wpAnyH_take (i:=10) (v:=?_) (ata (atS (atS (atS (atS (atS (atS (atS (atS (atS (atS at0))))))))))) (by kernel_rfl) (by kernel_rfl) (by kernel_rfl) (fun _ _ _ h=>h) (Or.inl ⟨by rfl,?_⟩) (by assumption) ?_
    rotate_left
    ·(intro w hSw;(try dsimp only at hSw);go_simp;(first | done | with_reducible rfl))
    try simp only [Act.put,List.setIfInBounds_toArray,List.set_cons_zero,List.set_cons_succ]
    refine wpAnyH_done (by kernel_rfl) ?_ _
    go_wp2
    go_meet
    case rel=>exact ⟨w2.heap.size,_,rfl,rfl,BoxA.new _ _ _,rfl,HB2.out.size,HB2.out.alloc HB2.out.size _⟩
   ·go_simp
    refine hK.out _ _ (by first | exact hc2 | exact (Below.cell ((Below.refl _ w2).alloc (Nat.le_refl _) _) (Nat.lt_of_lt_of_le hlt0 HB2.out.size)).trans hc2) (fun hHeld=>?_)
    clear hK K
    try simp only [Act.put,List.setIfInBounds_toArray,List.set_cons_zero,List.set_cons_succ]
    refine wpAnyH_ready (rs:=[4]) (by kernel_rfl) (by simp) ?_
    refine AllReadyH.cons (ata (atS (atS (atS (atS at0))))) (fun K hK=>?_) AllReadyH.nil
    go_simp
    refine hK.out _ _ (by first | exact hc2 | exact (Below.cell ((Below.refl _ w2).alloc (Nat.le_refl _) _) (Nat.lt_of_lt_of_le hlt0 HB2.out.size)).trans hc2) (fun hHeld=>?_)
    clear hK K
    try simp only [Act.put,List.setIfInBounds_toArray,List.set_cons_zero,List.set_cons_succ]
    refine wpAnyH_take (i:=5) (v:=?_) (ata (atS (atS (atS (atS (atS at0)))))) (by kernel_rfl) (by kernel_rfl) (by kernel_rfl) (fun _ _ _ h=>h) (Or.inl ⟨by rfl,?_⟩) (by assumption) ?_
    rotate_left
    ·(intro w hSw;(try dsimp only at hSw);go_simp;(first | done | with_reducible rfl))
    try simp only [Act.put,List.setIfInBounds_toArray,List.set_cons_zero,List.set_cons_succ]
    refine wpAnyH_take (i:=6) (v:=?_) (ata (atS (atS (atS (atS (atS (atS at0))))))) (by kernel_rfl) (by kernel_rfl) (by kernel_rfl) (fun _ _ _ h=>h) (Or.inl ⟨by rfl,?_⟩) (by assumption) ?_
    rotate_left
    ·(intro w hSw;(try dsimp only at hSw);go_simp;(first | done | with_reducible rfl))
    try simp only [Act.put,List.setIfInBounds_toArray,List.set_cons_zero,List.set_cons_succ]
    refine wpAnyH_take (i:=7) (v:=?_) (ata (atS (atS (atS (atS (atS (atS (atS at0)))))))) (by kernel_rfl) (by kernel_rfl) (by kernel_rfl) (fun _ _ _ h=>h) (Or.inl ⟨by rfl,?_⟩) (by assumption) ?_
    rotate_left
    ·(intro w hSw;(try dsimp only at hSw);go_simp;(first | done | with_reducible rfl))
    try simp only [Act.put,List.setIfInBounds_toArray,List.set_cons_zero,List.set_cons_succ]
    refine wpAnyH_ready (rs:=[9]) (by kernel_rfl) (by simp) ?_
    refine AllReadyH.cons (ata (atS (atS (atS (atS (atS (atS (atS (atS (atS at0)))))))))) (fun K hK=>?_) AllReadyH.nil
    go_simp
    refine hK.out _ _ (by first | exact hc2 | exact (Below.cell ((Below.refl _ w2).alloc (Nat.le_refl _) _) (Nat.lt_of_lt_of_le hlt0 HB2.out.size)).trans hc2) (fun hHeld=>?_)
    clear hK K
    try simp only [Act.put,List.setIfInBounds_toArray,List.set_cons_zero,List.set_cons_succ]
    refine wpAnyH_take (i:=10) (v:=?_) (ata (atS (atS (atS (atS (atS (atS (atS (atS (atS (atS at0))))))))))) (by kernel_rfl) (by kernel_rfl) (by kernel_rfl) (fun _ _ _ h=>h) (Or.inl ⟨by rfl,?_⟩) (by assumption) ?_
    rotate_left
    ·(intro w hSw;(try dsimp only at hSw);go_simp;(first | done | with_reducible rfl))
    try simp only [Act.put,List.setIfInBounds_toArray,List.set_cons_zero,List.set_cons_succ]
    refine wpAnyH_done (by kernel_rfl) ?_ _
    go_wp2
    go_meet
    case rel=>exact ⟨w2.heap.size,_,rfl,rfl,BoxA.new _ _ _,rfl,HB2.out.size,HB2.out.alloc HB2.out.size _⟩
  ·go_simp
   refine hK.out _ _ (by exact (Below.cell ((Below.refl _ w1).alloc (Nat.le_refl _) _) hlt0).trans hc1) (fun hHeld=>?_)
   clear hK K
   try simp only [Act.put,List.setIfInBounds_toArray,List.set_cons_zero,List.set_cons_succ]
   obtain ⟨ya,hya⟩:∃ y,World.drew (World.alloc w1 (.cells #[.int .u8 0,.slice none 0 0] 161))=y:=⟨_,rfl⟩
   rw [hya]
   have HYA:Hid (Below w1.heap.size w1 ya):=by show Below _ _ _;rw [←hya];exact ((Below.refl _ w1).alloc (Nat.le_refl _) _).drew
   have HX:Hid (BoxA ya w1.heap.size 161 #[.int .u8 0,.slice none 0 0]):=by show BoxA _ _ _ _;rw [←hya];exact (BoxA.new w1 _ _).drew
   clear hya
   refine wpAnyH_ready (rs:=[0]) (by kernel_rfl) (by simp) ?_
   refine AllReadyH.cons (ata at0) (fun K hK=>?_) AllReadyH.nil
   go_simp
   (go_at_call 124;refine (rows_any _).mono ?_;rintro e w2 ⟨rb,RL,ra,rfl,hr,hb2⟩;have hc2:w2.cell? ⟨w0.heap.size,1,none⟩=some (.string (str v)):=(Below.cell hb2 (Nat.lt_of_lt_of_le hlt0 HYA.out.size)).trans ((Below.cell HYA.out hlt0).trans hc1);have hx2:=HX.out.next hb2;have x0:w2.cell? ⟨w1.heap.size,0,none⟩=some (.int .u8 0):=BoxA.cell hx2 0 _ rfl;have x1:w2.cell? ⟨w1.heap.size,1,none⟩=some (.slice none 0 0):=BoxA.cell hx2 1 _ rfl;have y0:=BoxA.free hx2 0;have y1:=BoxA.free hx2 1;have hlk:=hr.m.look_ok Tryz.underlying158 (zeroR w2) HVL.out;rw [hr.get,HK.out,Option.map_none,Option.getD_none,Option.isSome_none] at hlk;have HX2:=Lib.hid hx2;have HR:=Lib.hid hr;have HB2:=Lib.hid (HYA.out.trans (hb2.mono HYA.out.size));have HYR:=Lib.hid HYA.out.size;clear hr hb2 hx2)
   go_wp2_with fail
   refine hK.out _ _ (by exact hc2) (fun hHeld=>?_)
   clear hK K
   try simp only [Act.put,List.setIfInBounds_toArray,List.set_cons_zero,List.set_cons_succ]
   refine wpAnyH_ready (rs:=[4]) (by kernel_rfl) (by simp) ?_
   refine AllReadyH.cons (ata (atS (atS (atS (atS at0))))) (fun K hK=>?_) AllReadyH.nil
   go_simp
   refine hK.out _ _ (by exact hc2) (fun hHeld=>?_)
   clear hK K
   try simp only [Act.put,List.setIfInBounds_toArray,List.set_cons_zero,List.set_cons_succ]
   refine wpAnyH_take (i:=5) (v:=?_) (ata (atS (atS (atS (atS (atS at0)))))) (by kernel_rfl) (by kernel_rfl) (by kernel_rfl) (fun _ _ _ h=>h) (Or.inl ⟨by rfl,?_⟩) (by assumption) ?_
   rotate_left
   ·(intro w hSw;(try dsimp only at hSw);go_simp;(first | done | with_reducible rfl))
   try simp only [Act.put,List.setIfInBounds_toArray,List.set_cons_zero,List.set_cons_succ]
   refine wpAnyH_take (i:=6) (v:=?_) (ata (atS (atS (atS (atS (atS (atS at0))))))) (by kernel_rfl) (by kernel_rfl) (by kernel_rfl) (fun _ _ _ h=>h) (Or.inl ⟨by rfl,?_⟩) (by assumption) ?_
   rotate_left
   ·(intro w hSw;(try dsimp only at hSw);go_simp;(first | done | with_reducible rfl))
   try simp only [Act.put,List.setIfInBounds_toArray,List.set_cons_zero,List.set_cons_succ]
   refine wpAnyH_take (i:=7) (v:=?_) (ata (atS (atS (atS (atS (atS (atS (atS at0)))))))) (by kernel_rfl) (by kernel_rfl) (by kernel_rfl) (fun _ _ _ h=>h) (Or.inl ⟨by rfl,?_⟩) (by assumption) ?_
   rotate_left
   ·(intro w hSw;(try dsimp only at hSw);go_simp;(first | done | with_reducible rfl))
   try simp only [Act.put,List.setIfInBounds_toArray,List.set_cons_zero,List.set_cons_succ]
   refine wpAnyH_ready (rs:=[9]) (by kernel_rfl) (by simp) ?_
   refine AllReadyH.cons (ata (atS (atS (atS (atS (atS (atS (atS (atS (atS at0)))))))))) (fun K hK=>?_) AllReadyH.nil
   go_simp
   refine hK.out _ _ (by first | exact hc2 | (simp only [World.cell?_setCell_other _ _ _ _ hneX,World.cell?_setCell_other _ _ _ _ hneY];exact hc2)) (fun hHeld=>?_)
   clear hK K
   try simp only [Act.put,List.setIfInBounds_toArray,List.set_cons_zero,List.set_cons_succ]
   refine wpAnyH_take (i:=10) (v:=?_) (ata (atS (atS (atS (atS (atS (atS (atS (atS (atS (atS at0))))))))))) (by kernel_rfl) (by kernel_rfl) (by kernel_rfl) (fun _ _ _ h=>h) (Or.inl ⟨by rfl,?_⟩) (by assumption) ?_
   rotate_left
   ·(intro w hSw;(try dsimp only at hSw);go_simp;(first | done | with_reducible rfl))
   try simp only [Act.put,List.setIfInBounds_toArray,List.set_cons_zero,List.set_cons_succ]
   refine wpAnyH_done (by kernel_rfl) ?_ _
   go_wp2
   go_meet
   case rel=>exact ⟨w1.heap.size,_,rfl,rfl,(HX2.out.set 0 _).set 1 _,rfl,Nat.le_refl _,HB2.out.grown ((But.setCell (But.refl w1.heap.size w2) 0 _).setCell 1 _) HB2.out.size (fun j hj=>by cases hj;exact Nat.le_refl _)⟩
 case rest =>
  obtain ⟨X,c,rfl,rfl,hX,hro,hXl,hbx⟩:=hcut
  obtain rfl:=hro
  have x0:wc.cell? ⟨X,0,none⟩=some (.int .u8 0):=BoxA.cell hX 0 _ rfl
  have hXz:=hX.lt
  have hz1:=HZ1.out.next hbx
  obtain ⟨z0,z1,z2,z3,z4⟩:=hz1.cells
  have f0:=BoxA.free hz1 0;have f1:=BoxA.free hz1 1;have f2:=BoxA.free hz1 2;have f3:=BoxA.free hz1 3;have f4:=BoxA.free hz1 4
  have HZ2:=Lib.hid hz1
  have HBX:=Lib.hid (HB.out.trans (hbx.mono HB.out.size))
  have hwz:w.heap.size < wc.heap.size:=hz1.lt
  clear hX hbx hz1
  go_wp2_with (go_quiet (fail))
  refine parse_ret5 (d:=Dir.zero) HE.out.2 HE.out.1 rfl rfl ?_ ?_
  ·exact HZ2.out.next (((Below.refl _ _).alloc (Nat.le_refl _) _).trans (Joins.below_draws _ _ _))
  ·exact (HBX.out.alloc HBX.out.size _).trans (Joins.below_draws _ _ _)
set_option maxRecDepth 100000 in
set_option maxHeartbeats 6400000 in
theorem parse_kind (l:Tx) (hl:l.length≤500) {b v:Tx} {ws:List Tx} (h2:words l=b::v::ws) (hb:b=bbW) {k:Nat} (hk:kind? v=some k) (w:World) (hL:LaidD w):Calls Tryz.prog 110 #[.string (str l)] w (ParseT l w):=by
 have hz:=str_size l
 have hz0:(str l).size≤500:=by omega
 have hkk:=(kind_some hk).2
 have HKK:=Lib.hid hkk
 have hlw:line? l=fields? k ws:=by rw [line_two h2,if_pos hb,hk]
 obtain ⟨w0,hw0⟩:∃ w0,w0=w.alloc (.cells #[.int .u8 0,.string { data:=#[] },.string { data:=#[] },.int .i64 0,.bool false] 80):=⟨_,rfl⟩
 have hb0:Below w.heap.size w w0:=by rw [hw0];exact (Below.refl _ _).alloc (Nat.le_refl _) _
 have hZ:ZB w w0:=by rw [hw0];exact BoxA.new _ _ _
 have HS:=Lib.hid (split_any_d l (by omega) w0 (hL.next hb0))
 have HZ:=Lib.hid hZ
 have HB0:=Lib.hid hb0
 have HLD:=Lib.hid hL
 have HLW:=Lib.hid (show ∀ x∈ws,x.length≤1000 from fun x hx=>by
  have:=words_mem_len l x (by rw [h2];simp [hx])
  omega)
 obtain ⟨nl,hnl⟩:∃ nl,(words l).length=nl:=⟨_,rfl⟩
 have h3:2≤nl:=by rw [←hnl,h2];simp
 have h1nl:(1:Int) < (nl:Int):=by omega
 have h4:nl≤501:=by rw [←hnl];exact Nat.le_trans (words_len l) (by omega)
 have HNW:=Lib.hid (show nl - 2=ws.length by rw [←hnl,h2];simp)
 have HVL:=Lib.hid (show v.length≤maxLen by
  have:=words_mem_len l v (by rw [h2];simp)
  unfold maxLen;omega)
 rw [hnl,h2] at HS
 have H0:=Lib.hid hw0
 obtain ⟨q1,q2⟩:=lit_yes hb
 unfold bbW at q1 q2
 have HK:=Lib.hid hk
 have HLW2:=Lib.hid hlw
 have HL5:=Lib.hid hl
 obtain ⟨n,hn⟩:∃ n,(fldL k).length=n:=⟨_,rfl⟩
 have HN:=Lib.hid hn
 clear hk hkk hlw hn
 clear hl hL hz hZ hb0 hw0 hnl h2 hb
 go_enter Tryz.func110,Tryz.ntmps110
 go_upto_region 6 with (go_at_call 107;rw [←H0.out];refine HS.out.mono ?_;rintro e w1 ⟨rfl,hp,hb⟩;have hc0:w1.cell? ⟨w0.heap.size,0,none⟩=some (.string (str b)):=hp.2 0 b rfl;have hc1:w1.cell? ⟨w0.heap.size,1,none⟩=some (.string (str v)):=hp.2 1 v rfl;have HP:=Lib.hid hp;have HZ1:=Lib.hid (HZ.out.next hb);have HB:=Lib.hid (HB0.out.trans (hb.mono HB0.out.size));clear hp hb)
 have hlt0:w0.heap.size < w1.heap.size:=HP.out.1
 go_cut [5,6] from 24 to 31 (fun s5 s6 wx=>RowCut w1 (some k) true s5 s6 wx)
 case first =>
  have hneX:(⟨w1.heap.size,0,none⟩:Addr)≠⟨w0.heap.size,1,none⟩:=fun e=>by simp only [Addr.mk.injEq] at e;omega
  have hneY:(⟨w1.heap.size,1,none⟩:Addr)≠⟨w0.heap.size,1,none⟩:=fun e=>by simp only [Addr.mk.injEq] at e;omega
  refine wp_region_held_drew (S:=(fun W=>W.cell? ⟨w0.heap.size,1,none⟩=some (.string (str v)))) (by kernel_rfl) (by exact hc1) (fun hHeld=>?_)
  refine wpAnyH_take (i:=1) (v:=?_) (ata (atS at0)) (by kernel_rfl) (by kernel_rfl) (by kernel_rfl) (fun _ _ _ h=>h) (Or.inl ⟨by rfl,?_⟩) (by assumption) ?_
  rotate_left
  ·(intro w hSw;(try dsimp only at hSw);go_simp;(first | done | with_reducible rfl))
  try simp only [Act.put,List.setIfInBounds_toArray,List.set_cons_zero,List.set_cons_succ]
  refine wpAnyH_take (i:=2) (v:=?_) (ata (atS (atS at0))) (by kernel_rfl) (by kernel_rfl) (by kernel_rfl) (fun _ _ _ h=>h) (Or.inl ⟨by rfl,?_⟩) (by assumption) ?_
  rotate_left
  ·(intro w hSw;(try dsimp only at hSw);go_simp;(first | done | with_reducible rfl))
  try simp only [Act.put,List.setIfInBounds_toArray,List.set_cons_zero,List.set_cons_succ]
  refine wpAnyH_take (i:=3) (v:=?_) (ata (atS (atS (atS at0)))) (by kernel_rfl) (by kernel_rfl) (by kernel_rfl) (fun _ _ _ h=>h) (Or.inl ⟨by rfl,?_⟩) (by assumption) ?_
  rotate_left
  ·(intro w hSw;(try dsimp only at hSw);go_simp;(first | done | with_reducible rfl))
  try simp only [Act.put,List.setIfInBounds_toArray,List.set_cons_zero,List.set_cons_succ]
  refine wpAnyH_ready (rs:=[0,8]) (by kernel_rfl) (by simp) ?_
  refine AllReadyH.cons (ata at0) (fun K hK=>?_) (AllReadyH.cons (ata (atS (atS (atS (atS (atS (atS (atS (atS at0))))))))) (fun K hK=>?_) AllReadyH.nil)
  ·go_simp
   (go_at_call 124;refine (rows_any _).mono ?_;rintro e w2 ⟨rb,RL,ra,rfl,hr,hb2⟩;have hb2:Below w1.heap.size w1 w2:=below_udrew hb2;have hc2:w2.cell? ⟨w0.heap.size,1,none⟩=some (.string (str v)):=(Below.cell hb2 hlt0).trans hc1;have hlk:=hr.m.look_ok Tryz.underlying158 (zeroR w2) HVL.out;have hlk2:=(hr.next ((Below.refl _ w2).alloc (Nat.le_refl _) (.cells #[.int .u8 0,.slice none 0 0] 161))).m.look_ok Tryz.underlying158 (zeroR _) HVL.out;rw [hr.get,HK.out,Option.map_some,Option.getD_some,Option.isSome_some] at hlk;unfold rowV at hlk;rw [HN.out] at hlk;rw [hr.get,HK.out,Option.map_some,Option.getD_some,Option.isSome_some] at hlk2;unfold rowV at hlk2;rw [HN.out] at hlk2;have HR:=Lib.hid hr;have HB2:=Lib.hid hb2;clear hr hb2)
   go_wp2_with fail
   refine hK.out _ _ (by exact hc2) (fun hHeld=>?_)
   clear hK K
   try simp only [Act.put,List.setIfInBounds_toArray,List.set_cons_zero,List.set_cons_succ]
   refine wpAnyH_ready (rs:=[4,8]) (by kernel_rfl) (by simp) ?_
   refine AllReadyH.cons (ata (atS (atS (atS (atS at0))))) (fun K hK=>?_) (AllReadyH.cons (ata (atS (atS (atS (atS (atS (atS (atS (atS at0))))))))) (fun K hK=>?_) AllReadyH.nil)
   ·go_simp
    refine hK.out _ _ (by exact hc2) (fun hHeld=>?_)
    clear hK K
    try simp only [Act.put,List.setIfInBounds_toArray,List.set_cons_zero,List.set_cons_succ]
    refine wpAnyH_take (i:=5) (v:=?_) (ata (atS (atS (atS (atS (atS at0)))))) (by kernel_rfl) (by kernel_rfl) (by kernel_rfl) (fun _ _ _ h=>h) (Or.inl ⟨by rfl,?_⟩) (by assumption) ?_
    rotate_left
    ·(intro w hSw;(try dsimp only at hSw);go_simp;(first | done | with_reducible rfl))
    try simp only [Act.put,List.setIfInBounds_toArray,List.set_cons_zero,List.set_cons_succ]
    refine wpAnyH_take (i:=6) (v:=?_) (ata (atS (atS (atS (atS (atS (atS at0))))))) (by kernel_rfl) (by kernel_rfl) (by kernel_rfl) (fun _ _ _ h=>h) (Or.inl ⟨by rfl,?_⟩) (by assumption) ?_
    rotate_left
    ·(intro w hSw;(try dsimp only at hSw);go_simp;(first | done | with_reducible rfl))
    try simp only [Act.put,List.setIfInBounds_toArray,List.set_cons_zero,List.set_cons_succ]
    refine wpAnyH_take (i:=7) (v:=?_) (ata (atS (atS (atS (atS (atS (atS (atS at0)))))))) (by kernel_rfl) (by kernel_rfl) (by kernel_rfl) (fun _ _ _ h=>h) (Or.inl ⟨by rfl,?_⟩) (by assumption) ?_
    rotate_left
    ·(intro w hSw;(try dsimp only at hSw);go_simp;(first | done | with_reducible rfl))
    try simp only [Act.put,List.setIfInBounds_toArray,List.set_cons_zero,List.set_cons_succ]
    refine wpAnyH_ready (rs:=[8]) (by kernel_rfl) (by simp) ?_
    refine AllReadyH.cons (ata (atS (atS (atS (atS (atS (atS (atS (atS at0))))))))) (fun K hK=>?_) AllReadyH.nil
    go_simp
    refine hK.out _ _ (by first | exact hc2 | exact (Below.cell ((Below.refl _ w2).alloc (Nat.le_refl _) _) (Nat.lt_of_lt_of_le hlt0 HB2.out.size)).trans hc2) (fun hHeld=>?_)
    clear hK K
    try simp only [Act.put,List.setIfInBounds_toArray,List.set_cons_zero,List.set_cons_succ]
    refine wpAnyH_ready (rs:=[9]) (by kernel_rfl) (by simp) ?_
    refine AllReadyH.cons (ata (atS (atS (atS (atS (atS (atS (atS (atS (atS at0)))))))))) (fun K hK=>?_) AllReadyH.nil
    go_simp
    refine hK.out _ _ (by first | exact hc2 | exact (Below.cell ((Below.refl _ w2).alloc (Nat.le_refl _) _) (Nat.lt_of_lt_of_le hlt0 HB2.out.size)).trans hc2) (fun hHeld=>?_)
    clear hK K
    try simp only [Act.put,List.setIfInBounds_toArray,List.set_cons_zero,List.set_cons_succ]
    refine wpAnyH_take (i:=10) (v:=?_) (ata (atS (atS (atS (atS (atS (atS (atS (atS (atS (atS at0))))))))))) (by kernel_rfl) (by kernel_rfl) (by kernel_rfl) (fun _ _ _ h=>h) (Or.inl ⟨by rfl,?_⟩) (by assumption) ?_
    rotate_left
    ·(intro w hSw;(try dsimp only at hSw);go_simp;(first | done | with_reducible rfl))
    try simp only [Act.put,List.setIfInBounds_toArray,List.set_cons_zero,List.set_cons_succ]
    refine wpAnyH_done (by kernel_rfl) ?_ _
    go_wp2
    go_meet
    case rel=>exact ⟨w2.heap.size,_,rfl,rfl,BoxA.new _ _ _,⟨ra k,by rw [HN.out],(HR.out.flds k HKK.out).1.next ((Below.refl _ w2).alloc (Nat.le_refl _) _),Nat.le_trans (Nat.le_refl _) (HR.out.flds k HKK.out).2⟩,HB2.out.size,HB2.out.alloc HB2.out.size _⟩
   ·go_simp
    refine hK.out _ _ (by first | exact hc2 | exact (Below.cell ((Below.refl _ w2).alloc (Nat.le_refl _) _) (Nat.lt_of_lt_of_le hlt0 HB2.out.size)).trans hc2) (fun hHeld=>?_)
    clear hK K
    try simp only [Act.put,List.setIfInBounds_toArray,List.set_cons_zero,List.set_cons_succ]
    refine wpAnyH_ready (rs:=[4]) (by kernel_rfl) (by simp) ?_
    refine AllReadyH.cons (ata (atS (atS (atS (atS at0))))) (fun K hK=>?_) AllReadyH.nil
    go_simp
    refine hK.out _ _ (by first | exact hc2 | exact (Below.cell ((Below.refl _ w2).alloc (Nat.le_refl _) _) (Nat.lt_of_lt_of_le hlt0 HB2.out.size)).trans hc2) (fun hHeld=>?_)
    clear hK K
    try simp only [Act.put,List.setIfInBounds_toArray,List.set_cons_zero,List.set_cons_succ]
    refine wpAnyH_take (i:=5) (v:=?_) (ata (atS (atS (atS (atS (atS at0)))))) (by kernel_rfl) (by kernel_rfl) (by kernel_rfl) (fun _ _ _ h=>h) (Or.inl ⟨by rfl,?_⟩) (by assumption) ?_
    rotate_left
    ·(intro w hSw;(try dsimp only at hSw);go_simp;(first | done | with_reducible rfl))
    try simp only [Act.put,List.setIfInBounds_toArray,List.set_cons_zero,List.set_cons_succ]
    refine wpAnyH_take (i:=6) (v:=?_) (ata (atS (atS (atS (atS (atS (atS at0))))))) (by kernel_rfl) (by kernel_rfl) (by kernel_rfl) (fun _ _ _ h=>h) (Or.inl ⟨by rfl,?_⟩) (by assumption) ?_
    rotate_left
    ·(intro w hSw;(try dsimp only at hSw);go_simp;(first | done | with_reducible rfl))
    try simp only [Act.put,List.setIfInBounds_toArray,List.set_cons_zero,List.set_cons_succ]
    refine wpAnyH_take (i:=7) (v:=?_) (ata (atS (atS (atS (atS (atS (atS (atS at0)))))))) (by kernel_rfl) (by kernel_rfl) (by kernel_rfl) (fun _ _ _ h=>h) (Or.inl ⟨by rfl,?_⟩) (by assumption) ?_
    rotate_left
    ·(intro w hSw;(try dsimp only at hSw);go_simp;(first | done | with_reducible rfl))
    try simp only [Act.put,List.setIfInBounds_toArray,List.set_cons_zero,List.set_cons_succ]
    refine wpAnyH_ready (rs:=[9]) (by kernel_rfl) (by simp) ?_
    refine AllReadyH.cons (ata (atS (atS (atS (atS (atS (atS (atS (atS (atS at0)))))))))) (fun K hK=>?_) AllReadyH.nil
    go_simp
    refine hK.out _ _ (by first | exact hc2 | exact (Below.cell ((Below.refl _ w2).alloc (Nat.le_refl _) _) (Nat.lt_of_lt_of_le hlt0 HB2.out.size)).trans hc2) (fun hHeld=>?_)
    clear hK K
    try simp only [Act.put,List.setIfInBounds_toArray,List.set_cons_zero,List.set_cons_succ]
    refine wpAnyH_take (i:=10) (v:=?_) (ata (atS (atS (atS (atS (atS (atS (atS (atS (atS (atS at0))))))))))) (by kernel_rfl) (by kernel_rfl) (by kernel_rfl) (fun _ _ _ h=>h) (Or.inl ⟨by rfl,?_⟩) (by assumption) ?_
    rotate_left
    ·(intro w hSw;(try dsimp only at hSw);go_simp;(first | done | with_reducible rfl))
    try simp only [Act.put,List.setIfInBounds_toArray,List.set_cons_zero,List.set_cons_succ]
    refine wpAnyH_done (by kernel_rfl) ?_ _
    go_wp2
    go_meet
    case rel=>exact ⟨w2.heap.size,_,rfl,rfl,BoxA.new _ _ _,⟨ra k,by rw [HN.out],(HR.out.flds k HKK.out).1.next ((Below.refl _ w2).alloc (Nat.le_refl _) _),Nat.le_trans (Nat.le_refl _) (HR.out.flds k HKK.out).2⟩,HB2.out.size,HB2.out.alloc HB2.out.size _⟩
  ·go_simp
   refine hK.out _ _ (by exact (Below.cell ((Below.refl _ w1).alloc (Nat.le_refl _) _) hlt0).trans hc1) (fun hHeld=>?_)
   clear hK K
   try simp only [Act.put,List.setIfInBounds_toArray,List.set_cons_zero,List.set_cons_succ]
   obtain ⟨ya,hya⟩:∃ y,World.drew (World.alloc w1 (.cells #[.int .u8 0,.slice none 0 0] 161))=y:=⟨_,rfl⟩
   rw [hya]
   have HYA:Hid (Below w1.heap.size w1 ya):=by show Below _ _ _;rw [←hya];exact ((Below.refl _ w1).alloc (Nat.le_refl _) _).drew
   have HX:Hid (BoxA ya w1.heap.size 161 #[.int .u8 0,.slice none 0 0]):=by show BoxA _ _ _ _;rw [←hya];exact (BoxA.new w1 _ _).drew
   clear hya
   refine wpAnyH_ready (rs:=[0]) (by kernel_rfl) (by simp) ?_
   refine AllReadyH.cons (ata at0) (fun K hK=>?_) AllReadyH.nil
   go_simp
   (go_at_call 124;refine (rows_any _).mono ?_;rintro e w2 ⟨rb,RL,ra,rfl,hr,hb2⟩;have hc2:w2.cell? ⟨w0.heap.size,1,none⟩=some (.string (str v)):=(Below.cell hb2 (Nat.lt_of_lt_of_le hlt0 HYA.out.size)).trans ((Below.cell HYA.out hlt0).trans hc1);have hx2:=HX.out.next hb2;have x0:w2.cell? ⟨w1.heap.size,0,none⟩=some (.int .u8 0):=BoxA.cell hx2 0 _ rfl;have x1:w2.cell? ⟨w1.heap.size,1,none⟩=some (.slice none 0 0):=BoxA.cell hx2 1 _ rfl;have y0:=BoxA.free hx2 0;have y1:=BoxA.free hx2 1;have hlk:=hr.m.look_ok Tryz.underlying158 (zeroR w2) HVL.out;rw [hr.get,HK.out,Option.map_some,Option.getD_some,Option.isSome_some] at hlk;unfold rowV at hlk;rw [HN.out] at hlk;have HX2:=Lib.hid hx2;have HR:=Lib.hid hr;have HB2:=Lib.hid (HYA.out.trans (hb2.mono HYA.out.size));have HYR:=Lib.hid HYA.out.size;clear hr hb2 hx2)
   go_wp2_with fail
   refine hK.out _ _ (by exact hc2) (fun hHeld=>?_)
   clear hK K
   try simp only [Act.put,List.setIfInBounds_toArray,List.set_cons_zero,List.set_cons_succ]
   refine wpAnyH_ready (rs:=[4]) (by kernel_rfl) (by simp) ?_
   refine AllReadyH.cons (ata (atS (atS (atS (atS at0))))) (fun K hK=>?_) AllReadyH.nil
   go_simp
   refine hK.out _ _ (by exact hc2) (fun hHeld=>?_)
   clear hK K
   try simp only [Act.put,List.setIfInBounds_toArray,List.set_cons_zero,List.set_cons_succ]
   refine wpAnyH_take (i:=5) (v:=?_) (ata (atS (atS (atS (atS (atS at0)))))) (by kernel_rfl) (by kernel_rfl) (by kernel_rfl) (fun _ _ _ h=>h) (Or.inl ⟨by rfl,?_⟩) (by assumption) ?_
   rotate_left
   ·(intro w hSw;(try dsimp only at hSw);go_simp;(first | done | with_reducible rfl))
   try simp only [Act.put,List.setIfInBounds_toArray,List.set_cons_zero,List.set_cons_succ]
   refine wpAnyH_take (i:=6) (v:=?_) (ata (atS (atS (atS (atS (atS (atS at0))))))) (by kernel_rfl) (by kernel_rfl) (by kernel_rfl) (fun _ _ _ h=>h) (Or.inl ⟨by rfl,?_⟩) (by assumption) ?_
   rotate_left
   ·(intro w hSw;(try dsimp only at hSw);go_simp;(first | done | with_reducible rfl))
   try simp only [Act.put,List.setIfInBounds_toArray,List.set_cons_zero,List.set_cons_succ]
   refine wpAnyH_take (i:=7) (v:=?_) (ata (atS (atS (atS (atS (atS (atS (atS at0)))))))) (by kernel_rfl) (by kernel_rfl) (by kernel_rfl) (fun _ _ _ h=>h) (Or.inl ⟨by rfl,?_⟩) (by assumption) ?_
   rotate_left
   ·(intro w hSw;(try dsimp only at hSw);go_simp;(first | done | with_reducible rfl))
   try simp only [Act.put,List.setIfInBounds_toArray,List.set_cons_zero,List.set_cons_succ]
   refine wpAnyH_ready (rs:=[9]) (by kernel_rfl) (by simp) ?_
   refine AllReadyH.cons (ata (atS (atS (atS (atS (atS (atS (atS (atS (atS at0)))))))))) (fun K hK=>?_) AllReadyH.nil
   go_simp
   refine hK.out _ _ (by first | exact hc2 | (simp only [World.cell?_setCell_other _ _ _ _ hneX,World.cell?_setCell_other _ _ _ _ hneY];exact hc2)) (fun hHeld=>?_)
   clear hK K
   try simp only [Act.put,List.setIfInBounds_toArray,List.set_cons_zero,List.set_cons_succ]
   refine wpAnyH_take (i:=10) (v:=?_) (ata (atS (atS (atS (atS (atS (atS (atS (atS (atS (atS at0))))))))))) (by kernel_rfl) (by kernel_rfl) (by kernel_rfl) (fun _ _ _ h=>h) (Or.inl ⟨by rfl,?_⟩) (by assumption) ?_
   rotate_left
   ·(intro w hSw;(try dsimp only at hSw);go_simp;(first | done | with_reducible rfl))
   try simp only [Act.put,List.setIfInBounds_toArray,List.set_cons_zero,List.set_cons_succ]
   refine wpAnyH_done (by kernel_rfl) ?_ _
   go_wp2
   go_meet
   case rel=>exact ⟨w1.heap.size,_,rfl,rfl,(HX2.out.set 0 _).set 1 _,⟨ra k,by rw [HN.out];rfl,(((HR.out.flds k HKK.out).1.but (But.setCell (But.refl w1.heap.size w2) 0 _) (by have:=(HR.out.flds k HKK.out).2;have:=HX.out.lt;omega)).but (But.setCell (But.refl w1.heap.size _) 1 _) (by have:=(HR.out.flds k HKK.out).2;have:=HX.out.lt;omega)),Nat.le_trans HYR.out (HR.out.flds k HKK.out).2⟩,Nat.le_refl _,HB2.out.grown ((But.setCell (But.refl w1.heap.size w2) 0 _).setCell 1 _) HB2.out.size (fun j hj=>by cases hj;exact Nat.le_refl _)⟩
 case rest =>
  obtain ⟨X,c,rfl,rfl,hX,hro,hXl,hbx⟩:=hcut
  obtain ⟨a,rfl,hfl,haw⟩:=hro
  rw [HN.out] at hX
  have x0:wc.cell? ⟨X,0,none⟩=some (.int .u8 (k:Nat)):=BoxA.cell hX 0 _ rfl
  have x1:wc.cell? ⟨X,1,none⟩=some (.slice (some ⟨a,0,none⟩) n n):=BoxA.cell hX 1 _ rfl
  have hXz:=hX.lt
  have HX:=Lib.hid hX
  have HFL:=Lib.hid hfl
  have HAW:=Lib.hid haw
  have HZ2:=Lib.hid (HZ1.out.next hbx)
  have HP2:=Lib.hid ((HP.out.drop 2).next hbx)
  obtain ⟨o,hpo,hsl⟩:=slice_two HP2.out HNW.out h3
  have HPO:=Lib.hid hpo
  clear hpo
  have HBX:=Lib.hid (HB.out.trans (hbx.mono HB.out.size))
  have h2nl:(2:Int)≤(nl:Int):=by omega
  have haz:a < wc.heap.size:=hfl.1
  have hpz:w0.heap.size < wc.heap.size:=HP2.out.1
  have hwz:w.heap.size < wc.heap.size:=HZ2.out.lt
  clear hX hfl haw hbx
  obtain ⟨wd,hwd⟩:∃ wd,wc.alloc (.cells #[.int .u8 (k:Nat),.string { data:=#[] },.string { data:=#[] },.int .i64 0,.bool false] 80)=wd:=⟨_,rfl⟩
  have hyd:Below wc.heap.size wc wd:=by rw [←hwd];exact (Below.refl _ _).alloc (Nat.le_refl _) _
  have hdd:DirB wd wc.heap.size (base k):=by rw [←hwd];exact BoxA.new _ _ _
  have HREAD:=Lib.hid (show ∀ W,Below wd.heap.size wd W→Calls Tryz.prog 137 #[.pointer (some ⟨wc.heap.size,0,none⟩),.slice (some ⟨a,0,none⟩) n n,.slice (some ⟨w0.heap.size,o,none⟩) (nl - 2) (nl - 2)] W (ReadT k wc.heap.size ws W) from fun W hW=>by
   have hW2:Below wc.heap.size wc W:=hyd.trans (hW.mono hyd.size)
   have h:=read_any w.heap.size k wc.heap.size a w0.heap.size o (nl - 2) HKK.out ws W (hdd.next hW) HBX.out.size (HLD.out.base.next (HBX.out.trans (hW2.mono HBX.out.size))) (HFL.out.next hW2) (by omega) (HPO.out.next hW2) (by omega) HLW.out (by have:=HNW.out;omega) (by have:=HNW.out;omega) (by omega)
   rw [HN.out,← HNW.out] at h
   exact h)
  have HYD:=Lib.hid hyd
  have HDD:=Lib.hid hdd
  have hdz:wc.heap.size < wd.heap.size:=by rw [←hwd];simp
  have HWD:=Lib.hid hwd
  clear hyd hdd hwd
  go_upto_region 8 with fail
  rw [HWD.out]
  have x1d:wd.cell? ⟨X,1,none⟩=some (.slice (some ⟨a,0,none⟩) n n):=(Below.cell HYD.out hXz).trans x1
  have x1e:wd.drew.cell? ⟨X,1,none⟩=some (.slice (some ⟨a,0,none⟩) n n):=x1d
  clear x0 x1
  have hne8:X≠wc.heap.size:=by omega
  obtain ⟨of,hof⟩:∃ of,fields? k ws=of:=⟨_,rfl⟩
  have HOF:=Lib.hid hof
  clear hof
  cases of with
  | none =>
   go_region_held3 (fun W=>W.cell? ⟨X,1,none⟩=some (.slice (some ⟨a,0,none⟩) n n)) (first | assumption | (exact x1d) | (exact x1e)) ((go_at_call 137;(with_reducible refine (HREAD.out _ (Below.refl _ _).drew).mono ?_);rintro e w5 ⟨d',rfl,hd5,hq5,hb5⟩;have x5:w5.cell? ⟨X,1,none⟩=some (.slice (some ⟨a,0,none⟩) n n):=hb5.cell x1e hne8;rw [HOF.out,Option.isSome_none];rw [HOF.out] at hq5;have HD5:=Lib.hid hd5;have HQ5:=Lib.hid hq5;have HB5:=Lib.hid hb5;clear hd5 hq5 hb5))
   have HBE:=Lib.hid (show Below w.heap.size w w5 from (HBX.out.trans (HYD.out.mono HBX.out.size)).trans (HB5.out.low HBX.out.size (Nat.le_trans HBX.out.size HYD.out.size) |> below_udrew))
   have hz5:ZB w w5:=BoxA.but ((HZ2.out.next HYD.out).drew) HB5.out (by omega)
   obtain ⟨z0,z1,z2,z3,z4⟩:=hz5.cells
   have f0:=BoxA.free hz5 0;have f1:=BoxA.free hz5 1;have f2:=BoxA.free hz5 2;have f3:=BoxA.free hz5 3;have f4:=BoxA.free hz5 4
   have HZ5:=Lib.hid hz5
   clear hz5
   have HE:=Lib.hid (lerr_none HL5.out (by rw [HLW2.out,HOF.out]))
   go_wp2
   exact parse_ret5 (d:=Dir.zero) HE.out.2 HE.out.1 rfl rfl HZ5.out HBE.out
  | some d =>
   go_region_held3 (fun W=>W.cell? ⟨X,1,none⟩=some (.slice (some ⟨a,0,none⟩) n n)) (first | assumption | (exact x1d) | (exact x1e)) ((go_at_call 137;(with_reducible refine (HREAD.out _ (Below.refl _ _).drew).mono ?_);rintro e w5 ⟨d',rfl,hd5,hq5,hb5⟩;have x5:w5.cell? ⟨X,1,none⟩=some (.slice (some ⟨a,0,none⟩) n n):=hb5.cell x1e hne8;rw [HOF.out,Option.isSome_some];rw [HOF.out] at hq5;have HD5:=Lib.hid hd5;have HQ5:=Lib.hid hq5;have HB5:=Lib.hid hb5;clear hd5 hq5 hb5))
   have HBE:=Lib.hid (show Below w.heap.size w w5 from (HBX.out.trans (HYD.out.mono HBX.out.size)).trans (HB5.out.low HBX.out.size (Nat.le_trans HBX.out.size HYD.out.size) |> below_udrew))
   have hz5:ZB w w5:=BoxA.but ((HZ2.out.next HYD.out).drew) HB5.out (by omega)
   obtain ⟨z0,z1,z2,z3,z4⟩:=hz5.cells
   have f0:=BoxA.free hz5 0;have f1:=BoxA.free hz5 1;have f2:=BoxA.free hz5 2;have f3:=BoxA.free hz5 3;have f4:=BoxA.free hz5 4
   have HZ5:=Lib.hid hz5
   clear hz5
   obtain rfl:=HQ5.out d rfl
   have HE:=Lib.hid (lerr_some HL5.out (by rw [HLW2.out,HOF.out]))
   obtain ⟨y0,y1,y2,y3,y4⟩:=HD5.out.cells
   go_wp2
   exact parse_ret5 (d:=d') HE.out.2 HE.out.1 rfl rfl HZ5.out HBE.out
theorem Parse_any (l:Tx) (hm:l.length≤9223372036854775807) (w:World) (hL:LaidD w):Calls Tryz.prog 110 #[.string (str l)] w (ParseT l w):=by
 by_cases h:500 < l.length
 ·exact parse_long l h hm w
 ·have hl:l.length≤500:=by omega
  cases hw:words l with
  | nil=>exact absurd hw (words_ne l)
  | cons b L =>
   cases L with
   | nil=>exact parse_short l hl (by rw [hw,List.length_cons,List.length_nil];decide) w hL
   | cons v ws =>
    by_cases hb:b=bbW
    ·cases hk:kind? v with
     | none=>exact parse_nokind l hl hw hb hk w hL
     | some k=>exact parse_kind l hl hw hb hk w hL
    ·exact parse_notbb l hl hw hb w hL
end Go.Proofs.YtekcjfdllclphaaGreatDoor.gn
end
