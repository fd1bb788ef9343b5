/- The document's Parse of a directive. (Written by gen_diU.py.) -/
import Derived.Test.YtekcjfdllclphaaGreatDoorMQbDiT
import Derived.Test.YtekcjfdllclphaaGreatDoorMQbDiJ
import Derived.Test.YtekcjfdllclphaaGreatDoorMQbGen
set_option linter.unusedVariables false
section
namespace Go.Proofs.YtekcjfdllclphaaGreatDoor.gn
open Go.RowKit
open Go.Proofs.YtekcjfdllclphaaGreatDoor.un
open Go.Proofs.YtekcjfdllclphaaGreatDoor.di
theorem byte_not {b c:UInt8} (h:b≠c):((b.toNat:Int) == (c.toNat:Int))=false:=by
 rw [beq_eq_false_iff_ne]
 intro e
 exact h (UInt8.toNat_inj.1 (by omega))
theorem dstep_size {k:Nat} {s:Dir × Bool} {key v:Tx} (h:key=szK k):dstep k s (key,v)=if (size? v).getD 0=0∨0 < s.1.size then none else some ({ s.1 with size:=(((size? v).getD 0:Nat):Int) },s.2):=by
 unfold dstep
 rw [if_pos h]
theorem dstep_name {k:Nat} {s:Dir × Bool} {key v:Tx} (h:key=nameK):dstep k s (key,v)=if s.1.name≠[]∨isName v=false then none else some ({ s.1 with name:=v },s.2):=by
 obtain ⟨h1,h2,h3⟩:=sz_ne k
 unfold dstep
 rw [if_neg (fun e=>h1 (e.symm.trans h)),if_pos h]
theorem dstep_pool {k:Nat} {s:Dir × Bool} {key v:Tx} (h:key=poolK):dstep k s (key,v)=if s.1.pool≠[]∨isName v=false then none else some ({ s.1 with pool:=v },s.2):=by
 obtain ⟨h1,h2,h3⟩:=sz_ne k
 unfold dstep
 rw [if_neg (fun e=>h2 (e.symm.trans h)),if_neg (show ¬ key=nameK by rw [h];decide),if_pos h]
theorem dstep_acc {k:Nat} {s:Dir × Bool} {key v:Tx} (h:key=accK) (h4:k=4):dstep k s (key,v)=if s.2=true∨(v≠pubV∧v≠priV) then none else some ({ s.1 with opn:=v == pubV },true):=by
 obtain ⟨h1,h2,h3⟩:=sz_ne k
 unfold dstep
 rw [if_neg (fun e=>h3 (e.symm.trans h)),if_neg (show ¬ key=nameK by rw [h];decide),if_neg (show ¬ key=poolK by rw [h];decide),if_pos ⟨h,h4⟩]
theorem dstep_none {k:Nat} {s:Dir × Bool} {key v:Tx} (h:key≠szK k) (h1:key≠nameK) (h2:key≠poolK) (h3:¬ (key=accK∧k=4)):dstep k s (key,v)=none:=by
 unfold dstep
 rw [if_neg h,if_neg h1,if_neg h2,if_neg h3]
theorem dparse_ret {l:Tx} {w W:World} {tmps:Array Value} {d:Dir} {e:Int} (hd:ldir l=d) (he:lerr l=e) (h2:tmps.getD 2 undef=.pointer (some ⟨w.heap.size,0,none⟩)) (h3:tmps.getD 3 undef=.int .i64 e) (hb:BoxA W w.heap.size 80 (dcs d)) (hB:Below w.heap.size w W) :
  bodyPost Tryz.prog Tryz.f42 (ParseT l w) Exit.ret ⟨tmps,[]⟩ W:=by
 refine bodyPost_ret (v:=.tuple #[dV d,.int .i64 e]) ?_ rfl ⟨by rw [hd,he],hB⟩
 rw [results_two rfl tmps W _ _ _ _ _ h2 hb Tryz.underlying80 rfl (by kernel_rfl),h3]
 rfl
theorem dparse_ret5 {l:Tx} {w W:World} {tmps:Array Value} {d:Dir} {e:Int} (hd:ldir l=d) (he:lerr l=e) (h2:tmps.getD 2 undef=.pointer (some ⟨w.heap.size,0,none⟩)) (h3:tmps.getD 3 undef=.int .i64 e) (hz:ZB w W) (hB:Below w.heap.size w W) :
  bodyPost Tryz.prog Tryz.f42 (ParseT l w) Exit.ret ⟨tmps,[]⟩ (((((W.setCell ⟨w.heap.size,0,none⟩ (.int .u8 (d.kind:Nat))).setCell ⟨w.heap.size,1,none⟩ (.string (str d.name))).setCell ⟨w.heap.size,2,none⟩ (.string (str d.pool))).setCell ⟨w.heap.size,3,none⟩ (.int .i64 d.size)).setCell ⟨w.heap.size,4,none⟩ (.bool d.opn)):=by
 refine dparse_ret hd he h2 h3 ?_ ?_
 ·exact (((((show BoxA W w.heap.size _ _ from hz).set 0 _).set 1 _).set 2 _).set 3 _).set 4 _
 ·refine hB.grown (((((But.refl w.heap.size W).setCell 0 _).setCell 1 _).setCell 2 _).setCell 3 _ |>.setCell 4 _) hB.size (fun j hj=>by cases hj;exact Nat.le_refl _)
set_option maxRecDepth 100000 in
theorem dparse_long (l:Tx) (hl:500 < l.length) (hm:l.length≤100000) (w:World):Calls Tryz.prog 42 #[.string (str l)] w (ParseT l w):=by
 have hz:=str_size l
 have hz0:500 < (str l).size:=by omega
 have hz1:(str l).size≤100000:=by omega
 have HE:=Lib.hid (lerr_long hl)
 clear hl hm hz
 go_enter Tryz.func42,Tryz.ntmps42
 go_wp2
 refine dparse_ret HE.out.2 HE.out.1 rfl rfl ?_ ?_
 ·exact BoxA.new _ _ _
 ·exact (Below.refl _ _).alloc (Nat.le_refl _) _
set_option maxRecDepth 100000 in
set_option maxHeartbeats 1600000 in
theorem dparse_short (l:Tx) (hl:l.length≤500) (h2:(words l).length < 2) (w:World):Calls Tryz.prog 42 #[.string (str l)] w (ParseT l w):=by
 have HE:=Lib.hid (lerr_none hl (line_short h2))
 have hz:=str_size l
 have hz0:(str l).size≤500:=by omega
 obtain ⟨w0,hw0⟩:∃ w0,w0=w.alloc (.cells #[.int .u8 0,.string { data:=#[] },.string { data:=#[] },.int .i64 0,.bool false] 80):=⟨_,rfl⟩
 have hb0:Below w.heap.size w w0:=by rw [hw0];exact (Below.refl _ _).alloc (Nat.le_refl _) _
 have hZ:ZB w w0:=by rw [hw0];exact BoxA.new _ _ _
 have HS:=Lib.hid (Words_any l (by omega) w0)
 have HZ:=Lib.hid hZ
 have HB0:=Lib.hid hb0
 obtain ⟨nl,hnl⟩:∃ nl,(words l).length=nl:=⟨_,rfl⟩
 have h4:nl≤501:=by rw [←hnl];exact Nat.le_trans (words_len l) (by omega)
 have HNL:=Lib.hid hnl
 have H0:=Lib.hid hw0
 rw [hnl] at h2
 clear hl hz hZ hb0 hw0 hnl
 go_enter Tryz.func42,Tryz.ntmps42
 go_wp2_with (go_at_call 74;rw [←H0.out];refine HS.out.mono ?_;rintro e w1 ⟨vv,rfl,⟨g,cap,rfl,hp,hcap,hB⟩,hb⟩;rw [HNL.out] at hcap ⊢;have hz1:=HZ.out.next hb;obtain ⟨z0,z1,z2,z3,z4⟩:=hz1.cells;have f0:=BoxA.free hz1 0;have f1:=BoxA.free hz1 1;have f2:=BoxA.free hz1 2;have f3:=BoxA.free hz1 3;have f4:=BoxA.free hz1 4;have HZ1:=Lib.hid hz1;have HB:=Lib.hid hb;have HPR:=Lib.hid hp;have hgl:=hp.1;skip;clear hp hb hz1)
 exact dparse_ret5 (d:=Dir.zero) HE.out.2 HE.out.1 rfl rfl HZ1.out (HB0.out.trans (HB.out.mono HB0.out.size))
set_option maxRecDepth 100000 in
set_option maxHeartbeats 1600000 in
theorem dparse_notbb (l:Tx) (hl:l.length≤500) {b v:Tx} {ws:List Tx} (h2:words l=b::v::ws) (hb:b≠bbW) (w:World):Calls Tryz.prog 42 #[.string (str l)] w (ParseT l w):=by
 have HE:=Lib.hid (lerr_none hl (show line? l=none by rw [line_two h2,if_neg hb]))
 have hz:=str_size l
 have hz0:(str l).size≤500:=by omega
 obtain ⟨w0,hw0⟩:∃ w0,w0=w.alloc (.cells #[.int .u8 0,.string { data:=#[] },.string { data:=#[] },.int .i64 0,.bool false] 80):=⟨_,rfl⟩
 have hb0:Below w.heap.size w w0:=by rw [hw0];exact (Below.refl _ _).alloc (Nat.le_refl _) _
 have hZ:ZB w w0:=by rw [hw0];exact BoxA.new _ _ _
 have HS:=Lib.hid (Words_any l (by omega) w0)
 have HZ:=Lib.hid hZ
 have HB0:=Lib.hid hb0
 obtain ⟨nl,hnl⟩:∃ nl,(words l).length=nl:=⟨_,rfl⟩
 have h4:nl≤501:=by rw [←hnl];exact Nat.le_trans (words_len l) (by omega)
 have HNL:=Lib.hid hnl
 have H0:=Lib.hid hw0
 have h3:2≤nl:=by rw [←hnl,h2];simp
 rw [h2] at HS HNL
 obtain ⟨q1,q2⟩:=lit_no hb
 unfold bbW at q1 q2
 clear hl hz hZ hb0 hw0 hnl h2 hb
 go_enter Tryz.func42,Tryz.ntmps42
 go_wp2_with (go_at_call 74;rw [←H0.out];refine HS.out.mono ?_;rintro e w1 ⟨vv,rfl,⟨g,cap,rfl,hp,hcap,hB⟩,hb⟩;rw [HNL.out] at hcap ⊢;have hz1:=HZ.out.next hb;obtain ⟨z0,z1,z2,z3,z4⟩:=hz1.cells;have f0:=BoxA.free hz1 0;have f1:=BoxA.free hz1 1;have f2:=BoxA.free hz1 2;have f3:=BoxA.free hz1 3;have f4:=BoxA.free hz1 4;have HZ1:=Lib.hid hz1;have HB:=Lib.hid hb;have HPR:=Lib.hid hp;have hgl:=hp.1;have hc0:w1.cell? ⟨g,0,none⟩=some (.string (str b)):=hp.2 0 b rfl;clear hp hb hz1)
 exact dparse_ret5 (d:=Dir.zero) HE.out.2 HE.out.1 rfl rfl HZ1.out (HB0.out.trans (HB.out.mono HB0.out.size))
def kkOf (q:Option Nat) (j:Nat):Nat:=match q with
 | some k=>if k < j then k else 0
 | none=>0
structure UK (w:World) (d:Dir) (b5 g:Nat) (L:List Tx) (W:World):Prop where
 p5:DirB W b5 d
 z:ZB w W
 ps:Prts W g 0 L
 b:Below w.heap.size w W
theorem UK.next {w W W':World} {d:Dir} {b5 g:Nat} {L:List Tx} (h:UK w d b5 g L W) (hb:Below W.heap.size W W'):UK w d b5 g L W':=⟨h.p5.next hb,h.z.next hb,h.ps.next hb,h.b.trans (hb.mono h.b.size)⟩
theorem UK.drewN {w W:World} {d:Dir} {b5 g:Nat} {L:List Tx} (h:UK w d b5 g L W) (n:Nat):UK w d b5 g L (W.drewN n):=h.next ⟨rfl,rfl,rfl,Nat.le_refl _,fun _ _=>rfl⟩
theorem UK.set {w W W':World} {d d':Dir} {b5 g:Nat} {L:List Tx} (h:UK w d b5 g L W) (hd:DirB W' b5 d') (hb:But b5 W W') (h1:w.heap.size < b5) (h2:g≠b5):UK w d' b5 g L W' :=
 ⟨hd,BoxA.but h.z hb (by omega),h.ps.but hb h2,h.b.grown hb h.b.size (fun j hj=>by cases hj;omega)⟩
theorem UK.kind {w W:World} {d:Dir} {b5 g:Nat} {L:List Tx} (h:UK w d b5 g L W) (k:Nat) (h1:w.heap.size < b5) (h2:g≠b5):UK w { d with kind:=k } b5 g L (W.setCell ⟨b5,0,none⟩ (.int .u8 (k:Nat))) :=
 h.set (BoxA.set h.p5 0 _) ((But.refl _ _).setCell _ _) h1 h2
theorem UK.name {w W:World} {d:Dir} {b5 g:Nat} {L:List Tx} (h:UK w d b5 g L W) (v:Tx) (h1:w.heap.size < b5) (h2:g≠b5):UK w { d with name:=v } b5 g L (W.setCell ⟨b5,1,none⟩ (.string (str v))) :=
 h.set (h.p5.name v) ((But.refl _ _).setCell _ _) h1 h2
theorem UK.pool {w W:World} {d:Dir} {b5 g:Nat} {L:List Tx} (h:UK w d b5 g L W) (v:Tx) (h1:w.heap.size < b5) (h2:g≠b5):UK w { d with pool:=v } b5 g L (W.setCell ⟨b5,2,none⟩ (.string (str v))) :=
 h.set (h.p5.pool v) ((But.refl _ _).setCell _ _) h1 h2
theorem UK.size {w W:World} {d:Dir} {b5 g:Nat} {L:List Tx} (h:UK w d b5 g L W) (n:Int) (h1:w.heap.size < b5) (h2:g≠b5):UK w { d with size:=n } b5 g L (W.setCell ⟨b5,3,none⟩ (.int .i64 n)) :=
 h.set (h.p5.size n) ((But.refl _ _).setCell _ _) h1 h2
theorem UK.opn {w W:World} {d:Dir} {b5 g:Nat} {L:List Tx} (h:UK w d b5 g L W) (x:Bool) (h1:w.heap.size < b5) (h2:g≠b5):UK w { d with opn:=x } b5 g L (W.setCell ⟨b5,4,none⟩ (.bool x)) :=
 h.set (h.p5.opn x) ((But.refl _ _).setCell _ _) h1 h2
set_option maxRecDepth 100000 in
set_option maxHeartbeats 64000000 in
theorem dparse_words (l:Tx) (hl:l.length≤500) {b v:Tx} {ws:List Tx} (h2:words l=b::v::ws) (hb:b=bbW) (q:Option Nat) (hq:kind? v=q) (w:World):Calls Tryz.prog 42 #[.string (str l)] w (ParseT l w):=by
 have hz:=str_size l
 have hz0:(str l).size≤500:=by omega
 obtain ⟨w0,hw0⟩:∃ w0,w0=w.alloc (.cells #[.int .u8 0,.string { data:=#[] },.string { data:=#[] },.int .i64 0,.bool false] 80):=⟨_,rfl⟩
 have hb0:Below w.heap.size w w0:=by rw [hw0];exact (Below.refl _ _).alloc (Nat.le_refl _) _
 have hZ:ZB w w0:=by rw [hw0];exact BoxA.new _ _ _
 have HS:=Lib.hid (Words_any l (by omega) w0)
 have HZ:=Lib.hid hZ
 have HB0:=Lib.hid hb0
 obtain ⟨nl,hnl⟩:∃ nl,(words l).length=nl:=⟨_,rfl⟩
 have h4:nl≤501:=by rw [←hnl];exact Nat.le_trans (words_len l) (by omega)
 have HNL:=Lib.hid hnl
 have H0:=Lib.hid hw0
 have h3:2≤nl:=by rw [←hnl,h2];simp
 obtain ⟨n,hn⟩:∃ n,ws.length=n:=⟨_,rfl⟩
 have hn2:nl=n+2:=by rw [←hnl,h2,← hn];rfl
 subst hn2
 rw [h2] at HS HNL
 have HN:=Lib.hid hn
 have HLN:=Lib.hid (show (∀ k,q=some k→line? l=fields? k ws)∧(q=none→line? l=none) from ⟨fun k e=>by rw [line_two h2,if_pos hb,hq,e],fun e=>by rw [line_two h2,if_pos hb,hq,e]⟩)
 have HKW:=Lib.hid (show ∀ j,1≤j∧j≤6→((kw j=v)↔q=some j) from fun j hj=>⟨fun e=>by rw [←hq,← e];exact kind_kw hj,fun e=>(kind_some (hq.trans e)).1.symm⟩)
 have HQ:=Lib.hid (show ∀ k,q=some k→1≤k∧k≤6 from fun k e=>(kind_some (hq.trans e)).2)
 have HWL:=Lib.hid (show ∀ x∈ws,x.length≤500 from fun x hx=>Nat.le_trans (words_mem_len l x (by rw [h2];exact List.mem_cons_of_mem _ (List.mem_cons_of_mem _ hx))) hl)
 have HL:=Lib.hid hl
 obtain ⟨q1,q2⟩:=lit_yes hb
 unfold bbW at q1 q2
 clear hl hz hZ hb0 hw0 hnl h2 hb hq hn
 go_enter Tryz.func42,Tryz.ntmps42
 go_wp2_with (go_at_call 74;rw [←H0.out];refine HS.out.mono ?_;rintro e w1 ⟨vv,rfl,⟨g,cap,rfl,hp,hcap,hB⟩,hb⟩;rw [HNL.out] at hcap ⊢;have hz1:=HZ.out.next hb;obtain ⟨z0,z1,z2,z3,z4⟩:=hz1.cells;have f0:=BoxA.free hz1 0;have f1:=BoxA.free hz1 1;have f2:=BoxA.free hz1 2;have f3:=BoxA.free hz1 3;have f4:=BoxA.free hz1 4;have HZ1:=Lib.hid hz1;have HB:=Lib.hid hb;have HPR:=Lib.hid hp;have hgl:=hp.1;have hc0:w1.cell? ⟨g,0,none⟩=some (.string (str b)):=hp.2 0 b rfl;clear hp hb hz1)
 have hbA:Below w1.heap.size w1 (w1.alloc (.cells #[.int .u8 0,.string { data:=#[] },.string { data:=#[] },.int .i64 0,.bool false] 80)):=(Below.refl _ _).alloc (Nat.le_refl _) _
 have HU:=Lib.hid (show UK w ⟨0,[],[],0,false⟩ w1.heap.size g (b::v::ws) (w1.alloc (.cells #[.int .u8 0,.string { data:=#[] },.string { data:=#[] },.int .i64 0,.bool false] 80)) from ⟨BoxA.new _ _ _,HZ1.out.next hbA,HPR.out.next hbA,(HB0.out.trans (HB.out.mono HB0.out.size)).trans (hbA.mono (Nat.le_trans HB0.out.size HB.out.size))⟩)
 have hi1:1 < n+2:=by omega
 have hi2:(1:Int) < (n:Int)+2:=by omega
 have hi3:(1:Int) < ((n+2:Nat):Int):=by omega
 have h15:w.heap.size < w1.heap.size:=HZ1.out.lt
 have hgn:¬ g=w1.heap.size:=by have:=HPR.out.1;omega
 have hgm:¬ w1.heap.size=g:=fun e=>hgn e.symm
 have hwn:¬ w.heap.size=w1.heap.size:=by omega
 have hwm:¬ w1.heap.size=w.heap.size:=by omega
 clear z0 z1 z2 z3 z4 f0 f1 f2 f3 f4 HZ1 HB HPR hgl hc0 hbA
 go_loopw [6] (fun s6 wr=>∃ j:Nat,s6=.int .u8 (j:Nat)∧1≤j∧j≤7∧Aside (UK w ⟨kkOf q j,[],[],0,false⟩ w1.heap.size g (b::v::ws) wr)) (fun s6 _=>7 - (intOf s6).toNat)
 case atStart=>exact ⟨1,rfl,Nat.le_refl _,by omega,(show kkOf q 1=0 by unfold kkOf;cases q with
  | none=>rfl
  | some k=>exact if_neg (by have:=HQ.out k rfl;omega)) ▸ HU.out⟩
 case round =>
  clear HU
  obtain ⟨j,rfl,hj1,hj7,hor⟩:=hrel
  have HR:=Lib.hid (show UK w ⟨kkOf q j,[],[],0,false⟩ w1.heap.size g (b::v::ws) wr from hor)
  clear hor
  by_cases hj:j≤6
  ·have HKJ:=Lib.hid (HKW.out j ⟨hj1,hj⟩)
   have HD:=Lib.hid (fun W=>dword_any j ⟨hj1,hj⟩ W)
   obtain ⟨kj,hkj⟩:∃ y,kw j=y:=⟨_,rfl⟩
   rw [hkj] at HKJ HD
   have y1:wr.cell? ⟨g,1,none⟩=some (.string (str v)):=HR.out.ps.2 1 v rfl
   have y1d:wr.drew.cell? ⟨g,1,none⟩=some (.string (str v)):=y1
   have hgl:=HR.out.ps.1
   have hbl:=HR.out.p5.lt
   have d0:wr.cell? ⟨w1.heap.size,0,none⟩=some (.int .u8 (kkOf q j:Nat)):=BoxA.cell HR.out.p5 0 _ rfl
   have fz:=BoxA.free HR.out.p5 0
   clear hkj
   by_cases hm:q=some j
   ·have qe:((str kj).toList == (str v).toList)=true:=by rw [eq_str];exact decide_eq_true (HKJ.out.2 hm)
    have HNX:=Lib.hid (show kkOf q (j+1)=j by rw [hm];exact if_pos (Nat.lt_succ_self _))
    clear hm HKJ
    have hjz:(j:Int)≤6:=by omega
    go_upto_region 10 with fail
    go_region_held3 (fun W=>W.cell? ⟨g,1,none⟩=some (.string (str v))) (first | exact y1 | exact y1d | exact u1) ((go_at_call 75;refine (HD.out _).mono ?_;rintro e w3 ⟨rfl,hb3⟩;have hb3:Below wr.heap.size wr w3:=below_udrew2 hb3;have u1:w3.cell? ⟨g,1,none⟩=some (.string (str v)):=(Below.cell hb3 hgl).trans y1;have HR3:=Lib.hid (HR.out.next hb3);have e0:=HR3.out.p5.cells.1;have fz3:=BoxA.free HR3.out.p5 0;have hbl3:=HR3.out.p5.lt;clear hb3))
    go_wp2
    go_roundw
    case rel=>exact ⟨j+1,by go_num,by omega,by omega,by rw [HNX.out];exact HR3.out.kind j h15 hgn⟩
    case measure=>simp [intOf];omega
   ·have qe:((str kj).toList == (str v).toList)=false:=by rw [eq_str];exact decide_eq_false fun e=>hm (HKJ.out.1 e)
    have HNX:=Lib.hid (show kkOf q (j+1)=kkOf q j by
     cases q with
     | none=>rfl
     | some k =>
      unfold kkOf
      dsimp only
      have:k≠j:=fun e=>hm (by rw [e])
      by_cases hkj:k < j
      ·rw [if_pos hkj,if_pos (by omega)]
      ·rw [if_neg hkj,if_neg (by omega)])
    clear hm HKJ
    have hjz:(j:Int)≤6:=by omega
    go_upto_region 10 with fail
    go_region_held3 (fun W=>W.cell? ⟨g,1,none⟩=some (.string (str v))) (first | exact y1 | exact y1d | exact u1) ((go_at_call 75;refine (HD.out _).mono ?_;rintro e w3 ⟨rfl,hb3⟩;have hb3:Below wr.heap.size wr w3:=below_udrew2 hb3;have u1:w3.cell? ⟨g,1,none⟩=some (.string (str v)):=(Below.cell hb3 hgl).trans y1;have HR3:=Lib.hid (HR.out.next hb3);have e0:=HR3.out.p5.cells.1;have fz3:=BoxA.free HR3.out.p5 0;have hbl3:=HR3.out.p5.lt;clear hb3))
    go_wp2
    go_roundw
    case rel=>exact ⟨j+1,by go_num,by omega,by omega,by rw [HNX.out];exact HR3.out⟩
    case measure=>simp [intOf];omega
  ·obtain rfl:j=7:=by omega
   have d0:wr.cell? ⟨w1.heap.size,0,none⟩=some (.int .u8 (kkOf q 7:Nat)):=BoxA.cell HR.out.p5 0 _ rfl
   have hbl:=HR.out.p5.lt
   cases q with
   | none =>
    have d0:wr.cell? ⟨w1.heap.size,0,none⟩=some (.int .u8 0):=d0
    have HE:=Lib.hid (lerr_none HL.out (HLN.out.2 rfl))
    obtain ⟨z0,z1,z2,z3,z4⟩:=HR.out.z.cells
    have f0:=BoxA.free HR.out.z 0;have f1:=BoxA.free HR.out.z 1;have f2:=BoxA.free HR.out.z 2;have f3:=BoxA.free HR.out.z 3;have f4:=BoxA.free HR.out.z 4
    go_wp2
    exact dparse_ret5 (d:=Dir.zero) HE.out.2 HE.out.1 rfl rfl HR.out.z HR.out.b
   | some k =>
    obtain ⟨k1,k6⟩:=HQ.out k rfl
    have HFL:=Lib.hid (HLN.out.1 k rfl)
    have hkk:kkOf (some k) 7=k:=if_pos (by omega)
    rw [hkk] at d0
    have HR2:=Lib.hid (show UK w ⟨k,[],[],0,false⟩ w1.heap.size g (b::v::ws) wr by have:=HR.out;rwa [hkk] at this)
    clear HR hkk HQ HLN HKW
    have hk0:((k:Int) == 0)=false:=by rw [beq_eq_false_iff_ne];omega
    obtain ⟨pl,hpl⟩:∃ y,hasPool k=y:=⟨_,rfl⟩
    have HK:=Lib.hid (fun W=>dasks_any k ⟨k1,k6⟩ W)
    rw [hpl] at HK
    go_wp2_with (go_at_call 76;refine (HK.out _).mono ?_;rintro e w2 ⟨rfl,rfl⟩)
    have hpz:szK k=if pl=true then capK else sizeK:=by unfold szK;rw [hpl]
    obtain ⟨ans,hans⟩:∃ ans,drun k (⟨k,[],[],0,false⟩,false) ws=ans:=⟨_,rfl⟩
    have hfe:=fields_eq ⟨k1,k6⟩ ws
    rw [hans,← HFL.out] at hfe
    have HA1:=Lib.hid (show ans=none→lerr l=140∧ldir l=Dir.zero from fun e=>lerr_none HL.out (by rw [e] at hfe;exact hfe.symm))
    have HA2:=Lib.hid (show ∀ s,ans=some s→chk s.1=true→lerr l=0∧ldir l=s.1 from fun s e hc=>lerr_some HL.out (by rw [e] at hfe;dsimp only at hfe;rw [if_pos hc] at hfe;exact hfe.symm))
    have HA3:=Lib.hid (show ∀ s,ans=some s→¬ chk s.1=true→lerr l=140∧ldir l=Dir.zero from fun s e hc=>lerr_none HL.out (by rw [e] at hfe;dsimp only at hfe;rw [if_neg hc] at hfe;exact hfe.symm))
    have HPZ:=Lib.hid hpz
    have HAN:=Lib.hid hans
    clear hfe hpz hpl hans d0 hk0 hbl HFL
    go_loopw [10,11] (fun s10 s11 wr=>∃ (i:Nat) (s:Dir × Bool),s10=.bool s.2∧s11=.int .i64 ((i+2:Nat):Int)∧i≤n∧Aside (UK w s.1 w1.heap.size g (b::v::ws) wr)∧Aside (drun k s (ws.drop i)=ans)∧Aside (s.1.kind=k∧s.1.name.length≤500∧s.1.pool.length≤500∧0≤s.1.size∧s.1.size≤1099511627776)) (fun _ s11 _=>n+2 - (intOf s11).toNat)
    case atStart=>exact ⟨0,(⟨k,[],[],0,false⟩,false),rfl,rfl,Nat.zero_le _,HR2.out,HAN.out,rfl,Nat.zero_le _,Nat.zero_le _,Int.le_refl _,by show (0:Int)≤1099511627776;decide⟩
    case round =>
     clear HR2 HAN
     obtain ⟨i,⟨d,ac⟩,rfl,rfl,hi,hor,har,hbd⟩:=hrel
     have HR:=Lib.hid (show UK w d w1.heap.size g (b::v::ws) wr from hor)
     have HAR:=Lib.hid (show drun k (d,ac) (ws.drop i)=ans from har)
     have HBD:=Lib.hid (show d.kind=k∧d.name.length≤500∧d.pool.length≤500∧0≤d.size∧d.size≤1099511627776 from hbd)
     have hdk:d.kind=k:=HBD.out.1
     dsimp only
     clear hor har hbd
     have d0:wr.cell? ⟨w1.heap.size,0,none⟩=some (.int .u8 (k:Nat)):=hdk ▸ HR.out.p5.cells.1
     have d1:wr.cell? ⟨w1.heap.size,1,none⟩=some (.string (str d.name)):=HR.out.p5.cells.2.1
     have d2:wr.cell? ⟨w1.heap.size,2,none⟩=some (.string (str d.pool)):=HR.out.p5.cells.2.2.1
     have d3:wr.cell? ⟨w1.heap.size,3,none⟩=some (.int .i64 d.size):=HR.out.p5.cells.2.2.2.1
     have d4:wr.cell? ⟨w1.heap.size,4,none⟩=some (.bool d.opn):=HR.out.p5.cells.2.2.2.2
     have hbl:=HR.out.p5.lt
     have hgl:=HR.out.ps.1
     have hwl:w.heap.size < wr.heap.size:=BoxA.lt HR.out.z
     clear hdk
     by_cases hin:i < n
     ·have hil:i < ws.length:=by rw [HN.out];exact hin
      obtain ⟨x,hx⟩:∃ x,ws[i]?=some x:=⟨_,List.getElem?_eq_getElem hil⟩
      have c2:wr.cell? ⟨g,0+(i+2),none⟩=some (.string (str x)):=HR.out.ps.2 (i+2) x hx
      rw [Nat.zero_add] at c2
      have hx500:x.length≤500:=HWL.out x (List.mem_of_getElem? hx)
      have HDC:=Lib.hid (show drun k (d,ac) (x::ws.drop (i+1))=ans by
       rw [←HAR.out]
       obtain ⟨_,rfl⟩:=List.getElem?_eq_some_iff.1 hx
       rw [←List.drop_eq_getElem_cons hil])
      have HXZ:=Lib.hid (str_size x)
      have zx:(str x).size≤500:=by rw [str_size];exact hx500
      have hin2:i+2 < n+2:=by omega
      clear hx hil HAR
      go_wp2
      go_loop [12] (fun s12=>∃ j:Nat,s12=.int .i64 (j:Nat)∧j≤(str x).size∧Aside ((61:UInt8) ∉ x.take j)) (fun s12=>(str x).size - (intOf s12).toNat)
      case atStart=>exact ⟨0,rfl,Nat.zero_le _,by rw [List.take_zero];exact List.not_mem_nil⟩
      case round =>
       obtain ⟨j,rfl,hj,hnm⟩:=hrel
       have HNM:=Lib.hid (show (61:UInt8) ∉ x.take j from hnm)
       clear hnm
       by_cases h1:j < (str x).size
       ·have hjl:j < x.length:=by rw [←HXZ.out];exact h1
        have hge:=str_at x j h1
        by_cases hb:x[j]=61
        ·have q5:((((str x)[j]'h1).toNat:Int) == 61)=true:=by rw [hge,hb];rfl
         have hdec:x=x.take j++61::x.drop (j+1):=by rw [←hb,← List.drop_eq_getElem_cons hjl,List.take_append_drop]
         have hcut:cut x=some (x.take j,x.drop (j+1)):=by
          have:=cut_at (x.take j) (x.drop (j+1)) HNM.out
          rwa [←hdec] at this
         have hkl:(x.take j).length≤500:=by rw [List.length_take];omega
         have hvl:(x.drop (j+1)).length≤500:=by rw [List.length_drop];omega
         have s1:=sl_upto x (j:Int) j rfl (by omega)
         have s2:=sl_from x ((j:Int)+1) (j+1) (by omega) (by omega)
         obtain ⟨key,hkey⟩:∃ y,x.take j=y:=⟨_,rfl⟩
         obtain ⟨val,hval⟩:∃ y,x.drop (j+1)=y:=⟨_,rfl⟩
         rw [hkey,hval] at hcut
         rw [hkey] at s1 hkl
         rw [hval] at s2 hvl
         have HD2:=Lib.hid (show (match dstep k (d,ac) (key,val) with | none=>none | some s'=>drun k s' (ws.drop (i+1)))=ans by have:=HDC.out;unfold drun at this;rw [hcut] at this;exact this)
         have HVL:=Lib.hid hvl
         have zk:(str key).size≤500:=by rw [str_size];exact hkl
         have zv:(str val).size≤500:=by rw [str_size];exact hvl
         clear hcut hdec hkey hval hge hb hkl hvl HNM HDC hjl
         go_upto_region 24 with fail
         go_quiet (fail)
         by_cases e_capK:key=capK
         ·cases pl with
          | true =>
           have hks:key=szK k:=by rw [HPZ.out];exact e_capK
           obtain ⟨qc,rc⟩:=lit_yes e_capK
           unfold capK at qc rc
           obtain ⟨qs,rs⟩:=lit_no (show ¬ key=sizeK by rw [e_capK];decide)
           unfold sizeK at qs rs
           obtain ⟨qn,rn⟩:=lit_no (show ¬ key=nameK by rw [e_capK];decide)
           unfold nameK at qn rn
           obtain ⟨qo,ro⟩:=lit_no (show ¬ key=poolK by rw [e_capK];decide)
           unfold poolK at qo ro
           obtain ⟨qa,ra⟩:=lit_no (show ¬ key=accK by rw [e_capK];decide)
           unfold accK at qa ra
           clear e_capK
           have HKS:=Lib.hid hks
           have HSZ:=Lib.hid (fun W=>dsize_any val (Nat.le_trans HVL.out (by decide)) W)
           obtain ⟨sz,hsz⟩:∃ y,size? val=y:=⟨_,rfl⟩
           have HSE:=Lib.hid (show dstep k (d,ac) (key,val)=if sz.getD 0=0∨0 < d.size then none else some ({ d with size:=((sz.getD 0:Nat):Int) },ac) by rw [dstep_size HKS.out,hsz])
           have HTOP:=Lib.hid (show ∀ m,sz=some m→m≤1099511627776 from fun m e=>size_le (hsz.trans e))
           rw [hsz] at HSZ
           unfold Tnum at HSZ
           clear hsz hks HKS
           cases sz with
           | none =>
            rw [qv_none,qe_none] at HSZ
            have HE:=Lib.hid (HA1.out (by rw [←HD2.out,HSE.out,if_pos (.inl rfl)]))
            go_wp2_with (go_at_call 24;refine (HSZ.out _).mono ?_;rintro e w5 ⟨rfl,hb⟩;have HR5:=Lib.hid ((HR.out.drewN _).next hb);obtain ⟨z0,z1,z2,z3,z4⟩:=HR5.out.z.cells;have f0:=BoxA.free HR5.out.z 0;have f1:=BoxA.free HR5.out.z 1;have f2:=BoxA.free HR5.out.z 2;have f3:=BoxA.free HR5.out.z 3;have f4:=BoxA.free HR5.out.z 4;have y3:w5.cell? ⟨w1.heap.size,3,none⟩=some (.int .i64 d.size):=HR5.out.p5.cells.2.2.2.1;have fz:=BoxA.free HR5.out.p5 3;have hl5:=HR5.out.p5.lt;have hw5:w.heap.size < w5.heap.size:=BoxA.lt HR5.out.z;clear hb)
            exact dparse_ret5 (d:=Dir.zero) HE.out.2 HE.out.1 rfl rfl (HR5.out.size _ h15 hgn).z (HR5.out.size _ h15 hgn).b
           | some m =>
            rw [qv_some,qe_some] at HSZ
            have hmt:=HTOP.out m rfl
            by_cases hm:m=0
            ·have qm:((m:Int) == 0)=true:=by rw [beq_iff_eq];omega
             have HE:=Lib.hid (HA1.out (by rw [←HD2.out,HSE.out,if_pos (.inl hm)]))
             clear hm
             go_wp2_with (go_at_call 24;refine (HSZ.out _).mono ?_;rintro e w5 ⟨rfl,hb⟩;have HR5:=Lib.hid ((HR.out.drewN _).next hb);obtain ⟨z0,z1,z2,z3,z4⟩:=HR5.out.z.cells;have f0:=BoxA.free HR5.out.z 0;have f1:=BoxA.free HR5.out.z 1;have f2:=BoxA.free HR5.out.z 2;have f3:=BoxA.free HR5.out.z 3;have f4:=BoxA.free HR5.out.z 4;have y3:w5.cell? ⟨w1.heap.size,3,none⟩=some (.int .i64 d.size):=HR5.out.p5.cells.2.2.2.1;have fz:=BoxA.free HR5.out.p5 3;have hl5:=HR5.out.p5.lt;have hw5:w.heap.size < w5.heap.size:=BoxA.lt HR5.out.z;clear hb)
             exact dparse_ret5 (d:=Dir.zero) HE.out.2 HE.out.1 rfl rfl (HR5.out.size _ h15 hgn).z (HR5.out.size _ h15 hgn).b
            ·have qm:((m:Int) == 0)=false:=by rw [beq_eq_false_iff_ne];omega
             by_cases hd:0 < d.size
             ·have qd:decide (0 < d.size)=true:=decide_eq_true hd
              have HE:=Lib.hid (HA1.out (by rw [←HD2.out,HSE.out,if_pos (.inr hd)]))
              go_wp2_with (go_at_call 24;refine (HSZ.out _).mono ?_;rintro e w5 ⟨rfl,hb⟩;have HR5:=Lib.hid ((HR.out.drewN _).next hb);obtain ⟨z0,z1,z2,z3,z4⟩:=HR5.out.z.cells;have f0:=BoxA.free HR5.out.z 0;have f1:=BoxA.free HR5.out.z 1;have f2:=BoxA.free HR5.out.z 2;have f3:=BoxA.free HR5.out.z 3;have f4:=BoxA.free HR5.out.z 4;have y3:w5.cell? ⟨w1.heap.size,3,none⟩=some (.int .i64 d.size):=HR5.out.p5.cells.2.2.2.1;have fz:=BoxA.free HR5.out.p5 3;have hl5:=HR5.out.p5.lt;have hw5:w.heap.size < w5.heap.size:=BoxA.lt HR5.out.z;clear hb)
              exact dparse_ret5 (d:=Dir.zero) HE.out.2 HE.out.1 rfl rfl (HR5.out.size _ h15 hgn).z (HR5.out.size _ h15 hgn).b
             ·have qd:decide (0 < d.size)=false:=decide_eq_false hd
              have HSF:=Lib.hid (HSE.out.trans (if_neg (by rintro (h | h);exact hm h;exact hd h)))
              go_wp2_with (go_at_call 24;refine (HSZ.out _).mono ?_;rintro e w5 ⟨rfl,hb⟩;have HR5:=Lib.hid ((HR.out.drewN _).next hb);obtain ⟨z0,z1,z2,z3,z4⟩:=HR5.out.z.cells;have f0:=BoxA.free HR5.out.z 0;have f1:=BoxA.free HR5.out.z 1;have f2:=BoxA.free HR5.out.z 2;have f3:=BoxA.free HR5.out.z 3;have f4:=BoxA.free HR5.out.z 4;have y3:w5.cell? ⟨w1.heap.size,3,none⟩=some (.int .i64 d.size):=HR5.out.p5.cells.2.2.2.1;have fz:=BoxA.free HR5.out.p5 3;have hl5:=HR5.out.p5.lt;have hw5:w.heap.size < w5.heap.size:=BoxA.lt HR5.out.z;clear hb)
              go_roundw
              case rel=>exact ⟨i+1,({ d with size:=(m:Int) },ac),rfl,by go_num,by omega,HR5.out.size _ h15 hgn,by rw [←HD2.out,HSF.out];exact rfl,HBD.out.1,HBD.out.2.1,HBD.out.2.2.1,by show (0:Int)≤m;omega,by show (m:Int)≤1099511627776;omega⟩
              case measure=>simp [intOf];omega
          | false =>
           have HDN:=Lib.hid (show dstep k (d,ac) (key,val)=none from dstep_none (by rw [HPZ.out,e_capK];decide) (by rw [e_capK];decide) (by rw [e_capK];decide) (fun h=>by rw [e_capK] at h;exact absurd h.1 (by decide)))
           obtain ⟨qc,rc⟩:=lit_yes e_capK
           unfold capK at qc rc
           obtain ⟨qs,rs⟩:=lit_no (show ¬ key=sizeK by rw [e_capK];decide)
           unfold sizeK at qs rs
           obtain ⟨qn,rn⟩:=lit_no (show ¬ key=nameK by rw [e_capK];decide)
           unfold nameK at qn rn
           obtain ⟨qo,ro⟩:=lit_no (show ¬ key=poolK by rw [e_capK];decide)
           unfold poolK at qo ro
           obtain ⟨qa,ra⟩:=lit_no (show ¬ key=accK by rw [e_capK];decide)
           unfold accK at qa ra
           clear e_capK
           have HE:=Lib.hid (HA1.out (by rw [←HD2.out,HDN.out]))
           obtain ⟨z0,z1,z2,z3,z4⟩:=HR.out.z.cells
           have f0:=BoxA.free HR.out.z 0
           have f1:=BoxA.free HR.out.z 1
           have f2:=BoxA.free HR.out.z 2
           have f3:=BoxA.free HR.out.z 3
           have f4:=BoxA.free HR.out.z 4
           go_wp2
           exact dparse_ret5 (d:=Dir.zero) HE.out.2 HE.out.1 rfl rfl (HR.out.drewN _).z (HR.out.drewN _).b
         by_cases e_sizeK:key=sizeK
         ·cases pl with
          | false =>
           have hks:key=szK k:=by rw [HPZ.out];exact e_sizeK
           obtain ⟨qc,rc⟩:=lit_no (show ¬ key=capK by rw [e_sizeK];decide)
           unfold capK at qc rc
           obtain ⟨qs,rs⟩:=lit_yes e_sizeK
           unfold sizeK at qs rs
           obtain ⟨qn,rn⟩:=lit_no (show ¬ key=nameK by rw [e_sizeK];decide)
           unfold nameK at qn rn
           obtain ⟨qo,ro⟩:=lit_no (show ¬ key=poolK by rw [e_sizeK];decide)
           unfold poolK at qo ro
           obtain ⟨qa,ra⟩:=lit_no (show ¬ key=accK by rw [e_sizeK];decide)
           unfold accK at qa ra
           clear e_sizeK e_capK
           have HKS:=Lib.hid hks
           have HSZ:=Lib.hid (fun W=>dsize_any val (Nat.le_trans HVL.out (by decide)) W)
           obtain ⟨sz,hsz⟩:∃ y,size? val=y:=⟨_,rfl⟩
           have HSE:=Lib.hid (show dstep k (d,ac) (key,val)=if sz.getD 0=0∨0 < d.size then none else some ({ d with size:=((sz.getD 0:Nat):Int) },ac) by rw [dstep_size HKS.out,hsz])
           have HTOP:=Lib.hid (show ∀ m,sz=some m→m≤1099511627776 from fun m e=>size_le (hsz.trans e))
           rw [hsz] at HSZ
           unfold Tnum at HSZ
           clear hsz hks HKS
           cases sz with
           | none =>
            rw [qv_none,qe_none] at HSZ
            have HE:=Lib.hid (HA1.out (by rw [←HD2.out,HSE.out,if_pos (.inl rfl)]))
            go_wp2_with (go_at_call 24;refine (HSZ.out _).mono ?_;rintro e w5 ⟨rfl,hb⟩;have HR5:=Lib.hid ((HR.out.drewN _).next hb);obtain ⟨z0,z1,z2,z3,z4⟩:=HR5.out.z.cells;have f0:=BoxA.free HR5.out.z 0;have f1:=BoxA.free HR5.out.z 1;have f2:=BoxA.free HR5.out.z 2;have f3:=BoxA.free HR5.out.z 3;have f4:=BoxA.free HR5.out.z 4;have y3:w5.cell? ⟨w1.heap.size,3,none⟩=some (.int .i64 d.size):=HR5.out.p5.cells.2.2.2.1;have fz:=BoxA.free HR5.out.p5 3;have hl5:=HR5.out.p5.lt;have hw5:w.heap.size < w5.heap.size:=BoxA.lt HR5.out.z;clear hb)
            exact dparse_ret5 (d:=Dir.zero) HE.out.2 HE.out.1 rfl rfl (HR5.out.size _ h15 hgn).z (HR5.out.size _ h15 hgn).b
           | some m =>
            rw [qv_some,qe_some] at HSZ
            have hmt:=HTOP.out m rfl
            by_cases hm:m=0
            ·have qm:((m:Int) == 0)=true:=by rw [beq_iff_eq];omega
             have HE:=Lib.hid (HA1.out (by rw [←HD2.out,HSE.out,if_pos (.inl hm)]))
             clear hm
             go_wp2_with (go_at_call 24;refine (HSZ.out _).mono ?_;rintro e w5 ⟨rfl,hb⟩;have HR5:=Lib.hid ((HR.out.drewN _).next hb);obtain ⟨z0,z1,z2,z3,z4⟩:=HR5.out.z.cells;have f0:=BoxA.free HR5.out.z 0;have f1:=BoxA.free HR5.out.z 1;have f2:=BoxA.free HR5.out.z 2;have f3:=BoxA.free HR5.out.z 3;have f4:=BoxA.free HR5.out.z 4;have y3:w5.cell? ⟨w1.heap.size,3,none⟩=some (.int .i64 d.size):=HR5.out.p5.cells.2.2.2.1;have fz:=BoxA.free HR5.out.p5 3;have hl5:=HR5.out.p5.lt;have hw5:w.heap.size < w5.heap.size:=BoxA.lt HR5.out.z;clear hb)
             exact dparse_ret5 (d:=Dir.zero) HE.out.2 HE.out.1 rfl rfl (HR5.out.size _ h15 hgn).z (HR5.out.size _ h15 hgn).b
            ·have qm:((m:Int) == 0)=false:=by rw [beq_eq_false_iff_ne];omega
             by_cases hd:0 < d.size
             ·have qd:decide (0 < d.size)=true:=decide_eq_true hd
              have HE:=Lib.hid (HA1.out (by rw [←HD2.out,HSE.out,if_pos (.inr hd)]))
              go_wp2_with (go_at_call 24;refine (HSZ.out _).mono ?_;rintro e w5 ⟨rfl,hb⟩;have HR5:=Lib.hid ((HR.out.drewN _).next hb);obtain ⟨z0,z1,z2,z3,z4⟩:=HR5.out.z.cells;have f0:=BoxA.free HR5.out.z 0;have f1:=BoxA.free HR5.out.z 1;have f2:=BoxA.free HR5.out.z 2;have f3:=BoxA.free HR5.out.z 3;have f4:=BoxA.free HR5.out.z 4;have y3:w5.cell? ⟨w1.heap.size,3,none⟩=some (.int .i64 d.size):=HR5.out.p5.cells.2.2.2.1;have fz:=BoxA.free HR5.out.p5 3;have hl5:=HR5.out.p5.lt;have hw5:w.heap.size < w5.heap.size:=BoxA.lt HR5.out.z;clear hb)
              exact dparse_ret5 (d:=Dir.zero) HE.out.2 HE.out.1 rfl rfl (HR5.out.size _ h15 hgn).z (HR5.out.size _ h15 hgn).b
             ·have qd:decide (0 < d.size)=false:=decide_eq_false hd
              have HSF:=Lib.hid (HSE.out.trans (if_neg (by rintro (h | h);exact hm h;exact hd h)))
              go_wp2_with (go_at_call 24;refine (HSZ.out _).mono ?_;rintro e w5 ⟨rfl,hb⟩;have HR5:=Lib.hid ((HR.out.drewN _).next hb);obtain ⟨z0,z1,z2,z3,z4⟩:=HR5.out.z.cells;have f0:=BoxA.free HR5.out.z 0;have f1:=BoxA.free HR5.out.z 1;have f2:=BoxA.free HR5.out.z 2;have f3:=BoxA.free HR5.out.z 3;have f4:=BoxA.free HR5.out.z 4;have y3:w5.cell? ⟨w1.heap.size,3,none⟩=some (.int .i64 d.size):=HR5.out.p5.cells.2.2.2.1;have fz:=BoxA.free HR5.out.p5 3;have hl5:=HR5.out.p5.lt;have hw5:w.heap.size < w5.heap.size:=BoxA.lt HR5.out.z;clear hb)
              go_roundw
              case rel=>exact ⟨i+1,({ d with size:=(m:Int) },ac),rfl,by go_num,by omega,HR5.out.size _ h15 hgn,by rw [←HD2.out,HSF.out];exact rfl,HBD.out.1,HBD.out.2.1,HBD.out.2.2.1,by show (0:Int)≤m;omega,by show (m:Int)≤1099511627776;omega⟩
              case measure=>simp [intOf];omega
          | true =>
           have HDN:=Lib.hid (show dstep k (d,ac) (key,val)=none from dstep_none (by rw [HPZ.out,e_sizeK];decide) (by rw [e_sizeK];decide) (by rw [e_sizeK];decide) (fun h=>by rw [e_sizeK] at h;exact absurd h.1 (by decide)))
           obtain ⟨qc,rc⟩:=lit_no (show ¬ key=capK by rw [e_sizeK];decide)
           unfold capK at qc rc
           obtain ⟨qs,rs⟩:=lit_yes e_sizeK
           unfold sizeK at qs rs
           obtain ⟨qn,rn⟩:=lit_no (show ¬ key=nameK by rw [e_sizeK];decide)
           unfold nameK at qn rn
           obtain ⟨qo,ro⟩:=lit_no (show ¬ key=poolK by rw [e_sizeK];decide)
           unfold poolK at qo ro
           obtain ⟨qa,ra⟩:=lit_no (show ¬ key=accK by rw [e_sizeK];decide)
           unfold accK at qa ra
           clear e_sizeK e_capK
           have HE:=Lib.hid (HA1.out (by rw [←HD2.out,HDN.out]))
           obtain ⟨z0,z1,z2,z3,z4⟩:=HR.out.z.cells
           have f0:=BoxA.free HR.out.z 0
           have f1:=BoxA.free HR.out.z 1
           have f2:=BoxA.free HR.out.z 2
           have f3:=BoxA.free HR.out.z 3
           have f4:=BoxA.free HR.out.z 4
           go_wp2
           exact dparse_ret5 (d:=Dir.zero) HE.out.2 HE.out.1 rfl rfl (HR.out.drewN _).z (HR.out.drewN _).b
         by_cases e_nameK:key=nameK
         ·have hks:=e_nameK
          obtain ⟨qc,rc⟩:=lit_no (show ¬ key=capK by rw [e_nameK];decide)
          unfold capK at qc rc
          obtain ⟨qs,rs⟩:=lit_no (show ¬ key=sizeK by rw [e_nameK];decide)
          unfold sizeK at qs rs
          obtain ⟨qn,rn⟩:=lit_yes e_nameK
          unfold nameK at qn rn
          obtain ⟨qo,ro⟩:=lit_no (show ¬ key=poolK by rw [e_nameK];decide)
          unfold poolK at qo ro
          obtain ⟨qa,ra⟩:=lit_no (show ¬ key=accK by rw [e_nameK];decide)
          unfold accK at qa ra
          clear e_nameK e_sizeK e_capK
          have HKS:=Lib.hid hks
          have HNA:=Lib.hid (fun W=>dname_any val (Nat.le_trans HVL.out (by decide)) W)
          obtain ⟨nm,hnm⟩:∃ y,isName val=y:=⟨_,rfl⟩
          have HSE:=Lib.hid (show dstep k (d,ac) (key,val)=if d.name≠[]∨nm=false then none else some ({ d with name:=val },ac) by rw [dstep_name HKS.out,hnm])
          rw [hnm] at HNA
          have fz:=BoxA.free HR.out.p5 1
          clear hnm hks HKS
          by_cases hd:d.name=[]
          ·obtain ⟨y1,y2⟩:=lit_yes hd
           cases nm with
           | false =>
            have HE:=Lib.hid (HA1.out (by rw [←HD2.out,HSE.out,if_pos (.inr rfl)]))
            clear hd
            obtain ⟨z0,z1,z2,z3,z4⟩:=HR.out.z.cells
            have f0:=BoxA.free HR.out.z 0
            have f1:=BoxA.free HR.out.z 1
            have f2:=BoxA.free HR.out.z 2
            have f3:=BoxA.free HR.out.z 3
            have f4:=BoxA.free HR.out.z 4
            go_wp2_with (go_at_call 55;refine (HNA.out _).mono ?_;rintro e w5 ⟨rfl,rfl⟩)
            exact dparse_ret5 (d:=Dir.zero) HE.out.2 HE.out.1 rfl rfl ((HR.out.drewN _).name val h15 hgn).z ((HR.out.drewN _).name val h15 hgn).b
           | true =>
            have HSF:=Lib.hid (HSE.out.trans (if_neg (by rintro (h | h);exact h hd;cases h)))
            clear hd
            go_wp2_with (go_at_call 55;refine (HNA.out _).mono ?_;rintro e w5 ⟨rfl,rfl⟩)
            go_roundw
            case rel=>exact ⟨i+1,({ d with name:=val },ac),rfl,by go_num,by omega,((HR.out.drewN _).name val h15 hgn),by rw [←HD2.out,HSF.out];exact rfl,HBD.out.1,HVL.out,HBD.out.2.2.1,HBD.out.2.2.2.1,HBD.out.2.2.2.2⟩
            case measure=>simp [intOf];omega
          ·obtain ⟨y1,y2⟩:=lit_no hd
           have HE:=Lib.hid (HA1.out (by rw [←HD2.out,HSE.out,if_pos (.inl hd)]))
           clear hd
           obtain ⟨z0,z1,z2,z3,z4⟩:=HR.out.z.cells
           have f0:=BoxA.free HR.out.z 0
           have f1:=BoxA.free HR.out.z 1
           have f2:=BoxA.free HR.out.z 2
           have f3:=BoxA.free HR.out.z 3
           have f4:=BoxA.free HR.out.z 4
           go_wp2
           exact dparse_ret5 (d:=Dir.zero) HE.out.2 HE.out.1 rfl rfl ((HR.out.drewN _).name val h15 hgn).z ((HR.out.drewN _).name val h15 hgn).b
         by_cases e_poolK:key=poolK
         ·have hks:=e_poolK
          obtain ⟨qc,rc⟩:=lit_no (show ¬ key=capK by rw [e_poolK];decide)
          unfold capK at qc rc
          obtain ⟨qs,rs⟩:=lit_no (show ¬ key=sizeK by rw [e_poolK];decide)
          unfold sizeK at qs rs
          obtain ⟨qn,rn⟩:=lit_no (show ¬ key=nameK by rw [e_poolK];decide)
          unfold nameK at qn rn
          obtain ⟨qo,ro⟩:=lit_yes e_poolK
          unfold poolK at qo ro
          obtain ⟨qa,ra⟩:=lit_no (show ¬ key=accK by rw [e_poolK];decide)
          unfold accK at qa ra
          clear e_poolK e_nameK e_sizeK e_capK
          have HKS:=Lib.hid hks
          have HNA:=Lib.hid (fun W=>dname_any val (Nat.le_trans HVL.out (by decide)) W)
          obtain ⟨nm,hnm⟩:∃ y,isName val=y:=⟨_,rfl⟩
          have HSE:=Lib.hid (show dstep k (d,ac) (key,val)=if d.pool≠[]∨nm=false then none else some ({ d with pool:=val },ac) by rw [dstep_pool HKS.out,hnm])
          rw [hnm] at HNA
          have fz:=BoxA.free HR.out.p5 2
          clear hnm hks HKS
          by_cases hd:d.pool=[]
          ·obtain ⟨y1,y2⟩:=lit_yes hd
           cases nm with
           | false =>
            have HE:=Lib.hid (HA1.out (by rw [←HD2.out,HSE.out,if_pos (.inr rfl)]))
            clear hd
            obtain ⟨z0,z1,z2,z3,z4⟩:=HR.out.z.cells
            have f0:=BoxA.free HR.out.z 0
            have f1:=BoxA.free HR.out.z 1
            have f2:=BoxA.free HR.out.z 2
            have f3:=BoxA.free HR.out.z 3
            have f4:=BoxA.free HR.out.z 4
            go_wp2_with (go_at_call 55;refine (HNA.out _).mono ?_;rintro e w5 ⟨rfl,rfl⟩)
            exact dparse_ret5 (d:=Dir.zero) HE.out.2 HE.out.1 rfl rfl ((HR.out.drewN _).pool val h15 hgn).z ((HR.out.drewN _).pool val h15 hgn).b
           | true =>
            have HSF:=Lib.hid (HSE.out.trans (if_neg (by rintro (h | h);exact h hd;cases h)))
            clear hd
            go_wp2_with (go_at_call 55;refine (HNA.out _).mono ?_;rintro e w5 ⟨rfl,rfl⟩)
            go_roundw
            case rel=>exact ⟨i+1,({ d with pool:=val },ac),rfl,by go_num,by omega,((HR.out.drewN _).pool val h15 hgn),by rw [←HD2.out,HSF.out];exact rfl,HBD.out.1,HBD.out.2.1,HVL.out,HBD.out.2.2.2.1,HBD.out.2.2.2.2⟩
            case measure=>simp [intOf];omega
          ·obtain ⟨y1,y2⟩:=lit_no hd
           have HE:=Lib.hid (HA1.out (by rw [←HD2.out,HSE.out,if_pos (.inl hd)]))
           clear hd
           obtain ⟨z0,z1,z2,z3,z4⟩:=HR.out.z.cells
           have f0:=BoxA.free HR.out.z 0
           have f1:=BoxA.free HR.out.z 1
           have f2:=BoxA.free HR.out.z 2
           have f3:=BoxA.free HR.out.z 3
           have f4:=BoxA.free HR.out.z 4
           go_wp2
           exact dparse_ret5 (d:=Dir.zero) HE.out.2 HE.out.1 rfl rfl ((HR.out.drewN _).pool val h15 hgn).z ((HR.out.drewN _).pool val h15 hgn).b
         by_cases e_accK:key=accK
         ·by_cases h4:k=4
          ·have hks:=e_accK
           obtain ⟨qc,rc⟩:=lit_no (show ¬ key=capK by rw [e_accK];decide)
           unfold capK at qc rc
           obtain ⟨qs,rs⟩:=lit_no (show ¬ key=sizeK by rw [e_accK];decide)
           unfold sizeK at qs rs
           obtain ⟨qn,rn⟩:=lit_no (show ¬ key=nameK by rw [e_accK];decide)
           unfold nameK at qn rn
           obtain ⟨qo,ro⟩:=lit_no (show ¬ key=poolK by rw [e_accK];decide)
           unfold poolK at qo ro
           obtain ⟨qa,ra⟩:=lit_yes e_accK
           unfold accK at qa ra
           clear e_accK e_poolK e_nameK e_sizeK e_capK
           have HSE:=Lib.hid (dstep_acc (k:=k) (s:=(d,ac)) (v:=val) hks h4)
           have q4:((k:Int) == 4)=true:=by rw [beq_iff_eq];omega
           have fz:=BoxA.free HR.out.p5 4
           clear hks h4
           cases ac with
           | true =>
            have HE:=Lib.hid (HA1.out (by rw [←HD2.out,HSE.out,if_pos (.inl rfl)]))
            obtain ⟨z0,z1,z2,z3,z4⟩:=HR.out.z.cells
            have f0:=BoxA.free HR.out.z 0
            have f1:=BoxA.free HR.out.z 1
            have f2:=BoxA.free HR.out.z 2
            have f3:=BoxA.free HR.out.z 3
            have f4:=BoxA.free HR.out.z 4
            obtain ⟨pb,hpb⟩:∃ y,((str val).toList == ([112,117,98,108,105,99]:Tx))=y:=⟨_,rfl⟩
            go_wp2
            exact dparse_ret5 (d:=Dir.zero) HE.out.2 HE.out.1 rfl rfl ((HR.out.drewN _).opn _ h15 hgn).z ((HR.out.drewN _).opn _ h15 hgn).b
           | false =>
            by_cases hp:val=pubV
            ·have HSF:=Lib.hid (HSE.out.trans (if_neg (by rintro (h | h);cases h;exact h.1 hp)))
             rw [show (val == pubV)=true by rw [hp];rfl] at HSF
             obtain ⟨v1,v1'⟩:=lit_yes hp
             unfold pubV at v1 v1'
             clear hp HSE
             go_wp2
             go_roundw
             case rel=>exact ⟨i+1,({ d with opn:=true },true),rfl,by go_num,by omega,((HR.out.drewN _).opn true h15 hgn),by rw [←HD2.out,HSF.out];exact rfl,HBD.out⟩
             case measure=>simp [intOf];omega
            ·by_cases hr:val=priV
             ·have HSF:=Lib.hid (HSE.out.trans (if_neg (by rintro (h | h);cases h;exact h.2 hr)))
              rw [show (val == pubV)=false by rw [hr];rfl] at HSF
              obtain ⟨v1,v1'⟩:=lit_no hp
              unfold pubV at v1 v1'
              obtain ⟨v2,v2'⟩:=lit_yes hr
              unfold priV at v2 v2'
              clear hp hr HSE
              go_wp2
              go_roundw
              case rel=>exact ⟨i+1,({ d with opn:=false },true),rfl,by go_num,by omega,((HR.out.drewN _).opn false h15 hgn),by rw [←HD2.out,HSF.out];exact rfl,HBD.out⟩
              case measure=>simp [intOf];omega
             ·have HE:=Lib.hid (HA1.out (by rw [←HD2.out,HSE.out,if_pos (.inr ⟨hp,hr⟩)]))
              obtain ⟨v1,v1'⟩:=lit_no hp
              unfold pubV at v1 v1'
              obtain ⟨v2,v2'⟩:=lit_no hr
              unfold priV at v2 v2'
              clear hp hr HSE
              obtain ⟨z0,z1,z2,z3,z4⟩:=HR.out.z.cells
              have f0:=BoxA.free HR.out.z 0
              have f1:=BoxA.free HR.out.z 1
              have f2:=BoxA.free HR.out.z 2
              have f3:=BoxA.free HR.out.z 3
              have f4:=BoxA.free HR.out.z 4
              go_wp2
              exact dparse_ret5 (d:=Dir.zero) HE.out.2 HE.out.1 rfl rfl ((HR.out.drewN _).opn false h15 hgn).z ((HR.out.drewN _).opn false h15 hgn).b
          ·have HDN:=Lib.hid (show dstep k (d,ac) (key,val)=none from dstep_none (by rw [HPZ.out,e_accK];cases pl <;> decide) e_nameK e_poolK (fun h=>h4 h.2))
           obtain ⟨qc,rc⟩:=lit_no (show ¬ key=capK by rw [e_accK];decide)
           unfold capK at qc rc
           obtain ⟨qs,rs⟩:=lit_no (show ¬ key=sizeK by rw [e_accK];decide)
           unfold sizeK at qs rs
           obtain ⟨qn,rn⟩:=lit_no (show ¬ key=nameK by rw [e_accK];decide)
           unfold nameK at qn rn
           obtain ⟨qo,ro⟩:=lit_no (show ¬ key=poolK by rw [e_accK];decide)
           unfold poolK at qo ro
           obtain ⟨qa,ra⟩:=lit_yes e_accK
           unfold accK at qa ra
           have q4:((k:Int) == 4)=false:=by rw [beq_eq_false_iff_ne];omega
           clear h4 e_accK e_poolK e_nameK e_sizeK e_capK
           have HE:=Lib.hid (HA1.out (by rw [←HD2.out,HDN.out]))
           obtain ⟨z0,z1,z2,z3,z4⟩:=HR.out.z.cells
           have f0:=BoxA.free HR.out.z 0
           have f1:=BoxA.free HR.out.z 1
           have f2:=BoxA.free HR.out.z 2
           have f3:=BoxA.free HR.out.z 3
           have f4:=BoxA.free HR.out.z 4
           go_wp2
           exact dparse_ret5 (d:=Dir.zero) HE.out.2 HE.out.1 rfl rfl (HR.out.drewN _).z (HR.out.drewN _).b
         ·have HDN:=Lib.hid (show dstep k (d,ac) (key,val)=none from dstep_none (by rw [HPZ.out];cases pl <;> assumption) e_nameK e_poolK (fun h=>e_accK h.1))
          obtain ⟨qc,rc⟩:=lit_no e_capK
          unfold capK at qc rc
          obtain ⟨qs,rs⟩:=lit_no e_sizeK
          unfold sizeK at qs rs
          obtain ⟨qn,rn⟩:=lit_no e_nameK
          unfold nameK at qn rn
          obtain ⟨qo,ro⟩:=lit_no e_poolK
          unfold poolK at qo ro
          obtain ⟨qa,ra⟩:=lit_no e_accK
          unfold accK at qa ra
          clear e_accK e_poolK e_nameK e_sizeK e_capK
          have HE:=Lib.hid (HA1.out (by rw [←HD2.out,HDN.out]))
          obtain ⟨z0,z1,z2,z3,z4⟩:=HR.out.z.cells
          have f0:=BoxA.free HR.out.z 0
          have f1:=BoxA.free HR.out.z 1
          have f2:=BoxA.free HR.out.z 2
          have f3:=BoxA.free HR.out.z 3
          have f4:=BoxA.free HR.out.z 4
          go_wp2
          exact dparse_ret5 (d:=Dir.zero) HE.out.2 HE.out.1 rfl rfl (HR.out.drewN _).z (HR.out.drewN _).b
        ·have q5:((((str x)[j]'h1).toNat:Int) == 61)=false:=by rw [hge];exact byte_not hb
         have HNM2:=Lib.hid (show (61:UInt8) ∉ x.take (j+1) by
          rw [List.take_add_one,List.getElem?_eq_getElem hjl,List.mem_append]
          rintro (h | h)
          ·exact HNM.out h
          ·have:(61:UInt8)=x[j]:=by simpa using h
           exact hb this.symm)
         clear hge hb HNM hjl
         go_wp2
         go_round
         case rel=>exact ⟨j+1,by go_num,by omega,HNM2.out⟩
         case measure=>simp [intOf];omega
       ·have hje:j=(str x).size:=by omega
        have hcn:cut x=none:=by
         have hn:(61:UInt8) ∉ x:=by have:=HNM.out;rwa [List.take_of_length_le (by rw [hje,HXZ.out];exact Nat.le_refl _)] at this
         cases hc:cut x with
         | none=>rfl
         | some p =>
          obtain ⟨e,_⟩:=cut_some x p.1 p.2 hc
          exact absurd (by rw [e];simp) hn
        have HE:=Lib.hid (HA1.out (by rw [←HDC.out,drun,hcn]))
        subst hje
        have HZX:=Lib.hid HR.out
        obtain ⟨z0,z1,z2,z3,z4⟩:=HZX.out.z.cells;have f0:=BoxA.free HZX.out.z 0;have f1:=BoxA.free HZX.out.z 1;have f2:=BoxA.free HZX.out.z 2;have f3:=BoxA.free HZX.out.z 3;have f4:=BoxA.free HZX.out.z 4
        clear hcn
        go_wp2
        exact dparse_ret5 (d:=Dir.zero) HE.out.2 HE.out.1 rfl rfl HZX.out.z HZX.out.b
     ·obtain rfl:i=n:=by omega
      have HAS:=Lib.hid (show some (d,ac)=ans by have:=HAR.out;rwa [List.drop_of_length_le (by rw [HN.out];exact Nat.le_refl _)] at this)
      have HCH:=Lib.hid (fun W=>dCheck_any d ⟨by have:=HBD.out.1;omega,by have:=HBD.out.2.1;omega,by have:=HBD.out.2.2.1;omega,by have:=HBD.out.2.2.2.1;omega,by have:=HBD.out.2.2.2.2;omega⟩ (by have:=HBD.out.2.1;omega) (by have:=HBD.out.2.2.1;omega) W)
      rw [show dV d=.agg #[.int .u8 (d.kind:Nat),.string (str d.name),.string (str d.pool),.int .i64 d.size,.bool d.opn] from rfl,HBD.out.1] at HCH
      by_cases hc:chk d=true
      ·have HE:=Lib.hid (HA2.out (d,ac) HAS.out.symm hc)
       rw [cE_yes hc] at HCH
       have HKD:=Lib.hid HBD.out.1
       clear hc
       go_wp2_with (go_at_call 77;refine (HCH.out _).mono ?_;rintro e w5 ⟨rfl,hb⟩;have HR5:=Lib.hid (HR.out.next hb);obtain ⟨z0,z1,z2,z3,z4⟩:=HR5.out.z.cells;have f0:=BoxA.free HR5.out.z 0;have f1:=BoxA.free HR5.out.z 1;have f2:=BoxA.free HR5.out.z 2;have f3:=BoxA.free HR5.out.z 3;have f4:=BoxA.free HR5.out.z 4;obtain ⟨y0,y1,y2,y3,y4⟩:=HR5.out.p5.cells;rw [HBD.out.1] at y0;have hl5:=HR5.out.p5.lt;have hw5:w.heap.size < w5.heap.size:=BoxA.lt HR5.out.z;clear hb)
       have hkd:=HKD.out
       subst hkd
       exact dparse_ret5 (d:=d) HE.out.2 HE.out.1 rfl rfl HR5.out.z HR5.out.b
      ·have HE:=Lib.hid (HA3.out (d,ac) HAS.out.symm hc)
       rw [cE_no hc] at HCH
       clear hc
       go_wp2_with (go_at_call 77;refine (HCH.out _).mono ?_;rintro e w5 ⟨rfl,hb⟩;have HR5:=Lib.hid (HR.out.next hb);obtain ⟨z0,z1,z2,z3,z4⟩:=HR5.out.z.cells;have f0:=BoxA.free HR5.out.z 0;have f1:=BoxA.free HR5.out.z 1;have f2:=BoxA.free HR5.out.z 2;have f3:=BoxA.free HR5.out.z 3;have f4:=BoxA.free HR5.out.z 4;obtain ⟨y0,y1,y2,y3,y4⟩:=HR5.out.p5.cells;rw [HBD.out.1] at y0;have hl5:=HR5.out.p5.lt;have hw5:w.heap.size < w5.heap.size:=BoxA.lt HR5.out.z;clear hb)
       exact dparse_ret5 (d:=Dir.zero) HE.out.2 HE.out.1 rfl rfl HR5.out.z HR5.out.b
theorem dParse_any (l:Tx) (hm:l.length≤100000) (w:World):Calls Tryz.prog 42 #[.string (str l)] w (ParseT l w):=by
 by_cases hl:500 < l.length
 ·exact dparse_long l hl hm w
 obtain ⟨L,hL⟩:∃ L,words l=L:=⟨_,rfl⟩
 match L,hL with
 | [],hL=>exact dparse_short l (by omega) (by rw [hL];decide) w
 | [b],hL=>exact dparse_short l (by omega) (by rw [hL];exact Nat.lt_succ_self 1) w
 | b::v::ws,hL =>
  by_cases hb:b=bbW
  ·exact dparse_words l (by omega) hL hb _ rfl w
  ·exact dparse_notbb l (by omega) hL hb w
end Go.Proofs.YtekcjfdllclphaaGreatDoor.gn
end
