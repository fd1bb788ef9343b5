/- The contracts of rows, find, kind. -/
import Derived.Test.YtekcjfdllclphaaGreatDoorMQbOrB
import Derived.Test.YtekcjfdllclphaaGreatDoorMQbDiJ
import Derived.Test.YtekcjfdllclphaaGreatDoorMQbOrR
set_option linter.unusedVariables false
set_option linter.unusedSimpArgs false
section
namespace Go.Proofs.YtekcjfdllclphaaGreatDoor.gn
open Go.RowKit
open Go.Proofs.YtekcjfdllclphaaGreatDoor.un
open Go.Proofs.YtekcjfdllclphaaGreatDoor.di
open Go.Proofs.YtekcjfdllclphaaGreatDoor.od (Ord wordO eighteen kindN kindN_word kindN_none)
def lettersO:Nat→Tx
 | 1=>[116]
 | 3=>[106]
 | 4=>[106]
 | 5=>[106]
 | 6=>[106,113]
 | 7=>[106,114]
 | 8=>[106]
 | 9=>[109]
 | 10=>[109]
 | 11=>[109]
 | 12=>[109]
 | 13=>[112]
 | 14=>[112]
 | 15=>[117,110,99,112,97]
 | 16=>[117,110]
 | 17=>[106]
 | 18=>[112]
 | _=>[]
def rowsV:Array Value:=#[.string { data:=#[] },.string { data:=#[] },.string { data:=#[116,105,99,107] },.string { data:=#[116] },.string { data:=#[115,117,98,109,105,116] },.string { data:=#[] },.string { data:=#[99,97,110,99,101,108] },.string { data:=#[106] },.string { data:=#[104,111,108,100] },.string { data:=#[106] },.string { data:=#[114,101,108,101,97,115,101] },.string { data:=#[106] },.string { data:=#[113,111,115] },.string { data:=#[106,113] },.string { data:=#[101,110,100] },.string { data:=#[106,114] },.string { data:=#[102,97,117,108,116] },.string { data:=#[106] },.string { data:=#[102,97,105,108] },.string { data:=#[109] },.string { data:=#[117,112] },.string { data:=#[109] },.string { data:=#[100,114,97,105,110] },.string { data:=#[109] },.string { data:=#[114,101,115,117,109,101] },.string { data:=#[109] },.string { data:=#[99,108,111,115,101] },.string { data:=#[112] },.string { data:=#[111,112,101,110] },.string { data:=#[112] },.string { data:=#[109,97,107,101] },.string { data:=#[117,110,99,112,97] },.string { data:=#[100,114,111,112] },.string { data:=#[117,110] },.string { data:=#[115,116,97,116,117,115] },.string { data:=#[106] },.string { data:=#[112,111,111,108] },.string { data:=#[112] }]
def rowV2 (k:Nat):Value:=.agg #[.string (str (wordO k)),.string (str (lettersO k))]
theorem nineteen {k:Nat} (h:k < 19):k=0∨k=1∨k=2∨k=3∨k=4∨k=5∨k=6∨k=7∨k=8∨k=9∨k=10∨k=11∨k=12∨k=13∨k=14∨k=15∨k=16∨k=17∨k=18:=by omega
theorem rowsV_at {k:Nat} (h:k < 19):rowsV[k * 2]?=some (.string (str (wordO k)))∧rowsV[k * 2+1]?=some (.string (str (lettersO k))):=by
 rcases nineteen h with rfl | rfl | rfl | rfl | rfl | rfl | rfl | rfl | rfl | rfl | rfl | rfl | rfl | rfl | rfl | rfl | rfl | rfl | rfl <;> exact ⟨rfl,rfl⟩
theorem no_word {k:Nat} (h:¬ (1≤k∧k≤18)):wordO k=[]∧lettersO k=[]:=by
 have:k=0∨19≤k:=by omega
 rcases this with rfl | h
 ·exact ⟨rfl,rfl⟩
 ·obtain ⟨j,rfl⟩:∃ j,k=j+19:=⟨k - 19,by omega⟩
  exact ⟨rfl,rfl⟩
theorem results_two2 {P:Program} {fn:Func} {p u:Tmp} {ty:TypeId} (h:fn.results=#[.cell p ty,.tmp u]) (tmps:Array Value) (w:World) (g:Nat) (t:TypeId) (cs:Array Value) (fr:Nat × Nat) (d:TypeDesc) (v:Value)
  (hp:(tmps.getD p undef,tmps.getD u undef)=(.pointer (some ⟨g,0,none⟩),v)) (hg:w.heap[g]?=some (.cells cs t fr))
  (hu:P.underlying ty=some d) (hd:(match d with | .struct _ | .array _ _=>true | _=>false)=true) (hi:(P.info? ty).map (·.size)=some cs.size) :
  (results fn tmps).run P w=.ok (.tuple #[.agg cs,v]) w:=by
 have:=results_two h tmps w g t cs fr d (Prod.mk.inj hp).1 hg hu hd hi
 rwa [(Prod.mk.inj hp).2] at this
def rowsZ:Array Value:=#[.string { data:=#[] },.string { data:=#[] },.string { data:=#[] },.string { data:=#[] },.string { data:=#[] },.string { data:=#[] },.string { data:=#[] },.string { data:=#[] },.string { data:=#[] },.string { data:=#[] },.string { data:=#[] },.string { data:=#[] },.string { data:=#[] },.string { data:=#[] },.string { data:=#[] },.string { data:=#[] },.string { data:=#[] },.string { data:=#[] },.string { data:=#[] },.string { data:=#[] },.string { data:=#[] },.string { data:=#[] },.string { data:=#[] },.string { data:=#[] },.string { data:=#[] },.string { data:=#[] },.string { data:=#[] },.string { data:=#[] },.string { data:=#[] },.string { data:=#[] },.string { data:=#[] },.string { data:=#[] },.string { data:=#[] },.string { data:=#[] },.string { data:=#[] },.string { data:=#[] },.string { data:=#[] },.string { data:=#[] }]
set_option maxRecDepth 100000 in
set_option maxHeartbeats 3200000 in
theorem orows_any (w:World):Calls Tryz.prog 49 #[] w (Told (.agg rowsV) w):=by
 obtain ⟨z,hz⟩:∃ z:Array Value,z=#[.string { data:=#[] },.string { data:=#[] },.string { data:=#[] },.string { data:=#[] },.string { data:=#[] },.string { data:=#[] },.string { data:=#[] },.string { data:=#[] },.string { data:=#[] },.string { data:=#[] },.string { data:=#[] },.string { data:=#[] },.string { data:=#[] },.string { data:=#[] },.string { data:=#[] },.string { data:=#[] },.string { data:=#[] },.string { data:=#[] },.string { data:=#[] },.string { data:=#[] },.string { data:=#[] },.string { data:=#[] },.string { data:=#[] },.string { data:=#[] },.string { data:=#[] },.string { data:=#[] },.string { data:=#[] },.string { data:=#[] },.string { data:=#[] },.string { data:=#[] },.string { data:=#[] },.string { data:=#[] },.string { data:=#[] },.string { data:=#[] },.string { data:=#[] },.string { data:=#[] },.string { data:=#[] },.string { data:=#[] }]:=⟨_,rfl⟩
 obtain ⟨W,hW⟩:∃ W,w.alloc (.cells z 91)=W:=⟨_,rfl⟩
 have hb:BoxA W w.heap.size 91 z:=by rw [←hW];exact BoxA.new _ _ _
 have hl:Below w.heap.size w W:=by rw [←hW];exact (Below.refl _ _).alloc (Nat.le_refl _) _
 have hs:z.size=rowsV.size:=by rw [hz];rfl
 rw [hz] at hW
 have HB:=Lib.hid hb
 have HL:=Lib.hid hl
 have HW:=Lib.hid hW
 have HS:=Lib.hid hs
 clear hz hb hl hW hs
 go_enter Tryz.func49,Tryz.ntmps49
 go_upto_region 1 with fail
 rw [HW.out]
 go_wp2_with (refine wpList_store_row rfl _ _ _ rfl w.heap.size rowsV rfl rfl _ _ HB.out (by kernel_rfl) HS.out (by kernel_rfl) ?_)
 exact bodyPost_ret (v:=.agg rowsV) (results_cell_row rfl _ _ _ _ _ _ _ rfl (setRow_heap _ _ _ _ _ _ HB.out) Tryz.underlying91 rfl (by kernel_rfl)) rfl ⟨rfl,below_setRow HL.out (Nat.le_refl _) _⟩
theorem orow_at (w:World) {k:Nat} (hk:k < 19):(Instr.index 91 (.agg rowsV) (.int .i64 (k:Int))).run Tryz.prog w=.ok (rowV2 k) w:=by
 rcases nineteen hk with rfl | rfl | rfl | rfl | rfl | rfl | rfl | rfl | rfl | rfl | rfl | rfl | rfl | rfl | rfl | rfl | rfl | rfl | rfl <;> kernel_rfl
set_option maxRecDepth 100000 in
set_option maxHeartbeats 3200000 in
theorem okind_any (x:Tx) (w:World):Calls Tryz.prog 38 #[.string (str x)] w (Told (.int .u8 (kindN x:Nat)) w):=by
 go_enter Tryz.func38,Tryz.ntmps38
 go_wp2_with (go_at_call 49;((with_reducible refine (orows_any _).mono ?_);rintro e w1 ⟨rfl,hb⟩);have HB:=Lib.hid hb;clear hb)
 go_loopw [6] (fun s6 wr=>∃ k:Nat,s6=.int .i64 k∧k≤19∧Aside (∀ i,i < k→wordO i≠x)∧Aside (Below w.heap.size w wr)) (fun s6 _=>19 - (intOf s6).toNat)
 case atStart=>exact ⟨0,rfl,by omega,fun i hi=>absurd hi (by omega),HB.out⟩
 case round =>
  obtain ⟨k,rfl,hk,hno,hbw⟩:=hrel
  have HX:=Lib.hid (show ∀ i,i < k→wordO i≠x from hno)
  have HW:=Lib.hid (show Below w.heap.size w wr from hbw)
  clear hno hbw HB
  by_cases h19:k < 19
  ·have hix:=orow_at wr h19
   unfold rowV2 at hix
   have hy:Below w.heap.size w (wr.alloc (.cells #[.string (str (wordO k)),.string (str (lettersO k))] 60)):=HW.out.alloc HW.out.size _
   have HY:=Lib.hid hy
   clear hy
   by_cases he:wordO k=x
   ·obtain ⟨q1,q2⟩:=(⟨by rw [eq_str];exact decide_eq_true he,by rw [he]⟩:((str (wordO k)).toList == (str x).toList)=true∧(str (wordO k)).toList=(str x).toList)
    have HK:=Lib.hid (show kindN x=k by rw [←he];exact kindN_word (by omega))
    generalize wordO k=wk at *
    generalize lettersO k=lk at *
    clear he
    go_wp2
    go_ret
    exact ⟨by rw [HK.out];rfl,HY.out⟩
   ·obtain ⟨q1,q2⟩:=(⟨by rw [eq_str];exact decide_eq_false he,fun h=>he (by rw [str_toList,str_toList] at h;exact h)⟩:((str (wordO k)).toList == (str x).toList)=false∧¬ (str (wordO k)).toList=(str x).toList)
    have HNX:=Lib.hid (show ∀ i,i < k+1→wordO i≠x from fun i hi=>by
     rcases Nat.lt_or_ge i k with h | h
     ·exact HX.out i h
     ·rw [show i=k by omega];exact he)
    generalize wordO k=wk at *
    generalize lettersO k=lk at *
    clear he
    go_wp2
    go_roundw
    case rel=>exact ⟨k+1,by go_num,by omega,HNX.out,HY.out⟩
    case measure=>simp [intOf];omega
  ·obtain rfl:k=19:=by omega
   have HK:=Lib.hid (kindN_none HX.out)
   go_wp2
   go_ret
   exact ⟨by rw [HK.out];rfl,HW.out⟩
def FindO (k:Nat) (w:World):Ending→World→Prop:=Told (.tuple #[rowV2 k,.bool (decide (1≤k∧k≤18))]) w
set_option maxRecDepth 100000 in
set_option maxHeartbeats 3200000 in
theorem ofind_any (k:Nat) (hk:k≤255) (w:World):Calls Tryz.prog 28 #[.int .u8 (k:Nat)] w (FindO k w):=by
 obtain ⟨w0,hw0⟩:∃ w0,w.alloc (.cells #[.string { data:=#[] },.string { data:=#[] }] 60)=w0:=⟨_,rfl⟩
 have hb0:BoxA w0 w.heap.size 60 #[.string { data:=#[] },.string { data:=#[] }]:=by rw [←hw0];exact BoxA.new _ _ _
 have hl0:Below w.heap.size w w0:=by rw [←hw0];exact (Below.refl _ _).alloc (Nat.le_refl _) _
 have HW0:=Lib.hid hw0
 have HB0:=Lib.hid hb0
 have HL0:=Lib.hid hl0
 clear hw0 hb0 hl0
 go_enter Tryz.func28,Tryz.ntmps28
 go_upto_region 1 with fail
 rw [HW0.out]
 go_upto_region 2 with (first
  | (go_at_call 49;((with_reducible refine (orows_any _).mono ?_);rintro e w1 ⟨rfl,hb⟩);have HB:=Lib.hid hb;clear hb)
  | (refine wpList_store_row rfl _ _ _ rfl w1.heap.size rowsV rfl rfl _ _ (BoxA.new w1 _ _) (by kernel_rfl) rfl (by kernel_rfl) ?_))
 obtain ⟨w2,hw2⟩:∃ w2,(w1.alloc (.cells rowsZ 91)).setRow w1.heap.size rowsV=w2:=⟨_,rfl⟩
 have hb2:BoxA w2 w1.heap.size 91 rowsV:=by rw [←hw2];exact setRow_heap _ _ _ _ _ _ (BoxA.new w1 _ _)
 have hl2:Below w1.heap.size w1 w2:=by rw [←hw2];exact below_setRow ((Below.refl _ w1).alloc (Nat.le_refl _) _) (Nat.le_refl _) _
 have HZ:=Lib.hid (show w.heap.size≠w1.heap.size by have:=HB.out.size;have:=HB0.out.lt;omega)
 have HR:=Lib.hid ((HB0.out.next HB.out).next hl2)
 have HL:=Lib.hid (HL0.out.trans ((HB.out.trans (hl2.mono HB.out.size)).mono HL0.out.size))
 change Code.wp _ _ _ _ ((w1.alloc (.cells rowsZ 91)).setRow w1.heap.size rowsV)
 rw [hw2]
 clear hw2 hl2
 generalize w1.heap.size=b1 at *
 by_cases hk0:k=0
 ·subst hk0
  go_wp2_with (refine wpList_store_row rfl _ _ _ rfl w.heap.size #[.string { data:=#[] },.string { data:=#[] }] rfl rfl _ _ HR.out (by kernel_rfl) rfl (by kernel_rfl) ?_)
  exact bodyPost_ret (v:=.tuple #[rowV2 0,.bool false]) (results_two2 rfl _ _ w.heap.size _ #[.string { data:=#[] },.string { data:=#[] }] _ _ _ rfl (setRow_heap _ _ _ _ _ _ HR.out) Tryz.underlying60 rfl (by kernel_rfl)) rfl ⟨rfl,below_setRow HL.out (Nat.le_refl _) _⟩
 ·have q0:((k:Int) == 0)=false:=by rw [beq_eq_false_iff_ne];omega
  by_cases hk1:k < 19
  ·have q1:decide (19≤(k:Int))=false:=decide_eq_false (by omega)
   obtain ⟨r0,r1⟩:=rowsV_at hk1
   have c0:=hb2.cell _ _ r0
   have c1:=hb2.cell _ _ r1
   have HD:=Lib.hid (show decide (1≤k∧k≤18)=true from decide_eq_true (by omega))
   have hblt:=hb2.lt
   have HV:=Lib.hid (show rowV2 k=.agg #[.string (str (wordO k)),.string (str (lettersO k))] from rfl)
   generalize wordO k=wk at *
   generalize lettersO k=lk at *
   clear r0 r1 hb2
   go_wp2_with (refine wpList_store_row rfl _ _ _ rfl w.heap.size #[.string (str wk),.string (str lk)] rfl rfl _ _ HR.out (by kernel_rfl) rfl (by kernel_rfl) ?_)
   exact bodyPost_ret (v:=.tuple #[.agg #[.string (str wk),.string (str lk)],.bool true]) (results_two2 rfl _ _ w.heap.size _ #[.string (str wk),.string (str lk)] _ _ _ rfl (setRow_heap _ _ _ _ _ _ HR.out) Tryz.underlying60 rfl (by kernel_rfl)) rfl ⟨by rw [HD.out,HV.out],below_setRow HL.out (Nat.le_refl _) _⟩
  ·have q1:decide (19≤(k:Int))=true:=decide_eq_true (by omega)
   have HD:=Lib.hid (show decide (1≤k∧k≤18)=false from decide_eq_false (by omega))
   have HE:=Lib.hid (show rowV2 k=rowV2 0 by unfold rowV2;rw [(no_word (k:=k) (by omega)).1,(no_word (k:=k) (by omega)).2];rfl)
   go_wp2_with (refine wpList_store_row rfl _ _ _ rfl w.heap.size #[.string { data:=#[] },.string { data:=#[] }] rfl rfl _ _ HR.out (by kernel_rfl) rfl (by kernel_rfl) ?_)
   exact bodyPost_ret (v:=.tuple #[rowV2 0,.bool false]) (results_two2 rfl _ _ w.heap.size _ #[.string { data:=#[] },.string { data:=#[] }] _ _ _ rfl (setRow_heap _ _ _ _ _ _ HR.out) Tryz.underlying60 rfl (by kernel_rfl)) rfl ⟨by rw [HD.out,HE.out],below_setRow HL.out (Nat.le_refl _) _⟩
end Go.Proofs.YtekcjfdllclphaaGreatDoor.gn
end
