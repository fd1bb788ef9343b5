/- Rows that are read; slices.Index, Contains, distinct. (Written by gen_slG.py.) -/
import Derived.Test.YtekcjfdllclphaaGreatDoorMQaSlQ
import Derived.Deep.LoopGhost
import Derived.Shelf.Abstract
import Derived.BigQuiet
section
set_option linter.unusedVariables false
set_option linter.unusedSimpArgs false
namespace Go.Proofs.YtekcjfdllclphaaGreatDoor.gn
open Go.RowKit
open Go.Proofs.YtekcjfdllclphaaGreatDoor.un
open Go.Proofs.YtekcjfdllclphaaGreatDoor.di
open Go.Proofs.YtekcjfdllclphaaGreatDoor.sp (Slip)
def cI (n:Int):List Value:=[.int .i64 n]
def flI (l:List Int):List Value:=l.flatMap cI
theorem flI_app (a b:List Int):flI (a++b)=flI a++flI b:=List.flatMap_append
theorem eltI:EltI 120 2 (.int .i64 0) 1 8:=elt_of Tryz.underlying120 (by kernel_rfl) rfl (by decide)
theorem RdC.at_ {w:World} {v:Value} {n:Nat} {cs:List Value} {size:Nat} {p:Option Addr} {c:Nat} (h:RdC w v n cs) (he:v=.slice p n c) (hk:0 < n):∃ b off,p=some ⟨b,off,none⟩∧b < w.heap.size∧CellsC w b off cs:=by
 rcases h with ⟨p',c',rfl,h0,_⟩ | ⟨b,off,c',rfl,hb,hc⟩
 ·omega
 ·cases he
  exact ⟨b,off,rfl,hb,hc⟩
theorem CellsC.elt {α:Type} {f:α→List Value} {k:Nat} (hf:∀ x,(f x).length=k) {w:World} {b off:Nat} {l:List α} (h:CellsC w b off (l.flatMap f)) {i j:Nat} {x:α} {u:Value} (hx:l[i]?=some x) (hj:j < k) (hu:(f x)[j]?=some u):w.cell? ⟨b,off+(i * k+j),none⟩=some u :=
 h _ _ (by rw [flat_at f k hf l i j x hx hj];exact hu)
theorem take_snoc {α:Type} {l:List α} {k:Nat} {x:α} (h:l[k]?=some x):l.take (k+1)=l.take k++[x]:=by rw [List.take_add_one,h];rfl
theorem mem_take_succ {α:Type} {l:List α} {k:Nat} {x y:α} (h:l[k]?=some y):x∈l.take (k+1)↔x∈l.take k∨x=y:=by rw [take_snoc h];simp
theorem nodup_take_succ {α:Type} {l:List α} {k:Nat} {y:α} (h:l[k]?=some y):(l.take (k+1)).Nodup↔(l.take k).Nodup∧y ∉ l.take k:=by
 rw [take_snoc h,List.nodup_append]
 constructor
 ·rintro ⟨a,_,c⟩
  exact ⟨a,fun hy=>c y hy y (by simp) rfl⟩
 ·rintro ⟨a,b⟩
  exact ⟨a,by simp,fun z hz u hu e=>by simp at hu;subst hu;subst e;exact b hz⟩
set_option maxRecDepth 100000 in
set_option maxHeartbeats 4000000 in
theorem index_s (l:List Tx) (x:Tx) (v:Value) (w:World) (h:RdC w v l.length (flS l)) (hm:l.length≤maxLen):Calls Tryz.prog 150 #[v,.string (str x)] w fun e w'=>∃ i:Int,e=.returned (.int .i64 i)∧(0≤i↔x∈l)∧w=w':=by
 obtain ⟨p,c,rfl⟩:=h.form
 have HC:=Lib.hid (fun hk:0 < l.length=>h.at_ (size:=1) rfl hk)
 obtain ⟨n,hn⟩:∃ n,l.length=n:=⟨_,rfl⟩
 rw [hn] at hm HC ⊢
 have HN:=Lib.hid hn
 have hm2:n≤9223372036854775807:=by unfold maxLen at hm;omega
 clear h hn hm
 go_enter Tryz.func150,Tryz.ntmps150
 go_wp2
 go_loopw [8] (fun s8 wr=>∃ k:Nat,s8=.int .i64 k∧k≤n∧Aside (x ∉ l.take k)∧Aside (w=wr)) (fun s8 _=>n - (intOf s8).toNat)
 case atStart=>exact ⟨0,rfl,Nat.zero_le _,by show x ∉ l.take 0;simp,rfl⟩
 case round =>
  obtain ⟨k,rfl,hk,hnx,hw⟩:=hrel
  have HX:=Lib.hid (show x ∉ l.take k from hnx)
  have hw:w=wr:=hw
  subst hw
  clear hnx
  by_cases hkn:k < n
  ·obtain ⟨b,off,rfl,hb,hc⟩:=HC.out (by omega)
   obtain ⟨y,hy⟩:∃ y,l[k]?=some y:=⟨_,List.getElem?_eq_getElem (by rw [HN.out];exact hkn)⟩
   have c0:w.cell? ⟨b,off+k,none⟩=some (.string (str y)):=by
    have:=hc.elt (f:=cS) (k:=1) (fun _=>rfl) (j:=0) hy (by decide) rfl
    rwa [Nat.mul_one,Nat.add_zero] at this
   have HY:=Lib.hid hy
   clear hc hy
   by_cases he:x=y
   ·have HM:=Lib.hid (show x∈l by rw [he];exact List.mem_of_getElem? HY.out)
    obtain ⟨q1,q2⟩:=(⟨by rw [eq_str];exact decide_eq_true he,by rw [he]⟩:((str x).toList == (str y).toList)=true∧(str x).toList=(str y).toList)
    clear he
    go_wp2
    go_ret
    exact ⟨(k:Int),rfl,⟨fun _=>HM.out,fun _=>by omega⟩,rfl⟩
   ·have HNX:=Lib.hid (show x ∉ l.take (k+1) by rw [mem_take_succ HY.out];exact fun h=>h.elim HX.out he)
    obtain ⟨q1,q2⟩:=(⟨by rw [eq_str];exact decide_eq_false he,fun h=>he (by rw [str_toList,str_toList] at h;exact h)⟩:((str x).toList == (str y).toList)=false∧¬ (str x).toList=(str y).toList)
    clear he
    go_wp2
    go_roundw
    case rel=>exact ⟨k+1,by go_num,by omega,HNX.out,trivial⟩
    case measure=>simp [intOf];omega
  ·obtain rfl:k=n:=by omega
   go_wp2
   go_ret
   refine ⟨-1,rfl,⟨fun h=>by omega,fun h=>?_⟩,rfl⟩
   have:=HX.out
   rw [List.take_of_length_le (by rw [HN.out];exact Nat.le_refl _)] at this
   exact absurd h this
theorem contains_s (l:List Tx) (x:Tx) (v:Value) (w:World) (h:RdC w v l.length (flS l)) (hm:l.length≤maxLen):Calls Tryz.prog 127 #[v,.string (str x)] w fun e w'=>e=.returned (.bool (decide (x∈l)))∧w=w':=by
 have HI:=Lib.hid (index_s l x v w h hm)
 clear h hm
 go_enter Tryz.func127,Tryz.ntmps127
 go_wp2_with (go_at_call 150;((with_reducible refine HI.out.mono ?_);rintro e w2 ⟨i,rfl,hi,rfl⟩);have HJ:=Lib.hid hi;clear hi)
 go_ret
 have hb:decide (0≤i)=decide (x∈l):=decide_eq_decide.2 HJ.out
 exact ⟨by rw [←hb];rfl,rfl⟩
set_option maxRecDepth 100000 in
set_option maxHeartbeats 4000000 in
theorem distinct_s (l:List Tx) (v:Value) (w:World) (h:RdC w v l.length (flS l)) (hc:Cp v l.length):Calls Tryz.prog 101 #[v] w fun e w'=>e=.returned (.bool (decide l.Nodup))∧w=w':=by
 obtain ⟨p,c,rfl,hle,hcm⟩:=hc
 have HC:=Lib.hid (fun hk:0 < l.length=>h.at_ (size:=1) rfl hk)
 obtain ⟨n,hn⟩:∃ n,l.length=n:=⟨_,rfl⟩
 rw [hn] at hle HC ⊢
 have HN:=Lib.hid hn
 have hm2:n≤9223372036854775807:=by unfold maxLen at hcm;omega
 have HCM:=Lib.hid (And.intro hle hcm)
 have hz:∀ W,(sizeOf (Tryz.prog.elem 25)).run Tryz.prog W=.ok 1 W:=fun W=>by kernel_rfl
 have HZ:=Lib.hid hz
 clear h hn hcm hle hz
 go_enter Tryz.func101,Tryz.ntmps101
 go_wp2
 go_loopw [7] (fun s7 wr=>∃ k:Nat,s7=.int .i64 k∧k≤n∧Aside ((l.take k).Nodup)∧Aside (w=wr)) (fun s7 _=>n - (intOf s7).toNat)
 case atStart=>exact ⟨0,rfl,Nat.zero_le _,by show (l.take 0).Nodup;simp,rfl⟩
 case round =>
  obtain ⟨k,rfl,hk,hnx,hw⟩:=hrel
  have HX:=Lib.hid (show (l.take k).Nodup from hnx)
  have hw:w=wr:=hw
  subst hw
  clear hnx
  by_cases hkn:k < n
  ·obtain ⟨b,off,rfl,hb,hc⟩:=HC.out (by omega)
   obtain ⟨y,hy⟩:∃ y,l[k]?=some y:=⟨_,List.getElem?_eq_getElem (by rw [HN.out];exact hkn)⟩
   have c0:w.cell? ⟨b,off+k,none⟩=some (.string (str y)):=by
    have:=hc.elt (f:=cS) (k:=1) (fun _=>rfl) (j:=0) hy (by decide) rfl
    rwa [Nat.mul_one,Nat.add_zero] at this
   have HY:=Lib.hid hy
   have hsl:∀ W,(Instr.slice 25 (.slice (some ⟨b,off,none⟩) n c) none (some (.int .i64 (k:Int))) none).run Tryz.prog W=.ok (.slice (some ⟨b,off,none⟩) k c) W:=fun W=>by
    rw [run_slice_h W 25 (some ⟨b,off,none⟩) n c Tryz.underlying25 .i64 (k:Int) (by omega) (by have:=HCM.out.1;omega),HZ.out]
    unfold sliced
    simp [Addr.add_lit,Result.andThen]
   have hrd:RdC w (.slice (some ⟨b,off,none⟩) k c) (l.take k).length (flS (l.take k)):=by
    have hlk:(l.take k).length=k:=by rw [List.length_take,HN.out];omega
    rw [hlk]
    refine .inr ⟨b,off,c,rfl,hb,fun j u hj=>hc j u ?_⟩
    have e:flS l=flS (l.take k)++flS (l.drop k):=by rw [←flS_app,List.take_append_drop]
    have:(flS l)[j]?=some u:=by rw [e,List.getElem?_append_left (List.getElem?_eq_some_iff.1 hj).1];exact hj
    exact this
   have HCT:=Lib.hid (contains_s (l.take k) y _ w hrd (by rw [List.length_take,HN.out];unfold maxLen;omega))
   clear hc hy hrd
   by_cases he:y∈l.take k
   ·rw [decide_eq_true he] at HCT
    have HND:=Lib.hid (show decide l.Nodup=false from decide_eq_false fun h=>((nodup_take_succ HY.out).1 (h.sublist (List.take_sublist _ _))).2 he)
    clear he
    go_wp2_with (go_at_call 127;((with_reducible refine HCT.out.mono ?_);rintro e w2 ⟨rfl,rfl⟩))
    go_ret
    exact ⟨by rw [HND.out];rfl,rfl⟩
   ·rw [decide_eq_false he] at HCT
    have HND:=Lib.hid (show (l.take (k+1)).Nodup from (nodup_take_succ HY.out).2 ⟨HX.out,he⟩)
    clear he
    go_wp2_with (go_at_call 127;((with_reducible refine HCT.out.mono ?_);rintro e w2 ⟨rfl,rfl⟩))
    go_roundw
    case rel=>exact ⟨k+1,by go_num,by omega,HND.out,trivial⟩
    case measure=>simp [intOf];omega
  ·obtain rfl:k=n:=by omega
   have hnd:l.Nodup:=by
    have:=HX.out
    rwa [List.take_of_length_le (by rw [HN.out];exact Nat.le_refl _)] at this
   have HND:=Lib.hid hnd
   clear hnd
   go_wp2
   go_ret
   exact ⟨by rw [decide_eq_true HND.out];rfl,rfl⟩
set_option maxRecDepth 100000 in
set_option maxHeartbeats 4000000 in
theorem index_i (l:List Int) (x:Int) (v:Value) (w:World) (h:RdC w v l.length (flI l)) (hm:l.length≤maxLen):Calls Tryz.prog 149 #[v,.int .i64 x] w fun e w'=>∃ i:Int,e=.returned (.int .i64 i)∧(0≤i↔x∈l)∧w=w':=by
 obtain ⟨p,c,rfl⟩:=h.form
 have HC:=Lib.hid (fun hk:0 < l.length=>h.at_ (size:=1) rfl hk)
 obtain ⟨n,hn⟩:∃ n,l.length=n:=⟨_,rfl⟩
 rw [hn] at hm HC ⊢
 have HN:=Lib.hid hn
 have hm2:n≤9223372036854775807:=by unfold maxLen at hm;omega
 clear h hn hm
 go_enter Tryz.func149,Tryz.ntmps149
 go_wp2
 go_loopw [8] (fun s8 wr=>∃ k:Nat,s8=.int .i64 k∧k≤n∧Aside (x ∉ l.take k)∧Aside (w=wr)) (fun s8 _=>n - (intOf s8).toNat)
 case atStart=>exact ⟨0,rfl,Nat.zero_le _,by show x ∉ l.take 0;simp,rfl⟩
 case round =>
  obtain ⟨k,rfl,hk,hnx,hw⟩:=hrel
  have HX:=Lib.hid (show x ∉ l.take k from hnx)
  have hw:w=wr:=hw
  subst hw
  clear hnx
  by_cases hkn:k < n
  ·obtain ⟨b,off,rfl,hb,hc⟩:=HC.out (by omega)
   obtain ⟨y,hy⟩:∃ y,l[k]?=some y:=⟨_,List.getElem?_eq_getElem (by rw [HN.out];exact hkn)⟩
   have c0:w.cell? ⟨b,off+k,none⟩=some (.int .i64 y):=by
    have:=hc.elt (f:=cI) (k:=1) (fun _=>rfl) (j:=0) hy (by decide) rfl
    rwa [Nat.mul_one,Nat.add_zero] at this
   have HY:=Lib.hid hy
   clear hc hy
   by_cases he:x=y
   ·have HM:=Lib.hid (show x∈l by rw [he];exact List.mem_of_getElem? HY.out)
    have q1:(x == y)=true:=by rw [beq_iff_eq];exact he
    clear he
    go_wp2
    go_ret
    exact ⟨(k:Int),rfl,⟨fun _=>HM.out,fun _=>by omega⟩,rfl⟩
   ·have HNX:=Lib.hid (show x ∉ l.take (k+1) by rw [mem_take_succ HY.out];exact fun h=>h.elim HX.out he)
    have q1:(x == y)=false:=by rw [beq_eq_false_iff_ne];exact he
    clear he
    go_wp2
    go_roundw
    case rel=>exact ⟨k+1,by go_num,by omega,HNX.out,trivial⟩
    case measure=>simp [intOf];omega
  ·obtain rfl:k=n:=by omega
   go_wp2
   go_ret
   refine ⟨-1,rfl,⟨fun h=>by omega,fun h=>?_⟩,rfl⟩
   have:=HX.out
   rw [List.take_of_length_le (by rw [HN.out];exact Nat.le_refl _)] at this
   exact absurd h this
theorem contains_i (l:List Int) (x:Int) (v:Value) (w:World) (h:RdC w v l.length (flI l)) (hm:l.length≤maxLen):Calls Tryz.prog 126 #[v,.int .i64 x] w fun e w'=>e=.returned (.bool (decide (x∈l)))∧w=w':=by
 have HI:=Lib.hid (index_i l x v w h hm)
 clear h hm
 go_enter Tryz.func126,Tryz.ntmps126
 go_wp2_with (go_at_call 149;((with_reducible refine HI.out.mono ?_);rintro e w2 ⟨i,rfl,hi,rfl⟩);have HJ:=Lib.hid hi;clear hi)
 go_ret
 have hb:decide (0≤i)=decide (x∈l):=decide_eq_decide.2 HJ.out
 exact ⟨by rw [←hb];rfl,rfl⟩
set_option maxRecDepth 100000 in
set_option maxHeartbeats 4000000 in
theorem distinct_i (l:List Int) (v:Value) (w:World) (h:RdC w v l.length (flI l)) (hc:Cp v l.length):Calls Tryz.prog 100 #[v] w fun e w'=>e=.returned (.bool (decide l.Nodup))∧w=w':=by
 obtain ⟨p,c,rfl,hle,hcm⟩:=hc
 have HC:=Lib.hid (fun hk:0 < l.length=>h.at_ (size:=1) rfl hk)
 obtain ⟨n,hn⟩:∃ n,l.length=n:=⟨_,rfl⟩
 rw [hn] at hle HC ⊢
 have HN:=Lib.hid hn
 have hm2:n≤9223372036854775807:=by unfold maxLen at hcm;omega
 have HCM:=Lib.hid (And.intro hle hcm)
 have hz:∀ W,(sizeOf (Tryz.prog.elem 120)).run Tryz.prog W=.ok 1 W:=fun W=>by kernel_rfl
 have HZ:=Lib.hid hz
 clear h hn hcm hle hz
 go_enter Tryz.func100,Tryz.ntmps100
 go_wp2
 go_loopw [7] (fun s7 wr=>∃ k:Nat,s7=.int .i64 k∧k≤n∧Aside ((l.take k).Nodup)∧Aside (w=wr)) (fun s7 _=>n - (intOf s7).toNat)
 case atStart=>exact ⟨0,rfl,Nat.zero_le _,by show (l.take 0).Nodup;simp,rfl⟩
 case round =>
  obtain ⟨k,rfl,hk,hnx,hw⟩:=hrel
  have HX:=Lib.hid (show (l.take k).Nodup from hnx)
  have hw:w=wr:=hw
  subst hw
  clear hnx
  by_cases hkn:k < n
  ·obtain ⟨b,off,rfl,hb,hc⟩:=HC.out (by omega)
   obtain ⟨y,hy⟩:∃ y,l[k]?=some y:=⟨_,List.getElem?_eq_getElem (by rw [HN.out];exact hkn)⟩
   have c0:w.cell? ⟨b,off+k,none⟩=some (.int .i64 y):=by
    have:=hc.elt (f:=cI) (k:=1) (fun _=>rfl) (j:=0) hy (by decide) rfl
    rwa [Nat.mul_one,Nat.add_zero] at this
   have HY:=Lib.hid hy
   have hsl:∀ W,(Instr.slice 120 (.slice (some ⟨b,off,none⟩) n c) none (some (.int .i64 (k:Int))) none).run Tryz.prog W=.ok (.slice (some ⟨b,off,none⟩) k c) W:=fun W=>by
    rw [run_slice_h W 120 (some ⟨b,off,none⟩) n c Tryz.underlying120 .i64 (k:Int) (by omega) (by have:=HCM.out.1;omega),HZ.out]
    unfold sliced
    simp [Addr.add_lit,Result.andThen]
   have hrd:RdC w (.slice (some ⟨b,off,none⟩) k c) (l.take k).length (flI (l.take k)):=by
    have hlk:(l.take k).length=k:=by rw [List.length_take,HN.out];omega
    rw [hlk]
    refine .inr ⟨b,off,c,rfl,hb,fun j u hj=>hc j u ?_⟩
    have e:flI l=flI (l.take k)++flI (l.drop k):=by rw [←flI_app,List.take_append_drop]
    have:(flI l)[j]?=some u:=by rw [e,List.getElem?_append_left (List.getElem?_eq_some_iff.1 hj).1];exact hj
    exact this
   have HCT:=Lib.hid (contains_i (l.take k) y _ w hrd (by rw [List.length_take,HN.out];unfold maxLen;omega))
   clear hc hy hrd
   by_cases he:y∈l.take k
   ·rw [decide_eq_true he] at HCT
    have HND:=Lib.hid (show decide l.Nodup=false from decide_eq_false fun h=>((nodup_take_succ HY.out).1 (h.sublist (List.take_sublist _ _))).2 he)
    clear he
    go_wp2_with (go_at_call 126;((with_reducible refine HCT.out.mono ?_);rintro e w2 ⟨rfl,rfl⟩))
    go_ret
    exact ⟨by rw [HND.out];rfl,rfl⟩
   ·rw [decide_eq_false he] at HCT
    have HND:=Lib.hid (show (l.take (k+1)).Nodup from (nodup_take_succ HY.out).2 ⟨HX.out,he⟩)
    clear he
    go_wp2_with (go_at_call 126;((with_reducible refine HCT.out.mono ?_);rintro e w2 ⟨rfl,rfl⟩))
    go_roundw
    case rel=>exact ⟨k+1,by go_num,by omega,HND.out,trivial⟩
    case measure=>simp [intOf];omega
  ·obtain rfl:k=n:=by omega
   have hnd:l.Nodup:=by
    have:=HX.out
    rwa [List.take_of_length_le (by rw [HN.out];exact Nat.le_refl _)] at this
   have HND:=Lib.hid hnd
   clear hnd
   go_wp2
   go_ret
   exact ⟨by rw [decide_eq_true HND.out];rfl,rfl⟩
end Go.Proofs.YtekcjfdllclphaaGreatDoor.gn
end
section
set_option linter.unusedVariables false
set_option linter.unusedSimpArgs false
namespace Go.Proofs.YtekcjfdllclphaaGreatDoor.gn
open Go.RowKit
open Go.Proofs.YtekcjfdllclphaaGreatDoor.un
open Go.Proofs.YtekcjfdllclphaaGreatDoor.di
open Go.Proofs.YtekcjfdllclphaaGreatDoor.sp (Slip)
theorem dep_dec (d e:Dep):decide (d=e)=(d.1 == e.1 && d.2 == e.2):=by
 rw [Bool.eq_iff_iff]
 obtain ⟨a,b⟩:=d
 obtain ⟨c,f⟩:=e
 simp
set_option maxRecDepth 100000 in
theorem dep_eqIn (d e:Dep) (W:World):(Op.equalIn 10000 88 (.agg #[.int .i64 d.1,.bool d.2]) (.agg #[.int .i64 e.1,.bool e.2])).run Tryz.prog W=.ok (decide (d=e)) W:=by
 rw [dep_dec,run_equalIn_agg W 9999 88 #[.int .i64 d.1,.bool d.2] #[.int .i64 e.1,.bool e.2] (by kernel_rfl) (by kernel_rfl)]
 unfold Program.fieldsOf
 rw [Tryz.underlying88]
 simp [Op.eqFields,go_sem,Tryz.underlying2,Tryz.underlying4]
 by_cases h1:d.1=e.1 <;> by_cases h2:d.2=e.2 <;> simp [h1,h2]
theorem dep_ne (d e:Dep) (W:World):(binOp .neq 88 (.agg #[.int .i64 d.1,.bool d.2]) (.agg #[.int .i64 e.1,.bool e.2])).run Tryz.prog W=.ok (.bool (!decide (d=e))) W:=by
 rw [run_neq_struct,dep_eqIn]
 rfl
theorem take_same {α:Type} {l m:List α} {k:Nat} {x y:α} (hx:l[k]?=some x) (hy:m[k]?=some y) (he:x=y) (h:l.take k=m.take k):l.take (k+1)=m.take (k+1):=by
 rw [take_snoc hx,take_snoc hy,h,he]
theorem ne_at {α:Type} {l m:List α} {k:Nat} {x y:α} (hx:l[k]?=some x) (hy:m[k]?=some y) (he:¬ x=y):¬ l=m:=fun e=>he (by rw [e,hy] at hx;exact (Option.some.inj hx).symm)
set_option maxRecDepth 100000 in
set_option maxHeartbeats 4000000 in
theorem equal_A (l m:List Dep) (v u:Value) (w:World) (h:RdC w v l.length (flA l)) (h':RdC w u m.length (flA m)) (hm:l.length≤maxLen) (hm':m.length≤maxLen):Calls Tryz.prog 62 #[v,u] w (Told (.bool (decide (l=m))) w):=by
 obtain ⟨p,c,rfl⟩:=h.form
 obtain ⟨p',c',rfl⟩:=h'.form
 have HC:=Lib.hid (fun hk:0 < l.length=>h.at_ (size:=2) rfl hk)
 have HC':=Lib.hid (fun hk:0 < m.length=>h'.at_ (size:=2) rfl hk)
 by_cases hlen:l.length=m.length
 ·obtain ⟨n,hn⟩:∃ n,l.length=n:=⟨_,rfl⟩
  have hn':m.length=n:=hlen ▸ hn
  rw [hn] at hm HC ⊢
  rw [hn'] at HC' ⊢
  have HN:=Lib.hid hn
  have HN':=Lib.hid hn'
  have hm2:n≤9223372036854775807:=by unfold maxLen at hm;omega
  clear h h' hn hn' hm hm' hlen
  go_enter Tryz.func62,Tryz.ntmps62
  go_wp2
  go_loopw [13] (fun s13 wr=>∃ k:Nat,s13=.int .i64 k∧k≤n∧Aside (l.take k=m.take k)∧Aside (Below w.heap.size w wr)) (fun s13 _=>n - (intOf s13).toNat)
  case atStart=>exact ⟨0,rfl,Nat.zero_le _,by show l.take 0=m.take 0;simp,Below.refl _ _⟩
  case round =>
   obtain ⟨k,rfl,hk,hnx,hb⟩:=hrel
   have HX:=Lib.hid (show l.take k=m.take k from hnx)
   have hb:Below w.heap.size w wr:=hb
   have HB:=Lib.hid hb
   clear hnx
   by_cases hkn:k < n
   ·obtain ⟨b,off,rfl,hbl,hc⟩:=HC.out (by omega)
    obtain ⟨b',off',rfl,hbl',hc'⟩:=HC'.out (by omega)
    obtain ⟨x,hx⟩:∃ x,l[k]?=some x:=⟨_,List.getElem?_eq_getElem (by rw [HN.out];exact hkn)⟩
    obtain ⟨y,hy⟩:∃ y,m[k]?=some y:=⟨_,List.getElem?_eq_getElem (by rw [HN'.out];exact hkn)⟩
    have c0:wr.cell? ⟨b,off+k * 2,none⟩=some (.int .i64 x.1):=by
     have:=(Below.cell hb (p:=⟨b,off+(k * 2+0),none⟩) hbl).trans (hc.elt (f:=cA) (k:=2) (fun _=>rfl) (j:=0) hx (by decide) rfl)
     first | exact this | (rw [←Nat.add_assoc] at this;exact this) | (rw [Nat.mul_one,Nat.add_zero] at this;exact this)
    have c1:wr.cell? ⟨b,off+k * 2+1,none⟩=some (.bool x.2):=by
     have:=(Below.cell hb (p:=⟨b,off+(k * 2+1),none⟩) hbl).trans (hc.elt (f:=cA) (k:=2) (fun _=>rfl) (j:=1) hx (by decide) rfl)
     first | exact this | (rw [←Nat.add_assoc] at this;exact this) | (rw [Nat.mul_one,Nat.add_zero] at this;exact this)
    have d0:wr.cell? ⟨b',off'+k * 2,none⟩=some (.int .i64 y.1):=by
     have:=(Below.cell hb (p:=⟨b',off'+(k * 2+0),none⟩) hbl').trans (hc'.elt (f:=cA) (k:=2) (fun _=>rfl) (j:=0) hy (by decide) rfl)
     first | exact this | (rw [←Nat.add_assoc] at this;exact this) | (rw [Nat.mul_one,Nat.add_zero] at this;exact this)
    have d1:wr.cell? ⟨b',off'+k * 2+1,none⟩=some (.bool y.2):=by
     have:=(Below.cell hb (p:=⟨b',off'+(k * 2+1),none⟩) hbl').trans (hc'.elt (f:=cA) (k:=2) (fun _=>rfl) (j:=1) hy (by decide) rfl)
     first | exact this | (rw [←Nat.add_assoc] at this;exact this) | (rw [Nat.mul_one,Nat.add_zero] at this;exact this)
    have HY:=Lib.hid (And.intro hx hy)
    have hbw:b < wr.heap.size:=Nat.lt_of_lt_of_le hbl hb.size
    have hbw':b' < wr.heap.size:=Nat.lt_of_lt_of_le hbl' hb.size
    clear hc hc' hx hy hbl hbl' hb
    by_cases he:x=y
    ·have HM:=Lib.hid (take_same HY.out.1 HY.out.2 he HX.out)
     have q1:∀ W,(binOp .neq 88 (.agg #[.int .i64 x.1,.bool x.2]) (.agg #[.int .i64 y.1,.bool y.2])).run Tryz.prog W=.ok (.bool false) W:=fun W=>by rw [dep_ne,decide_eq_true he];rfl
     clear he
     go_wp2_with (go_quiet (fail))
     go_roundw
     case rel=>exact ⟨k+1,by go_num,by omega,HM.out,HB.out.trans (Joins.below_draws _ _ _)⟩
     case measure=>simp [intOf];omega
    ·have HM:=Lib.hid (ne_at HY.out.1 HY.out.2 he)
     have q1:∀ W,(binOp .neq 88 (.agg #[.int .i64 x.1,.bool x.2]) (.agg #[.int .i64 y.1,.bool y.2])).run Tryz.prog W=.ok (.bool true) W:=fun W=>by rw [dep_ne,decide_eq_false he];rfl
     clear he
     go_wp2_with (go_quiet (fail))
     go_ret
     exact ⟨by rw [decide_eq_false HM.out];rfl,HB.out.trans (Joins.below_draws _ _ _)⟩
   ·obtain rfl:k=n:=by omega
    have hfin:l=m:=by
     have:=HX.out
     rwa [List.take_of_length_le (by rw [HN.out];exact Nat.le_refl _),List.take_of_length_le (by rw [HN'.out];exact Nat.le_refl _)] at this
    have HF:=Lib.hid hfin
    clear hfin hb
    go_wp2
    go_ret
    exact ⟨by rw [decide_eq_true HF.out];rfl,HB.out⟩
 ·have HF:=Lib.hid (show ¬ l=m from fun e=>hlen (by rw [e]))
  have hne:¬ ((l.length:Nat):Int)=((m.length:Nat):Int):=by omega
  have hnb:(((l.length:Nat):Int) == ((m.length:Nat):Int))=false:=by rw [beq_eq_false_iff_ne];exact hne
  clear h h' hlen
  generalize l.length=n1 at *
  generalize m.length=n2 at *
  go_enter Tryz.func62,Tryz.ntmps62
  go_wp2
  go_ret
  exact ⟨by rw [decide_eq_false HF.out];rfl,Below.refl _ _⟩
set_option maxRecDepth 100000 in
set_option maxHeartbeats 4000000 in
theorem equal_M (l m:List Dir) (v u:Value) (w:World) (h:RdC w v l.length (flM l)) (h':RdC w u m.length (flM m)) (hm:l.length≤maxLen) (hm':m.length≤maxLen):Calls Tryz.prog 63 #[v,u] w (Told (.bool (decide (l=m))) w):=by
 obtain ⟨p,c,rfl⟩:=h.form
 obtain ⟨p',c',rfl⟩:=h'.form
 have HC:=Lib.hid (fun hk:0 < l.length=>h.at_ (size:=5) rfl hk)
 have HC':=Lib.hid (fun hk:0 < m.length=>h'.at_ (size:=5) rfl hk)
 by_cases hlen:l.length=m.length
 ·obtain ⟨n,hn⟩:∃ n,l.length=n:=⟨_,rfl⟩
  have hn':m.length=n:=hlen ▸ hn
  rw [hn] at hm HC ⊢
  rw [hn'] at HC' ⊢
  have HN:=Lib.hid hn
  have HN':=Lib.hid hn'
  have hm2:n≤9223372036854775807:=by unfold maxLen at hm;omega
  clear h h' hn hn' hm hm' hlen
  go_enter Tryz.func63,Tryz.ntmps63
  go_wp2
  go_loopw [13] (fun s13 wr=>∃ k:Nat,s13=.int .i64 k∧k≤n∧Aside (l.take k=m.take k)∧Aside (Below w.heap.size w wr)) (fun s13 _=>n - (intOf s13).toNat)
  case atStart=>exact ⟨0,rfl,Nat.zero_le _,by show l.take 0=m.take 0;simp,Below.refl _ _⟩
  case round =>
   obtain ⟨k,rfl,hk,hnx,hb⟩:=hrel
   have HX:=Lib.hid (show l.take k=m.take k from hnx)
   have hb:Below w.heap.size w wr:=hb
   have HB:=Lib.hid hb
   clear hnx
   by_cases hkn:k < n
   ·obtain ⟨b,off,rfl,hbl,hc⟩:=HC.out (by omega)
    obtain ⟨b',off',rfl,hbl',hc'⟩:=HC'.out (by omega)
    obtain ⟨x,hx⟩:∃ x,l[k]?=some x:=⟨_,List.getElem?_eq_getElem (by rw [HN.out];exact hkn)⟩
    obtain ⟨y,hy⟩:∃ y,m[k]?=some y:=⟨_,List.getElem?_eq_getElem (by rw [HN'.out];exact hkn)⟩
    have c0:wr.cell? ⟨b,off+k * 5,none⟩=some (.int .u8 (x.kind:Nat)):=by
     have:=(Below.cell hb (p:=⟨b,off+(k * 5+0),none⟩) hbl).trans (hc.elt (f:=cM) (k:=5) (fun _=>rfl) (j:=0) hx (by decide) rfl)
     first | exact this | (rw [←Nat.add_assoc] at this;exact this) | (rw [Nat.mul_one,Nat.add_zero] at this;exact this)
    have c1:wr.cell? ⟨b,off+k * 5+1,none⟩=some (.string (str x.name)):=by
     have:=(Below.cell hb (p:=⟨b,off+(k * 5+1),none⟩) hbl).trans (hc.elt (f:=cM) (k:=5) (fun _=>rfl) (j:=1) hx (by decide) rfl)
     first | exact this | (rw [←Nat.add_assoc] at this;exact this) | (rw [Nat.mul_one,Nat.add_zero] at this;exact this)
    have c2:wr.cell? ⟨b,off+k * 5+2,none⟩=some (.string (str x.pool)):=by
     have:=(Below.cell hb (p:=⟨b,off+(k * 5+2),none⟩) hbl).trans (hc.elt (f:=cM) (k:=5) (fun _=>rfl) (j:=2) hx (by decide) rfl)
     first | exact this | (rw [←Nat.add_assoc] at this;exact this) | (rw [Nat.mul_one,Nat.add_zero] at this;exact this)
    have c3:wr.cell? ⟨b,off+k * 5+3,none⟩=some (.int .i64 x.size):=by
     have:=(Below.cell hb (p:=⟨b,off+(k * 5+3),none⟩) hbl).trans (hc.elt (f:=cM) (k:=5) (fun _=>rfl) (j:=3) hx (by decide) rfl)
     first | exact this | (rw [←Nat.add_assoc] at this;exact this) | (rw [Nat.mul_one,Nat.add_zero] at this;exact this)
    have c4:wr.cell? ⟨b,off+k * 5+4,none⟩=some (.bool x.opn):=by
     have:=(Below.cell hb (p:=⟨b,off+(k * 5+4),none⟩) hbl).trans (hc.elt (f:=cM) (k:=5) (fun _=>rfl) (j:=4) hx (by decide) rfl)
     first | exact this | (rw [←Nat.add_assoc] at this;exact this) | (rw [Nat.mul_one,Nat.add_zero] at this;exact this)
    have d0:wr.cell? ⟨b',off'+k * 5,none⟩=some (.int .u8 (y.kind:Nat)):=by
     have:=(Below.cell hb (p:=⟨b',off'+(k * 5+0),none⟩) hbl').trans (hc'.elt (f:=cM) (k:=5) (fun _=>rfl) (j:=0) hy (by decide) rfl)
     first | exact this | (rw [←Nat.add_assoc] at this;exact this) | (rw [Nat.mul_one,Nat.add_zero] at this;exact this)
    have d1:wr.cell? ⟨b',off'+k * 5+1,none⟩=some (.string (str y.name)):=by
     have:=(Below.cell hb (p:=⟨b',off'+(k * 5+1),none⟩) hbl').trans (hc'.elt (f:=cM) (k:=5) (fun _=>rfl) (j:=1) hy (by decide) rfl)
     first | exact this | (rw [←Nat.add_assoc] at this;exact this) | (rw [Nat.mul_one,Nat.add_zero] at this;exact this)
    have d2:wr.cell? ⟨b',off'+k * 5+2,none⟩=some (.string (str y.pool)):=by
     have:=(Below.cell hb (p:=⟨b',off'+(k * 5+2),none⟩) hbl').trans (hc'.elt (f:=cM) (k:=5) (fun _=>rfl) (j:=2) hy (by decide) rfl)
     first | exact this | (rw [←Nat.add_assoc] at this;exact this) | (rw [Nat.mul_one,Nat.add_zero] at this;exact this)
    have d3:wr.cell? ⟨b',off'+k * 5+3,none⟩=some (.int .i64 y.size):=by
     have:=(Below.cell hb (p:=⟨b',off'+(k * 5+3),none⟩) hbl').trans (hc'.elt (f:=cM) (k:=5) (fun _=>rfl) (j:=3) hy (by decide) rfl)
     first | exact this | (rw [←Nat.add_assoc] at this;exact this) | (rw [Nat.mul_one,Nat.add_zero] at this;exact this)
    have d4:wr.cell? ⟨b',off'+k * 5+4,none⟩=some (.bool y.opn):=by
     have:=(Below.cell hb (p:=⟨b',off'+(k * 5+4),none⟩) hbl').trans (hc'.elt (f:=cM) (k:=5) (fun _=>rfl) (j:=4) hy (by decide) rfl)
     first | exact this | (rw [←Nat.add_assoc] at this;exact this) | (rw [Nat.mul_one,Nat.add_zero] at this;exact this)
    have HY:=Lib.hid (And.intro hx hy)
    have hbw:b < wr.heap.size:=Nat.lt_of_lt_of_le hbl hb.size
    have hbw':b' < wr.heap.size:=Nat.lt_of_lt_of_le hbl' hb.size
    clear hc hc' hx hy hbl hbl' hb
    by_cases he:x=y
    ·have HM:=Lib.hid (take_same HY.out.1 HY.out.2 he HX.out)
     have q1:∀ W,(binOp .neq 80 (.agg #[.int .u8 (x.kind:Nat),.string (str x.name),.string (str x.pool),.int .i64 x.size,.bool x.opn]) (.agg #[.int .u8 (y.kind:Nat),.string (str y.name),.string (str y.pool),.int .i64 y.size,.bool y.opn])).run Tryz.prog W=.ok (.bool false) W:=fun W=>(dir_ne x y W).trans (by rw [decide_eq_true he];rfl)
     clear he
     go_wp2_with (go_quiet (fail))
     go_roundw
     case rel=>exact ⟨k+1,by go_num,by omega,HM.out,HB.out.trans (Joins.below_draws _ _ _)⟩
     case measure=>simp [intOf];omega
    ·have HM:=Lib.hid (ne_at HY.out.1 HY.out.2 he)
     have q1:∀ W,(binOp .neq 80 (.agg #[.int .u8 (x.kind:Nat),.string (str x.name),.string (str x.pool),.int .i64 x.size,.bool x.opn]) (.agg #[.int .u8 (y.kind:Nat),.string (str y.name),.string (str y.pool),.int .i64 y.size,.bool y.opn])).run Tryz.prog W=.ok (.bool true) W:=fun W=>(dir_ne x y W).trans (by rw [decide_eq_false he];rfl)
     clear he
     go_wp2_with (go_quiet (fail))
     go_ret
     exact ⟨by rw [decide_eq_false HM.out];rfl,HB.out.trans (Joins.below_draws _ _ _)⟩
   ·obtain rfl:k=n:=by omega
    have hfin:l=m:=by
     have:=HX.out
     rwa [List.take_of_length_le (by rw [HN.out];exact Nat.le_refl _),List.take_of_length_le (by rw [HN'.out];exact Nat.le_refl _)] at this
    have HF:=Lib.hid hfin
    clear hfin hb
    go_wp2
    go_ret
    exact ⟨by rw [decide_eq_true HF.out];rfl,HB.out⟩
 ·have HF:=Lib.hid (show ¬ l=m from fun e=>hlen (by rw [e]))
  have hne:¬ ((l.length:Nat):Int)=((m.length:Nat):Int):=by omega
  have hnb:(((l.length:Nat):Int) == ((m.length:Nat):Int))=false:=by rw [beq_eq_false_iff_ne];exact hne
  clear h h' hlen
  generalize l.length=n1 at *
  generalize m.length=n2 at *
  go_enter Tryz.func63,Tryz.ntmps63
  go_wp2
  go_ret
  exact ⟨by rw [decide_eq_false HF.out];rfl,Below.refl _ _⟩
set_option maxRecDepth 100000 in
set_option maxHeartbeats 4000000 in
theorem equal_S (l m:List Tx) (v u:Value) (w:World) (h:RdC w v l.length (flS l)) (h':RdC w u m.length (flS m)) (hm:l.length≤maxLen) (hm':m.length≤maxLen):Calls Tryz.prog 64 #[v,u] w (Told (.bool (decide (l=m))) w):=by
 obtain ⟨p,c,rfl⟩:=h.form
 obtain ⟨p',c',rfl⟩:=h'.form
 have HC:=Lib.hid (fun hk:0 < l.length=>h.at_ (size:=1) rfl hk)
 have HC':=Lib.hid (fun hk:0 < m.length=>h'.at_ (size:=1) rfl hk)
 by_cases hlen:l.length=m.length
 ·obtain ⟨n,hn⟩:∃ n,l.length=n:=⟨_,rfl⟩
  have hn':m.length=n:=hlen ▸ hn
  rw [hn] at hm HC ⊢
  rw [hn'] at HC' ⊢
  have HN:=Lib.hid hn
  have HN':=Lib.hid hn'
  have hm2:n≤9223372036854775807:=by unfold maxLen at hm;omega
  clear h h' hn hn' hm hm' hlen
  go_enter Tryz.func64,Tryz.ntmps64
  go_wp2
  go_loopw [13] (fun s13 wr=>∃ k:Nat,s13=.int .i64 k∧k≤n∧Aside (l.take k=m.take k)∧Aside (Below w.heap.size w wr)) (fun s13 _=>n - (intOf s13).toNat)
  case atStart=>exact ⟨0,rfl,Nat.zero_le _,by show l.take 0=m.take 0;simp,Below.refl _ _⟩
  case round =>
   obtain ⟨k,rfl,hk,hnx,hb⟩:=hrel
   have HX:=Lib.hid (show l.take k=m.take k from hnx)
   have hb:Below w.heap.size w wr:=hb
   have HB:=Lib.hid hb
   clear hnx
   by_cases hkn:k < n
   ·obtain ⟨b,off,rfl,hbl,hc⟩:=HC.out (by omega)
    obtain ⟨b',off',rfl,hbl',hc'⟩:=HC'.out (by omega)
    obtain ⟨x,hx⟩:∃ x,l[k]?=some x:=⟨_,List.getElem?_eq_getElem (by rw [HN.out];exact hkn)⟩
    obtain ⟨y,hy⟩:∃ y,m[k]?=some y:=⟨_,List.getElem?_eq_getElem (by rw [HN'.out];exact hkn)⟩
    have c0:wr.cell? ⟨b,off+k,none⟩=some (.string (str x)):=by
     have:=(Below.cell hb (p:=⟨b,off+(k * 1+0),none⟩) hbl).trans (hc.elt (f:=cS) (k:=1) (fun _=>rfl) (j:=0) hx (by decide) rfl)
     first | exact this | (rw [←Nat.add_assoc] at this;exact this) | (rw [Nat.mul_one,Nat.add_zero] at this;exact this)
    have d0:wr.cell? ⟨b',off'+k,none⟩=some (.string (str y)):=by
     have:=(Below.cell hb (p:=⟨b',off'+(k * 1+0),none⟩) hbl').trans (hc'.elt (f:=cS) (k:=1) (fun _=>rfl) (j:=0) hy (by decide) rfl)
     first | exact this | (rw [←Nat.add_assoc] at this;exact this) | (rw [Nat.mul_one,Nat.add_zero] at this;exact this)
    have HY:=Lib.hid (And.intro hx hy)
    have hbw:b < wr.heap.size:=Nat.lt_of_lt_of_le hbl hb.size
    have hbw':b' < wr.heap.size:=Nat.lt_of_lt_of_le hbl' hb.size
    clear hc hc' hx hy hbl hbl' hb
    by_cases he:x=y
    ·have HM:=Lib.hid (take_same HY.out.1 HY.out.2 he HX.out)
     obtain ⟨q1,q2⟩:=(⟨by rw [eq_str];exact decide_eq_true he,by rw [he]⟩:((str x).toList == (str y).toList)=true∧(str x).toList=(str y).toList)
     clear he
     go_wp2_with (go_quiet (fail))
     go_roundw
     case rel=>exact ⟨k+1,by go_num,by omega,HM.out,HB.out.trans (Joins.below_draws _ _ _)⟩
     case measure=>simp [intOf];omega
    ·have HM:=Lib.hid (ne_at HY.out.1 HY.out.2 he)
     obtain ⟨q1,q2⟩:=(⟨by rw [eq_str];exact decide_eq_false he,fun h=>he (by rw [str_toList,str_toList] at h;exact h)⟩:((str x).toList == (str y).toList)=false∧¬ (str x).toList=(str y).toList)
     clear he
     go_wp2_with (go_quiet (fail))
     go_ret
     exact ⟨by rw [decide_eq_false HM.out];rfl,HB.out.trans (Joins.below_draws _ _ _)⟩
   ·obtain rfl:k=n:=by omega
    have hfin:l=m:=by
     have:=HX.out
     rwa [List.take_of_length_le (by rw [HN.out];exact Nat.le_refl _),List.take_of_length_le (by rw [HN'.out];exact Nat.le_refl _)] at this
    have HF:=Lib.hid hfin
    clear hfin hb
    go_wp2
    go_ret
    exact ⟨by rw [decide_eq_true HF.out];rfl,HB.out⟩
 ·have HF:=Lib.hid (show ¬ l=m from fun e=>hlen (by rw [e]))
  have hne:¬ ((l.length:Nat):Int)=((m.length:Nat):Int):=by omega
  have hnb:(((l.length:Nat):Int) == ((m.length:Nat):Int))=false:=by rw [beq_eq_false_iff_ne];exact hne
  clear h h' hlen
  generalize l.length=n1 at *
  generalize m.length=n2 at *
  go_enter Tryz.func64,Tryz.ntmps64
  go_wp2
  go_ret
  exact ⟨by rw [decide_eq_false HF.out];rfl,Below.refl _ _⟩
end Go.Proofs.YtekcjfdllclphaaGreatDoor.gn
end
