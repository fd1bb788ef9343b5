/- Directives, plain: the text with another size. -/
import Derived.Test.YtekcjfdllclphaaGreatDoorMQbSlN
import Derived.Test.YtekcjfdllclphaaGreatDoorMQbGen
import Derived.Test.YtekcjfdllclphaaGreatDoorMQbDiO
import Derived.Laws.StructEq
import Derived.Test.YtekcjfdllclphaaGreatDoorMQbGenTail
import Derived.Ground.NamesProg
import Derived.Shelf.Strings.Cut
import Derived.Shelf.Strings.Prefix
import Derived.Shelf.Strings.Split
import Derived.Test.YtekcjfdllclphaaGreatDoorProg
import Derived.RangeFuncNested
import Derived.RangeFuncLeaves
import Derived.Shelf.RegionOpen
set_option linter.unusedVariables false
section
namespace Go.Proofs.YtekcjfdllclphaaGreatDoor.di
open Go.Proofs.YtekcjfdllclphaaGreatDoor.un
open Go.Lib (decDigits)
def capE:Tx:=[99,97,112,97,99,105,116,121,61]
def sizE:Tx:=[115,105,122,101,61]
def sub (kib w:Tx):Tx:=if 9 < w.length∧w.take 9=capE then capE++kib else if 5 < w.length∧w.take 5=sizE then sizE++kib else w
end Go.Proofs.YtekcjfdllclphaaGreatDoor.di
end
section
namespace Go.Proofs.YtekcjfdllclphaaGreatDoor.gn
open Go.RowKit
open Go.Proofs.YtekcjfdllclphaaGreatDoor.un
open Go.Proofs.YtekcjfdllclphaaGreatDoor.di
def BoxA (W:World) (B:Nat) (t:TypeId) (cs:Array Value):Prop:=W.heap[B]?=some (.cells cs t (0,0))
theorem BoxA.lt {W:World} {B:Nat} {t:TypeId} {cs:Array Value} (h:BoxA W B t cs):B < W.heap.size:=(Array.getElem?_eq_some_iff.1 h).1
theorem BoxA.cell {W:World} {B:Nat} {t:TypeId} {cs:Array Value} (h:BoxA W B t cs) (j:Nat) (v:Value) (hj:cs[j]?=some v:=by rfl):W.cell? ⟨B,j,none⟩=some v:=by
 simp [World.cell?,show W.heap[B]?=_ from h,hj]
theorem BoxA.free {W:World} {B:Nat} {t:TypeId} {cs:Array Value} (h:BoxA W B t cs) (j:Nat):W.frozen? ⟨B,j,none⟩=false:=by simp [World.frozen?,show W.heap[B]?=_ from h]
theorem BoxA.new (W:World) (t:TypeId) (cs:Array Value):BoxA (W.alloc (.cells cs t)) W.heap.size t cs:=heap_alloc_new W _
theorem BoxA.next {W W':World} {B:Nat} {t:TypeId} {cs:Array Value} (h:BoxA W B t cs) (hb:Below W.heap.size W W'):BoxA W' B t cs:=(hb.block B h.lt).trans h
theorem BoxA.but {R:Nat} {W W':World} {B:Nat} {t:TypeId} {cs:Array Value} (h:BoxA W B t cs) (hb:But R W W') (hne:B≠R):BoxA W' B t cs:=(hb.block B h.lt (fun e=>hne (Option.some.inj e))).trans h
theorem BoxA.set {W:World} {B:Nat} {t:TypeId} {cs:Array Value} (h:BoxA W B t cs) (j:Nat) (u:Value):BoxA (W.setCell ⟨B,j,none⟩ u) B t (cs.setIfInBounds j u):=heap_setCell h u
theorem BoxA.drew {W:World} {B:Nat} {t:TypeId} {cs:Array Value} (h:BoxA W B t cs):BoxA W.drew B t cs:=h
def dcs (d:Dir):Array Value:=#[.int .u8 (d.kind:Nat),.string (str d.name),.string (str d.pool),.int .i64 d.size,.bool d.opn]
def dV (d:Dir):Value:=.agg (dcs d)
theorem eq_str (a b:Tx):((str a).toList == (str b).toList)=decide (a=b):=by
 rw [str_toList,str_toList,Bool.eq_iff_iff,beq_iff_eq,decide_eq_true_eq]
theorem eq_lit (a c:Tx):((str a).toList == c)=decide (a=c):=by
 rw [str_toList,Bool.eq_iff_iff,beq_iff_eq,decide_eq_true_eq]
theorem lit_yes {a c:Tx} (h:a=c):((str a).toList == c)=true∧(str a).toList=c:=⟨by rw [eq_lit];exact decide_eq_true h,by rw [str_toList];exact h⟩
theorem lit_no {a c:Tx} (h:¬ a=c):((str a).toList == c)=false∧¬ (str a).toList=c:=⟨by rw [eq_lit];exact decide_eq_false h,by rw [str_toList];exact h⟩
theorem dir_dec (d e:Dir):decide (d=e)=(((d.kind:Nat):Int) == ((e.kind:Nat):Int) && (d.name == e.name && (d.pool == e.pool && (d.size == e.size && d.opn == e.opn)))):=by
 rw [Bool.eq_iff_iff]
 simp only [decide_eq_true_eq,Bool.and_eq_true,beq_iff_eq]
 obtain ⟨k,n,p,z,o⟩:=d
 obtain ⟨k',n',p',z',o'⟩:=e
 simp only [Dir.mk.injEq]
 constructor
 ·rintro ⟨rfl,rfl,rfl,rfl,rfl⟩;simp
 ·rintro ⟨h,rfl,rfl,rfl,rfl⟩
  exact ⟨by omega,rfl,rfl,rfl,rfl⟩
set_option maxRecDepth 100000 in
theorem dir_eqIn (d e:Dir) (W:World):(Op.equalIn 10000 80 (dV d) (dV e)).run Tryz.prog W=.ok (decide (d=e)) W:=by
 rw [dV,dV,dir_dec,run_equalIn_agg W 9999 80 (dcs d) (dcs e) (by kernel_rfl) (by kernel_rfl)]
 unfold Program.fieldsOf
 rw [Tryz.underlying80]
 simp [Op.eqFields,dcs,go_sem,Tryz.underlying5,Tryz.underlying9,Tryz.underlying2,Tryz.underlying4]
 simp only [str_toList]
 by_cases h1:((d.kind:Nat):Int)=((e.kind:Nat):Int) <;> by_cases h2:d.name=e.name <;> by_cases h3:d.pool=e.pool <;> by_cases h4:d.size=e.size <;> by_cases h5:d.opn=e.opn <;> simp [h1,h2,h3,h4,h5]
theorem dir_ne (d e:Dir) (W:World):(binOp .neq 80 (dV d) (dV e)).run Tryz.prog W=.ok (.bool (!decide (d=e))) W:=by
 rw [show dV d=.agg (dcs d) from rfl,show dV e=.agg (dcs e) from rfl,run_neq_struct,show (Op.equalIn 10000 80 (.agg (dcs d)) (.agg (dcs e))).run Tryz.prog W=_ from dir_eqIn d e W]
 rfl
set_option maxRecDepth 100000 in
theorem name_long (l:List UInt8) (hl:32 < l.length) (hm:l.length≤9223372036854775807) (w:World):Calls Tryz.prog 98 #[.string (str l)] w fun e w'=>e=.returned (.bool (isName l))∧Below w.heap.size w w':=by
 have hn:isName l=false:=by
  unfold isName
  rw [show decide (l.length≤32)=false from decide_eq_false (by omega)]
  simp
 rw [hn]
 have hz:=str_size l
 have hz0:32 < (str l).size:=by omega
 have hz1:(str l).size≤9223372036854775807:=by omega
 have hz2:(((str l).size:Int) == 0)=false:=by rw [beq_eq_false_iff_ne];omega
 have hz3:decide (32 < ((str l).size:Int))=true:=decide_eq_true (by omega)
 clear hn hl hm hz
 go_enter Tryz.func98,Tryz.ntmps98
 go_wp2
 go_ret
 exact ⟨rfl,Below.refl _ _⟩
theorem name_all (l:List UInt8) (hm:l.length≤9223372036854775807) (w:World):Calls Tryz.prog 98 #[.string (str l)] w fun e w'=>e=.returned (.bool (isName l))∧Below w.heap.size w w':=by
 by_cases h:32 < l.length
 ·exact name_long l h hm w
 ·exact name_any l (by omega) w
def Flds (w:World) (a:Nat) (L:List (Tx × Bool)):Prop:=a < w.heap.size∧∀ (i:Nat) (f:Tx × Bool),L[i]?=some f→w.cell? ⟨a,i * 2,none⟩=some (.string (str f.1))∧w.cell? ⟨a,i * 2+1,none⟩=some (.bool f.2)
theorem Flds.next {w w':World} {a:Nat} {L:List (Tx × Bool)} (h:Flds w a L) (hb:Below w.heap.size w w'):Flds w' a L :=
 ⟨Nat.lt_of_lt_of_le h.1 hb.size,fun i f hf=>⟨(Below.cell hb h.1).trans (h.2 i f hf).1,(Below.cell hb h.1).trans (h.2 i f hf).2⟩⟩
theorem Flds.but {R:Nat} {w w':World} {a:Nat} {L:List (Tx × Bool)} (h:Flds w a L) (hb:But R w w') (hne:a≠R):Flds w' a L :=
 ⟨Nat.lt_of_lt_of_le h.1 hb.size,fun i f hf=>⟨hb.cell (h.2 i f hf).1 hne,hb.cell (h.2 i f hf).2 hne⟩⟩
def rowV (k a:Nat):Value:=.agg #[.int .u8 (k:Nat),.slice (some ⟨a,0,none⟩) (fldL k).length (fldL k).length]
end Go.Proofs.YtekcjfdllclphaaGreatDoor.gn
end
section
namespace Go.Proofs.YtekcjfdllclphaaGreatDoor.gn
open Go.RowKit
open Go.Proofs.YtekcjfdllclphaaGreatDoor.un
open Go.Proofs.YtekcjfdllclphaaGreatDoor.di
def DirB (w:World) (b:Nat) (d:Dir):Prop:=BoxA w b 80 (dcs d)
def PtrB (w:World) (c b:Nat):Prop:=BoxA w c 157 #[.pointer (some ⟨b,0,none⟩)]
theorem DirB.cells {w:World} {b:Nat} {d:Dir} (h:DirB w b d):w.cell? ⟨b,0,none⟩=some (.int .u8 (d.kind:Nat))∧w.cell? ⟨b,1,none⟩=some (.string (str d.name))∧w.cell? ⟨b,2,none⟩=some (.string (str d.pool))∧w.cell? ⟨b,3,none⟩=some (.int .i64 d.size)∧w.cell? ⟨b,4,none⟩=some (.bool d.opn) :=
 ⟨BoxA.cell h 0 _ rfl,BoxA.cell h 1 _ rfl,BoxA.cell h 2 _ rfl,BoxA.cell h 3 _ rfl,BoxA.cell h 4 _ rfl⟩
theorem DirB.next {w w':World} {b:Nat} {d:Dir} (h:DirB w b d) (hb:Below w.heap.size w w'):DirB w' b d:=BoxA.next h hb
theorem DirB.lt {w:World} {b:Nat} {d:Dir} (h:DirB w b d):b < w.heap.size:=BoxA.lt h
theorem DirB.name {w:World} {b:Nat} {d:Dir} (h:DirB w b d) (v:Tx):DirB (w.setCell ⟨b,1,none⟩ (.string (str v))) b { d with name:=v }:=BoxA.set h 1 _
theorem DirB.pool {w:World} {b:Nat} {d:Dir} (h:DirB w b d) (v:Tx):DirB (w.setCell ⟨b,2,none⟩ (.string (str v))) b { d with pool:=v }:=BoxA.set h 2 _
theorem DirB.size {w:World} {b:Nat} {d:Dir} (h:DirB w b d) (n:Int):DirB (w.setCell ⟨b,3,none⟩ (.int .i64 n)) b { d with size:=n }:=BoxA.set h 3 _
theorem DirB.opn {w:World} {b:Nat} {d:Dir} (h:DirB w b d) (o:Bool):DirB (w.setCell ⟨b,4,none⟩ (.bool o)) b { d with opn:=o }:=BoxA.set h 4 _
theorem But.of_below {R:Nat} {w w':World} (h:Below w.heap.size w w'):But R w w':=⟨h.os,h.tape,h.output,h.size,fun i hi _=>h.block i hi⟩
def NameT (bd j:Nat) (v:Tx) (w:World) (e:Ending) (w':World):Prop :=
 e=.returned (.bool (isName v))∧∃ w1,Below w.heap.size w w1∧w'=if isName v=true then w1.setCell ⟨bd,j,none⟩ (.string (str v)) else w1
set_option maxRecDepth 100000 in
set_option maxHeartbeats 1600000 in
theorem storeName_any (bd j:Nat) (old:Tx) (v:Tx) (hv:v.length≤9223372036854775807) (w:World) (hc:w.cell? ⟨bd,j,none⟩=some (.string (str old))) (hf:w.frozen? ⟨bd,j,none⟩=false) (hlt:bd < w.heap.size) :
  Calls Tryz.prog 146 #[.pointer (some ⟨bd,j,none⟩),.string (str v)] w (NameT bd j v w):=by
 cases hn:isName v with
 | false =>
  have HN:=Lib.hid hn
  have HV:=Lib.hid hv
  clear hc hf hlt hn hv
  go_enter Tryz.func146,Tryz.ntmps146
  go_wp2_with (go_at_call 98;refine (name_all v HV.out _).mono ?_;rintro e w1 ⟨rfl,hb⟩;rw [HN.out];have HB:=Lib.hid hb;clear hb)
  go_ret
  exact ⟨by rw [HN.out];rfl,w1,HB.out,by rw [HN.out];rfl⟩
 | true =>
  have HN:=Lib.hid hn
  have HV:=Lib.hid hv
  have HL:=Lib.hid (show (str v).size≤281474976710656 by rw [str_size];have:=name_len hn;omega)
  have HC:=Lib.hid fun (W:World) (hb:Below w.heap.size w W)=>(Below.cell hb hlt).trans hc
  have HF:=Lib.hid fun (W:World) (hb:Below w.heap.size w W)=>(show W.frozen? ⟨bd,j,none⟩=false by rw [←hf];unfold World.frozen?;rw [hb.block bd hlt])
  clear hc hf hn hv
  go_enter Tryz.func146,Tryz.ntmps146
  go_wp2_with (first
   | (go_at_call 98;refine (name_all v HV.out _).mono ?_;rintro e w1 ⟨rfl,hb⟩;rw [HN.out];have HB:=Lib.hid hb;clear hb)
   | (go_at_call 117;refine (clone_any (str v) _ HL.out).mono ?_;rintro e w2 ⟨rfl,hb2⟩;have HB2:=Lib.hid (HB.out.trans (hb2.mono HB.out.size));have hc2:=HC.out _ HB2.out;have hf2:=HF.out _ HB2.out;clear hb2))
  go_ret
  exact ⟨by rw [HN.out];rfl,w2,HB2.out,by rw [HN.out];rfl⟩
end Go.Proofs.YtekcjfdllclphaaGreatDoor.gn
end
section
namespace Go.Proofs.YtekcjfdllclphaaGreatDoor.gn
open Go.RowKit
open Go.Proofs.YtekcjfdllclphaaGreatDoor.un
open Go.Proofs.YtekcjfdllclphaaGreatDoor.di
theorem sto_name (v:Tx) (d:Dir):sto nameK v d=if isName v=true then { d with name:=v } else d:=by unfold sto;rw [if_pos rfl]
theorem sto_pool (v:Tx) (d:Dir):sto poolK v d=if isName v=true then { d with pool:=v } else d:=by unfold sto;rw [if_neg (by decide),if_pos rfl]
theorem sto_acc (v:Tx) (d:Dir):sto accK v d={ d with opn:=v == pubV }:=by unfold sto;rw [if_neg (by decide),if_neg (by decide),if_pos rfl]
theorem sto_cap (v:Tx) (d:Dir):sto capK v d={ d with size:=(((size? v).getD 0:Nat):Int) }:=by unfold sto;rw [if_neg (by decide),if_neg (by decide),if_neg (by decide)]
theorem sto_size (v:Tx) (d:Dir):sto sizeK v d={ d with size:=(((size? v).getD 0:Nat):Int) }:=by unfold sto;rw [if_neg (by decide),if_neg (by decide),if_neg (by decide)]
theorem okv_cap (v:Tx):okv capK v=decide (0 < (size? v).getD 0):=by unfold okv;rw [if_pos (.inl rfl)]
theorem okv_siz (v:Tx):okv sizeK v=decide (0 < (size? v).getD 0):=by unfold okv;rw [if_pos (.inr rfl)]
def StoT (bd:Nat) (key v:Tx) (d:Dir) (w:World) (e:Ending) (w':World):Prop :=
 e=.returned (.bool (okv key v))∧But bd w w'∧DirB w' bd (sto key v d)
set_option maxRecDepth 100000 in
set_option maxHeartbeats 1600000 in
theorem sto_name_any (c bd:Nat) (d:Dir) (v:Tx) (hv:v.length≤9223372036854775807) (w:World) (hp:PtrB w c bd) (hd:DirB w bd d) :
  Calls Tryz.prog 145 #[.string (str v),.pointer (some ⟨c,0,none⟩)] w (StoT bd nameK v d w):=by
 have hc:w.cell? ⟨c,0,none⟩=some (.pointer (some ⟨bd,0,none⟩)):=BoxA.cell hp 0 _ rfl
 have HD:=Lib.hid hd
 have HV:=Lib.hid hv
 clear hp hd hv
 go_enter Tryz.func145,Tryz.ntmps145
 go_wp2_with (go_at_call 146;refine (storeName_any bd 1 d.name v HV.out _ HD.out.cells.2.1 (BoxA.free HD.out 1) HD.out.lt).mono ?_;rintro e w1 ⟨rfl,w2,hb,hw⟩;have HB:=Lib.hid hb;have HW:=Lib.hid hw;clear hb hw)
 go_ret
 refine ⟨by rw [okv_name];rfl,?_,?_⟩
 ·rw [HW.out]
  split
  ·exact (But.of_below HB.out).setCell _ _
  ·exact But.of_below HB.out
 ·rw [HW.out,sto_name]
  split
  ·exact (HD.out.next HB.out).name v
  ·exact HD.out.next HB.out
set_option maxRecDepth 100000 in
set_option maxHeartbeats 1600000 in
theorem sto_pool_any (c bd:Nat) (d:Dir) (v:Tx) (hv:v.length≤9223372036854775807) (w:World) (hp:PtrB w c bd) (hd:DirB w bd d) :
  Calls Tryz.prog 147 #[.string (str v),.pointer (some ⟨c,0,none⟩)] w (StoT bd poolK v d w):=by
 have hc:w.cell? ⟨c,0,none⟩=some (.pointer (some ⟨bd,0,none⟩)):=BoxA.cell hp 0 _ rfl
 have HD:=Lib.hid hd
 have HV:=Lib.hid hv
 clear hp hd hv
 go_enter Tryz.func147,Tryz.ntmps147
 go_wp2_with (go_at_call 146;refine (storeName_any bd 2 d.pool v HV.out _ HD.out.cells.2.2.1 (BoxA.free HD.out 2) HD.out.lt).mono ?_;rintro e w1 ⟨rfl,w2,hb,hw⟩;have HB:=Lib.hid hb;have HW:=Lib.hid hw;clear hb hw)
 go_ret
 refine ⟨by rw [okv_pool];rfl,?_,?_⟩
 ·rw [HW.out]
  split
  ·exact (But.of_below HB.out).setCell _ _
  ·exact But.of_below HB.out
 ·rw [HW.out,sto_pool]
  split
  ·exact (HD.out.next HB.out).pool v
  ·exact HD.out.next HB.out
set_option maxRecDepth 100000 in
set_option maxHeartbeats 1600000 in
theorem sto_size_any (c bd:Nat) (d:Dir) (v:Tx) (hv:v.length≤140737488355328) (w:World) (hp:PtrB w c bd) (hd:DirB w bd d) (hL:LaidU w) :
  Calls Tryz.prog 144 #[.string (str v),.pointer (some ⟨c,0,none⟩)] w (StoT bd capK v d w):=by
 have HP:=Lib.hid hp
 have HD:=Lib.hid hd
 have HV:=Lib.hid hv
 have HL:=Lib.hid hL
 obtain ⟨o,ho⟩:∃ o,size? v=o:=⟨_,rfl⟩
 have HO:=Lib.hid ho
 clear hp hd hv hL ho
 cases o with
 | none =>
  go_enter Tryz.func144,Tryz.ntmps144
  go_wp2_with (go_at_call 120;refine (size_any v HV.out _ HL.out).mono ?_;rintro e w1 ⟨rfl,hb⟩;rw [HO.out,qv_none,qe_none];have HB:=Lib.hid hb;have hc:w1.cell? ⟨c,0,none⟩=some (.pointer (some ⟨bd,0,none⟩)):=BoxA.cell (HP.out.next hb) 0 _ rfl;have hs:=(HD.out.next hb).cells.2.2.2.1;have hf:=BoxA.free (HD.out.next hb) 3;clear hb)
  go_ret
  refine ⟨by rw [okv_cap,HO.out];rfl,(But.of_below HB.out).setCell _ _,?_⟩
  rw [sto_cap,HO.out]
  exact (HD.out.next HB.out).size _
 | some n =>
  by_cases hn:n=0
  ·subst hn
   go_enter Tryz.func144,Tryz.ntmps144
   go_wp2_with (go_at_call 120;refine (size_any v HV.out _ HL.out).mono ?_;rintro e w1 ⟨rfl,hb⟩;rw [HO.out,qv_some,qe_some];have HB:=Lib.hid hb;have hc:w1.cell? ⟨c,0,none⟩=some (.pointer (some ⟨bd,0,none⟩)):=BoxA.cell (HP.out.next hb) 0 _ rfl;have hs:=(HD.out.next hb).cells.2.2.2.1;have hf:=BoxA.free (HD.out.next hb) 3;clear hb)
   go_ret
   refine ⟨by rw [okv_cap,HO.out];rfl,(But.of_below HB.out).setCell _ _,?_⟩
   rw [sto_cap,HO.out]
   exact (HD.out.next HB.out).size _
  ·have hn0:decide (0 < (n:Int))=true:=decide_eq_true (by omega)
   have hn1:0 < n:=by omega
   go_enter Tryz.func144,Tryz.ntmps144
   go_wp2_with (go_at_call 120;refine (size_any v HV.out _ HL.out).mono ?_;rintro e w1 ⟨rfl,hb⟩;rw [HO.out,qv_some,qe_some];have HB:=Lib.hid hb;have hc:w1.cell? ⟨c,0,none⟩=some (.pointer (some ⟨bd,0,none⟩)):=BoxA.cell (HP.out.next hb) 0 _ rfl;have hs:=(HD.out.next hb).cells.2.2.2.1;have hf:=BoxA.free (HD.out.next hb) 3;clear hb)
   go_ret
   refine ⟨by rw [okv_cap,HO.out];simp [hn1],(But.of_below HB.out).setCell _ _,?_⟩
   rw [sto_cap,HO.out]
   exact (HD.out.next HB.out).size _
set_option maxRecDepth 100000 in
set_option maxHeartbeats 1600000 in
theorem sto_acc_any (c bd:Nat) (d:Dir) (v:Tx) (w:World) (hp:PtrB w c bd) (hd:DirB w bd d) :
  Calls Tryz.prog 148 #[.string (str v),.pointer (some ⟨c,0,none⟩)] w (StoT bd accK v d w):=by
 have hc:w.cell? ⟨c,0,none⟩=some (.pointer (some ⟨bd,0,none⟩)):=BoxA.cell hp 0 _ rfl
 have hs:=hd.cells.2.2.2.2
 have hf:=BoxA.free hd 4
 have HD:=Lib.hid hd
 clear hp hd
 by_cases h1:v=pubV
 ·obtain ⟨q1,q2⟩:=lit_yes h1
  have HE:=Lib.hid h1
  unfold pubV at q1 q2
  clear h1
  go_enter Tryz.func148,Tryz.ntmps148
  go_wp2
  go_ret
  refine ⟨by rw [okv_acc,HE.out];rfl,(But.refl _ _).setCell _ _,?_⟩
  rw [sto_acc,HE.out]
  exact HD.out.opn true
 ·obtain ⟨q1,q2⟩:=lit_no h1
  have HE:=Lib.hid (show (v == pubV)=false by rw [beq_eq_false_iff_ne];exact h1)
  unfold pubV at q1 q2
  clear h1
  by_cases h2:v=priV
  ·obtain ⟨q3,q4⟩:=lit_yes h2
   have HF:=Lib.hid (show (v == priV)=true by rw [h2];decide)
   unfold priV at q3 q4
   clear h2
   go_enter Tryz.func148,Tryz.ntmps148
   go_wp2
   go_ret
   refine ⟨by rw [okv_acc,HE.out,HF.out];rfl,(But.refl _ _).setCell _ _,?_⟩
   rw [sto_acc,HE.out]
   exact HD.out.opn false
  ·obtain ⟨q3,q4⟩:=lit_no h2
   have HF:=Lib.hid (show (v == priV)=false by rw [beq_eq_false_iff_ne];exact h2)
   unfold priV at q3 q4
   clear h2
   go_enter Tryz.func148,Tryz.ntmps148
   go_wp2
   go_ret
   refine ⟨by rw [okv_acc,HE.out,HF.out];rfl,(But.refl _ _).setCell _ _,?_⟩
   rw [sto_acc,HE.out]
   exact HD.out.opn false
end Go.Proofs.YtekcjfdllclphaaGreatDoor.gn
end
section
namespace Go.Proofs.YtekcjfdllclphaaGreatDoor.gn
open Go.Shelf
def laySplit_ren:Go.Shelf.Ren:=⟨fun | 146=>107 | 221=>130 | 268=>151 | 138=>152 | 143=>153 | 195=>162 | 197=>163 | 218=>164 | 219=>65 | 260=>176 | 217=>102 | 225=>103 | 224=>104 | 267=>105 | 266=>128 | 314=>129 | n=>n,fun | 9=>9 | 31=>25 | 3=>3 | 4=>4 | 0=>0 | 105=>198 | 21=>21 | 5=>5 | 46=>140 | 119=>216 | 139=>219 | 138=>218 | 146=>166 | 51=>165 | n=>n,fun | 1=>0 | 3=>4 | 4=>5 | n=>n⟩
theorem laySplit:Go.Proofs.Lays.n146 Tryz.prog laySplit_ren:={
 mixed:=by kernel_rfl
 f138:=Tryz.func152.trans (congrArg some (by kernel_rfl))
 f143:=Tryz.func153.trans (congrArg some (by kernel_rfl))
 f146:=Tryz.func107.trans (congrArg some (by kernel_rfl))
 f195:=Tryz.func162.trans (congrArg some (by kernel_rfl))
 f197:=Tryz.func163.trans (congrArg some (by kernel_rfl))
 f217:=Tryz.func102.trans (congrArg some (by kernel_rfl))
 f218:=Tryz.func164.trans (congrArg some (by kernel_rfl))
 f219:=Tryz.func65.trans (congrArg some (by kernel_rfl))
 f221:=Tryz.func130.trans (congrArg some (by kernel_rfl))
 f224:=Tryz.func104.trans (congrArg some (by kernel_rfl))
 f225:=Tryz.func103.trans (congrArg some (by kernel_rfl))
 f260:=Tryz.func176.trans (congrArg some (by kernel_rfl))
 f266:=Tryz.func128.trans (congrArg some (by kernel_rfl))
 f267:=Tryz.func105.trans (congrArg some (by kernel_rfl))
 f268:=Tryz.func151.trans (congrArg some (by kernel_rfl))
 f314:=Tryz.func129.trans (congrArg some (by kernel_rfl))
 t0:=Tryz.underlying0
 a0:=Tryz.isAgg0
 z0:=Tryz.sizeOf0
 v0:=Tryz.zeroValue0
 t3:=Tryz.underlying3
 a3:=Tryz.isAgg3
 z3:=Tryz.sizeOf3
 v3:=Tryz.zeroValue3
 t4:=Tryz.underlying4
 a4:=Tryz.isAgg4
 z4:=Tryz.sizeOf4
 v4:=Tryz.zeroValue4
 t5:=Tryz.underlying5
 a5:=Tryz.isAgg5
 z5:=Tryz.sizeOf5
 v5:=Tryz.zeroValue5
 t9:=Tryz.underlying9
 a9:=Tryz.isAgg9
 z9:=Tryz.sizeOf9
 v9:=Tryz.zeroValue9
 t21:=Tryz.underlying21
 a21:=Tryz.isAgg21
 z21:=Tryz.sizeOf21
 v21:=Tryz.zeroValue21
 t31:=Tryz.underlying25
 a31:=Tryz.isAgg25
 z31:=Tryz.sizeOf25
 v31:=Tryz.zeroValue25
 t46:=Tryz.underlying140
 a46:=Tryz.isAgg140
 z46:=Tryz.sizeOf140
 v46:=Tryz.zeroValue140
 t51:=Tryz.underlying165
 a51:=Tryz.isAgg165
 z51:=Tryz.sizeOf165
 v51:=Tryz.zeroValue165
 t105:=Tryz.underlying198
 a105:=Tryz.isAgg198
 z105:=Tryz.sizeOf198
 v105:=Tryz.zeroValue198
 t119:=Tryz.underlying216
 a119:=Tryz.isAgg216
 z119:=Tryz.sizeOf216
 t138:=Tryz.underlying218
 a138:=Tryz.isAgg218
 z138:=Tryz.sizeOf218
 v138:=Tryz.zeroValue218
 t139:=Tryz.underlying219
 a139:=Tryz.isAgg219
 z139:=Tryz.sizeOf219
 v139:=Tryz.zeroValue219
 t146:=Tryz.underlying166
 a146:=Tryz.isAgg166
 z146:=Tryz.sizeOf166
 v146:=Tryz.zeroValue166
 g1:=by kernel_rfl
 g3:=by kernel_rfl
 g4:=by kernel_rfl }
def layCut_ren:Go.Shelf.Ren:=⟨fun | 145=>16 | 220=>37 | 219=>65 | 217=>102 | 225=>103 | 224=>104 | 267=>105 | 266=>128 | 314=>129 | n=>n,fun | 9=>9 | 4=>4 | 59=>44 | 3=>3 | 5=>5 | 46=>140 | 146=>166 | 51=>165 | n=>n,fun | 1=>0 | n=>n⟩
theorem layCut:Go.Proofs.Lays.n145 Tryz.prog layCut_ren:={
 mixed:=by kernel_rfl
 f145:=Tryz.func16.trans (congrArg some (by kernel_rfl))
 f217:=Tryz.func102.trans (congrArg some (by kernel_rfl))
 f219:=Tryz.func65.trans (congrArg some (by kernel_rfl))
 f220:=Tryz.func37.trans (congrArg some (by kernel_rfl))
 f224:=Tryz.func104.trans (congrArg some (by kernel_rfl))
 f225:=Tryz.func103.trans (congrArg some (by kernel_rfl))
 f266:=Tryz.func128.trans (congrArg some (by kernel_rfl))
 f267:=Tryz.func105.trans (congrArg some (by kernel_rfl))
 f314:=Tryz.func129.trans (congrArg some (by kernel_rfl))
 t3:=Tryz.underlying3
 a3:=Tryz.isAgg3
 z3:=Tryz.sizeOf3
 v3:=Tryz.zeroValue3
 t4:=Tryz.underlying4
 a4:=Tryz.isAgg4
 z4:=Tryz.sizeOf4
 v4:=Tryz.zeroValue4
 t5:=Tryz.underlying5
 a5:=Tryz.isAgg5
 z5:=Tryz.sizeOf5
 v5:=Tryz.zeroValue5
 t9:=Tryz.underlying9
 a9:=Tryz.isAgg9
 z9:=Tryz.sizeOf9
 v9:=Tryz.zeroValue9
 t46:=Tryz.underlying140
 a46:=Tryz.isAgg140
 z46:=Tryz.sizeOf140
 v46:=Tryz.zeroValue140
 t51:=Tryz.underlying165
 a51:=Tryz.isAgg165
 z51:=Tryz.sizeOf165
 v51:=Tryz.zeroValue165
 t59:=Tryz.underlying44
 a59:=Tryz.isAgg44
 z59:=Tryz.sizeOf44
 v59:=Tryz.zeroValue44
 t146:=Tryz.underlying166
 a146:=Tryz.isAgg166
 z146:=Tryz.sizeOf166
 v146:=Tryz.zeroValue166
 g1:=by kernel_rfl }
def layHasPrefix_ren:Go.Shelf.Ren:=⟨fun | 99=>109 | 206=>136 | n=>n,fun | 9=>9 | 4=>4 | 3=>3 | n=>n,fun | n=>n⟩
theorem layHasPrefix:Go.Proofs.Lays.n99 Tryz.prog layHasPrefix_ren:={
 mixed:=by kernel_rfl
 f99:=Tryz.func109.trans (congrArg some (by kernel_rfl))
 f206:=Tryz.func136.trans (congrArg some (by kernel_rfl))
 t3:=Tryz.underlying3
 a3:=Tryz.isAgg3
 z3:=Tryz.sizeOf3
 v3:=Tryz.zeroValue3
 t4:=Tryz.underlying4
 a4:=Tryz.isAgg4
 z4:=Tryz.sizeOf4
 v4:=Tryz.zeroValue4
 t9:=Tryz.underlying9
 a9:=Tryz.isAgg9
 z9:=Tryz.sizeOf9
 v9:=Tryz.zeroValue9 }
end Go.Proofs.YtekcjfdllclphaaGreatDoor.gn
end
section
namespace Go.Proofs.YtekcjfdllclphaaGreatDoor.gn
open Go.RowKit
def roundPostP (P:Program) (l:Nat) (R:Ending→World→Prop):Exit→Act→World→Prop
 | .panic ch,a,w=>a.defers=[]∧R (.panicked ch) w
 | .normal,a,w=>roundPost P l R .normal a w
 | .ret,a,w=>roundPost P l R .ret a w
 | .exit id,a,w=>roundPost P l R (.exit id) a w
 | .goto t,a,w=>roundPost P l R (.goto t) a w
 | .outgrown,_,_=>False
theorem roundIn_p {P:Program} {n l:Nat} {f:FuncId} {tmps:Array Value} {assign body:Code} {w:World} {R:Ending→World→Prop} (hf:∃ fn,P.funcs[f]?=some fn)
  (h:assign.wpIn (Fence.wide.inRound l) n P (Exit.then (fun a₁ w₁=>∃ w₂,(Instr.beginRound l).run P w₁=.ok () w₂∧body.wpIn (Fence.wide.inRound l) n P (roundPostP P l R) a₁ w₂) (fun _ _ _=>False)) { tmps:=tmps,defers:=[] } w) :
  RoundIn Fence.wide n P l f tmps assign body w R:=by
 refine ⟨trivial,fun c cs hr=>?_⟩
 let b:Frame:={ (default:Frame) with fn:=f,kind:=.normal,roundOf:=some l }
 have hb0:Frame.round l f tmps assign body .normal=b.atR { tmps:=tmps,defers:=[] } [.code assign,.beginRound,.code body]:=by
  simp [Frame.round,Frame.atR,b]
 have hr':(Fence.wide.inRound l).room ((c::cs).length+1+n):=hr
 have hF':(Fence.wide.inRound l).fn b.fn:=trivial
 obtain ⟨e,a₁,w₁,hq,harr⟩:=h b [.beginRound,.code body] (c::cs) rfl hF' hr'
 rw [←hb0] at harr
 cases e with
 | normal =>
  obtain ⟨w₂,hbr,hbody⟩:=hq
  have s1:StepsIn (Machine.fenced P (Fence.wide.inRound l)) P (lone (b.atR a₁ [.beginRound,.code body]) (c::cs) w₁) (lone (b.atR a₁ [.code body]) (c::cs) w₂) :=
   .one (fenced_calm (fr:=b.atR a₁ [.beginRound,.code body]) hF' hr' rfl) (stepR_beginRound rfl hbr)
  obtain ⟨e₂,a₂,w₃,hq₂,harr₂⟩:=hbody b [] (c::cs) rfl hF' hr'
  cases e₂ with
  | normal =>
   obtain ⟨v,w₄,hend,hR⟩:=hq₂
   exact ⟨.returned v,w₄,hR,(StepsIn.trans harr s1).trans (StepsIn.trans harr₂ (.one (fenced_calm (fr:=b.atR a₂ []) hF' hr' rfl) (stepR_round_end rfl rfl hend)))⟩
  | ret =>
   obtain ⟨v,w₄,hend,hR⟩:=hq₂
   obtain ⟨k₁,hs⟩:=harr₂.2 rfl
   exact ⟨.returned v,w₄,hR,(StepsIn.trans harr s1).trans (StepsIn.trans hs (.one (fenced_calm (fr:=b.atR a₂ (.code .ret::k₁)) hF' hr' rfl) (stepR_round_ret rfl rfl hend)))⟩
  | exit id =>
   obtain ⟨v,w₄,hend,hR⟩:=hq₂
   obtain ⟨k₁,hk,hs⟩:=harr₂.2 rfl rfl
   exact ⟨.returned v,w₄,hR,(StepsIn.trans harr s1).trans (StepsIn.trans hs (.one (fenced_calm (fr:=b.atR a₂ (.code (.exit id)::k₁)) hF' hr' rfl) (stepR_round_exit rfl rfl hk hend)))⟩
  | goto t =>
   obtain ⟨v,w₄,hend,hR⟩:=hq₂
   obtain ⟨k₁,hk,hs⟩:=harr₂.2 rfl rfl
   exact ⟨.returned v,w₄,hR,(StepsIn.trans harr s1).trans (StepsIn.trans hs (.one (fenced_calm (fr:=b.atR a₂ (.code (.goto t)::k₁)) hF' hr' rfl) (stepR_round_goto rfl rfl hk hend)))⟩
  | panic chain =>
   obtain ⟨hd,hR⟩:=hq₂
   obtain ⟨todo,hs⟩:=harr₂
   obtain ⟨fn,hfn⟩:=hf
   have hl:({ b.atR a₂ todo with mode:=.panicking chain }:Frame).leaving P w₃ (.panicked chain):=⟨rfl,hd,fn,hfn⟩
   exact ⟨.panicked chain,w₃,hR,(StepsIn.trans harr s1).trans (StepsIn.trans hs (.one (fenced_leaving (F:=Fence.wide.inRound l) hF' hr' hl) (step_leave_panicked hl)))⟩
  | outgrown=>exact hq₂.elim
 | exit id=>exact hq.elim
 | goto t=>exact hq.elim
 | ret=>exact hq.elim
 | panic chain=>exact hq.elim
 | outgrown=>exact hq.elim
def wpF (P:Program) (f:FuncId) (c:Code) (Q:Exit→Act→World→Prop) (a:Act) (w:World):Prop :=
 ∀ (b:Frame) (k:List Item) (cs:List Frame),b.roundOf=none→b.fn=f →
  ∃ e a' w',Q e a' w'∧ArrivesIn (Machine.fenced P Fence.wide) P (lone (b.atR a (.code c::k)) cs w) b k cs e a' w'
section
variable {P : Program} {f : FuncId} {Q : Exit → Act → World → Prop} {a : Act} {w : World}
theorem wpF_of {n:Nat} {c:Code} (h:c.wpIn Fence.wide n P Q a w):wpF P f c Q a w:=fun b k cs hr _=>h b k cs hr trivial (room_wide _)
theorem wpF_seq {x y:Code} (h:wpF P f x (Exit.then (wpF P f y Q) Q) a w):wpF P f (.seq x y) Q a w:=by
 intro b k cs hro hb
 have h0:(lone (b.atR a (.code (.seq x y)::k)) cs w).fenced P Fence.wide:=fenced_wide _ _
 obtain ⟨e,a₁,w₁,hq,harr⟩:=h b (.code y::k) cs hro hb
 cases e with
 | normal =>
  obtain ⟨e₂,a₂,w₂,hq₂,harr₂⟩:=hq b k cs hro hb
  exact ⟨e₂,a₂,w₂,hq₂,.of_steps (.head h0 stepR_seq harr) harr₂⟩
 | exit id=>exact ⟨_,a₁,w₁,hq,.of_steps (.one h0 stepR_seq) (.pass (x:=.code y) rfl (fun _ _=>.inl (by simp)) harr)⟩
 | goto l=>exact ⟨_,a₁,w₁,hq,.of_steps (.one h0 stepR_seq) (.pass (x:=.code y) rfl (fun _ _=>.inl (by simp)) harr)⟩
 | ret=>exact ⟨_,a₁,w₁,hq,.of_steps (.one h0 stepR_seq) (.pass (x:=.code y) rfl (fun _ _=>.inl (by simp)) harr)⟩
 | panic ch=>exact ⟨_,a₁,w₁,hq,.of_steps (.one h0 stepR_seq) (.pass (x:=.code y) rfl (fun _ _=>.inl (by simp)) harr)⟩
 | outgrown=>exact ⟨_,a₁,w₁,hq,.of_steps (.one h0 stepR_seq) (.pass (x:=.code y) rfl (fun _ _=>.inl (by simp)) harr)⟩
theorem callsF {fn:Func} {c:Code} {args:Array Value} {R:Ending→World→Prop} (n:Nat)
  (hf:P.funcs[f]?=some fn) (hb:fn.body=some c)
  (h:wpF P f c (bodyPostM Fence.wide n P fn R) { tmps:=args++Array.replicate (fn.ntmps - args.size) undef,defers:=[] } w):Calls P f args w R:=by
 refine (callsIn_wide (n:=n)).1 ⟨trivial,fun cs hr=>?_⟩
 let b:Frame:={ (default:Frame) with fn:=f,kind:=.normal,roundOf:=none }
 have henter:Frame.enter P f args .normal =
   b.atR { tmps:=args++Array.replicate (fn.ntmps - args.size) undef,defers:=[] } [.code c]:=by
  simp [Frame.enter,Frame.atR,hf,hb,b]
 obtain ⟨e,a',w',hq,harr⟩:=h b [] cs rfl rfl
 rw [←henter] at harr
 cases e with
 | normal =>
  obtain ⟨e',w'',fr',hR,hs,hfn,hl⟩:=leaves_stepsInM a'.defers .returning w' { b.atR a' [] with mode:=.returning } cs rfl rfl rfl hf rfl trivial hr hq
  exact ⟨e',w'',fr',hR,ComesIn.of_steps (StepsIn.trans harr (.one (fenced_wide _ _) (stepR_end rfl))) hs,hfn,hl⟩
 | ret =>
  obtain ⟨todo,hs₀⟩:=harr.1 rfl
  obtain ⟨e',w'',fr',hR,hs,hfn,hl⟩:=leaves_stepsInM a'.defers .returning w' { b.atR a' todo with mode:=.returning } cs rfl rfl rfl hf rfl trivial hr hq
  exact ⟨e',w'',fr',hR,ComesIn.of_steps hs₀ hs,hfn,hl⟩
 | panic chain =>
  obtain ⟨todo,hs₀⟩:=harr
  obtain ⟨e',w'',fr',hR,hs,hfn,hl⟩:=leaves_stepsInM a'.defers (.panicking chain) w' { b.atR a' todo with mode:=.panicking chain } cs rfl rfl rfl hf rfl trivial hr hq
  exact ⟨e',w'',fr',hR,ComesIn.of_steps hs₀ hs,hfn,hl⟩
 | exit id=>exact hq.elim
 | goto l=>exact hq.elim
 | outgrown=>exact ⟨.outgrown,w',b,hq,harr.resolve_left (by simp [b]),rfl,trivial⟩
theorem wpF_rangeFunc {n:Nat} {g:Operand} {ps:Array Tmp} {assign body:Code}
  (h:∃ (l:Nat) (mark:List Deferred) (w₁:World) (d:Deferred) (w₁':World) (f':FuncId) (args:Array Value) (w₂:World),
   (Instr.enterLoop f a.tmps ps assign body none).run P w=.ok (l,mark) w₁ ∧
   (resolve a.eval (rangeCall g l) 0).run P w₁=.ok d w₁' ∧
   (invoke d.target d.args).run P w₁'=.ok (.enter f' args) w₂ ∧
   CallsIn Fence.wide (n - 1) P f' args w₂ (rangePost Fence.wide n P l Q { a with defers:=mark++a.defers })) :
  wpF P f (Code.rangeFunc g ps assign body) Q a w:=by
 intro b k cs hro hb
 obtain ⟨l,mark,w₁,d,w₁',f',args,w₂,he,hres,hinv,hcall⟩:=h
 rw [←hro,← hb] at he
 have h0:(lone (b.atR a (.code (.rangeFunc g ps assign body)::k)) cs w).fenced P Fence.wide:=fenced_wide _ _
 have henter:=stepR_rangeFunc (P:=P) (b:=b) (a:=a) (k:=k) (cs:=cs) (w:=w) he hres hinv
 obtain ⟨e,w₃,fr,hR,hsteps,hfn,hleave⟩:=hcall.2 (b.atR { a with defers:=mark++a.defers } (.inRangeFunc l::k)::cs) (room_wide _)
 cases e with
 | outgrown =>
  obtain ⟨a₀,w₀,hq⟩:=hR
  exact ⟨.outgrown,a₀,w₀,hq,.inr (Outgrown.of_steps (.one henter) hsteps)⟩
 | returned v =>
  obtain ⟨jump,w₄,hend,hj⟩:=hR
  have sback:StepsIn (Machine.fenced P Fence.wide) P (lone (b.atR a (.code (.rangeFunc g ps assign body)::k)) cs w) (lone (b.atR { a with defers:=mark++a.defers } ((jump.map Item.code).toList++k)) cs w₄):=by
   refine .head h0 henter (StepsIn.trans hsteps (.head (fenced_wide _ _) ?_ (.one (fenced_wide _ _) (stepR_endRangeFunc hend))))
   rw [←finish_atR_inRangeFunc l v];exact step_leave_returned hleave
  cases jump with
  | none=>exact ⟨.normal,_,w₄,hj,sback⟩
  | some c =>
   obtain ⟨e',a'',w₅,hq,harr⟩:=hj b k cs hro trivial (room_wide _)
   exact ⟨e',a'',w₅,hq,.of_steps sback harr⟩
 | panicked chain =>
  refine ⟨.panic chain,_,w₃,hR,.inRangeFunc l::k,.head h0 henter (StepsIn.trans hsteps (.one (fenced_wide _ _) ?_))⟩
  rw [←Frame.raise_atR];exact step_leave_panicked hleave
end
theorem wpF_block {P:Program} {f:FuncId} {Q:Exit→Act→World→Prop} {a:Act} {w:World} {id:Nat} {c:Code} (h:wpF P f c (Exit.inBlock id Q) a w):wpF P f (.block id c) Q a w:=by
 intro b k cs hro hb
 have h0:(lone (b.atR a (.code (.block id c)::k)) cs w).fenced P Fence.wide:=fenced_wide _ _
 obtain ⟨e,a₁,w₁,hq,harr⟩:=h b (.inBlock id::k) cs hro hb
 cases e with
 | normal=>exact ⟨.normal,a₁,w₁,hq,.head h0 stepR_block (StepsIn.trans harr (.one (fenced_wide _ _) stepR_inBlock))⟩
 | exit id' =>
  by_cases hid:id'=id
  ·simp only [Exit.inBlock,hid,if_true] at hq
   exact ⟨.normal,a₁,w₁,hq,.head h0 stepR_block (harr.1 k (by simp [exitTo,hid]))⟩
  ·simp only [Exit.inBlock,hid,if_false] at hq
   have this:(id == id')=false:=by simp;exact fun h=>hid h.symm
   have hx:exitTo id' (.inBlock id::k)=exitTo id' k:=by simp [exitTo,this]
   exact ⟨.exit id',a₁,w₁,hq,fun k' hk=>.head h0 stepR_block (harr.1 k' (by rw [hx];exact hk)),
    fun hr' hk=>let ⟨k₁,h1,h2⟩:=harr.2 hr' (by rw [hx];exact hk);⟨k₁,h1,.head h0 stepR_block h2⟩⟩
 | goto l =>
  have hx:gotoIn l (.inBlock id::k)=gotoIn l k:=by simp [gotoIn]
  exact ⟨_,a₁,w₁,hq,fun k' hk=>.head h0 stepR_block (harr.1 k' (by rw [hx];exact hk)),
   fun hr' hk=>let ⟨k₁,h1,h2⟩:=harr.2 hr' (by rw [hx];exact hk);⟨k₁,h1,.head h0 stepR_block h2⟩⟩
 | ret=>exact ⟨_,a₁,w₁,hq,.of_steps (.one h0 stepR_block) harr⟩
 | panic ch=>exact ⟨_,a₁,w₁,hq,.of_steps (.one h0 stepR_block) harr⟩
 | outgrown=>exact ⟨_,a₁,w₁,hq,.of_steps (.one h0 stepR_block) harr⟩
theorem wpF_seq_k {P:Program} {f:FuncId} {n:Nat} {x y:Code} {Q:Exit→Act→World→Prop} {a:Act} {w:World} (h:∀ K:Act→World→Prop,(∀ a w,wpF P f y Q a w→K a w)→x.wpIn Fence.wide n P (Exit.then K Q) a w):wpF P f (.seq x y) Q a w :=
 wpF_seq (wpF_of (h _ fun _ _ h=>h))
structure Calm (B:Nat) (I:World→Prop):Prop where
 next:∀ A C,I A→Below A.heap.size A C→I C
 put:∀ A l o o',B≤l→I A→A.heap[l]?=some o→o.isCells=false→o'.isCells=false→I (A.putObj l o')
def SeqP {α:Type} (n:Nat) (P:Program) (g:Nat) (lb:Array Value) (encs:α→Array Value) (xs:List α) (ok:World→Prop) (w:World):Prop :=
 ∀ (l:Nat) (J:Nat→World→Prop) (Jp:List PanicEntry→World→Prop) (W:World),Below w.heap.size w W→(∀ k A,J k A→ok A)→(∀ k A C,J k A→Below A.heap.size A C→J k C) →
  (∀ k x A,J k A→xs[k]?=some x→YieldAt Fence.wide (n - 1) P l (encs x) A fun e C=>(e=.returned (.bool true)∧J (k+1) C)∨∃ ch,e=.panicked ch∧Jp ch C)→J 0 W →
  CallsIn Fence.wide n P g (#[.func (.yield l) #[] #[]]++lb) W fun e C=>(∃ v,e=.returned v∧J xs.length C)∨∃ ch,e=.panicked ch∧Jp ch C
def bodyP (D:Nat) (I:World→Prop) (Ip:List PanicEntry→World→Prop) (W:World):Exit→Act→World→Prop
 | .normal,_,C=>KeepsFrom D W C∧I C
 | .panic ch,a,C=>a.defers=[]∧KeepsFrom D W C∧Ip ch C
 | _,_,_=>False
theorem range_p {α:Type} {P:Program} {n:Nat} {f:FuncId} {fn0:Func} (hfn:P.funcs[f]?=some fn0) {g:Operand} {ps:Array Tmp} {assign body:Code} {Q:Exit→Act→World→Prop} {a:Act} {w:World} {gf:Nat} {lb:Array Value}
  (hg:a.eval g=.func (.func gf) #[] lb) (eg:∀ args w,(callFunc gf args).run P w=.ok (.enter gf args) w) {encs:α→Array Value} {xs:List α} {ok:World→Prop} {w0:World}
  (hseq:SeqP (n - 1) P gf lb encs xs ok w0) (hb0:Below w0.heap.size w0 w) (hps:∀ x,(encs x).size=ps.size)
  (I:Nat→World→Prop) (Ip:List PanicEntry→World→Prop) (hok:∀ k A,I k A→ok A) (hI:∀ k,Calm w.heap.size (I k)) (h0:I 0 w) (a₁:α→Act)
  (hassign:∀ (l k:Nat) (x:α) (W:World) (K:Act→World→Prop),I k W→K (a₁ x) W →
   assign.wpIn (Fence.wide.inRound l) (n - 1 - 1) P (Exit.then K (fun _ _ _=>False)) { tmps:=(ps.zip (encs x)).foldl (fun t (p,v)=>t.setIfInBounds p v) a.tmps,defers:=[] } W)
  (hbody:∀ (l k:Nat) (x:α) (W:World),xs[k]?=some x→I k W→body.wpIn (Fence.wide.inRound l) (n - 1 - 1) P (bodyP w.heap.size (I (k+1)) Ip W) (a₁ x) W)
  (hdone:∀ (D:Nat) (W:World),w.heap.size≤D→I xs.length W→W.heap[D]?=some (.deferred (some []))→Q .normal { a with defers:={ target:=.collected D,args:=#[] }::a.defers } W)
  (hpan:∀ (D:Nat) (ch:List PanicEntry) (W:World),w.heap.size≤D→Ip ch W→W.heap[D]?=some (.deferred (some []))→Q (.panic ch) { a with defers:={ target:=.collected D,args:=#[] }::a.defers } W) :
  wpF P f (Code.rangeFunc g ps assign body) Q a w:=by
 refine wpF_rangeFunc (n:=n) ?_
 obtain ⟨rec,hrec⟩:∃ rec:LoopState→Option Code→Loop,rec=fun st pe=>{ state:=st,pending:=pe,fn:=f,tmps:=a.tmps,params:=ps,assign,body,defers:=w.heap.size }:=⟨_,rfl⟩
 obtain ⟨s,hs⟩:∃ s,s=w.heap.size:=⟨_,rfl⟩
 obtain ⟨W1,hW1⟩:∃ W1,(w.alloc (.deferred (some []))).alloc (.loop (rec .ready none))=W1:=⟨_,rfl⟩
 have hL1:W1.heap[s+1]?=some (.loop (rec .ready none)):=by
  have h:=World.alloc_heap_new (w.alloc (.deferred (some []))) (.loop (rec .ready none))
  rw [World.size_alloc,hW1,← hs] at h
  exact h
 have hK1:W1.heap[s]?=some (.deferred (some [])):=by
  rw [←hW1,hs];exact (Below.heap_alloc _ _ _ (by simp)).trans (World.alloc_heap_new w _)
 have hb1:Below w.heap.size w W1:=by rw [←hW1];exact ((Below.refl _ w).alloc (Nat.le_refl _) _).alloc (by simp) _
 have hI1:I 0 W1:=(hI 0).next w W1 h0 hb1
 obtain ⟨J,hJ⟩:∃ J:Nat→World→Prop,J=fun k W=>I k W∧W.heap[s+1]?=some (.loop (rec .ready none))∧W.heap[s]?=some (.deferred (some [])):=⟨_,rfl⟩
 obtain ⟨Jp,hJp⟩:∃ Jp:List PanicEntry→World→Prop,Jp=fun ch W=>Ip ch W∧W.heap[s]?=some (.deferred (some [])):=⟨_,rfl⟩
 refine ⟨s+1,[{ target:=.collected s,args:=#[] }],W1,{ target:=.fn (.func gf) lb,args:=#[.func (.yield (s+1)) #[] #[]] },W1,gf,#[.func (.yield (s+1)) #[] #[]]++lb,W1,?_,?_,?_,?_⟩
 ·rw [←hW1,hrec,hs];exact run_enterLoop_outer _ _ _ _ _
 ·simp only [resolve,hg]
  simp [go_sem]
 ·simp [invoke,go_sem,eg]
 ·refine (hseq (s+1) J Jp W1 (hb0.trans (hb1.mono hb0.size)) (fun k A h=>by rw [hJ] at h;exact hok k A h.1) (fun k A C h hb=>?_) (fun k x A hj hx=>?_) ?_).mono ?_
  ·rw [hJ] at h ⊢
   exact ⟨(hI k).next A C h.1 hb,(hb.block _ (Array.getElem?_eq_some_iff.1 h.2.1).1).trans h.2.1,(hb.block _ (Array.getElem?_eq_some_iff.1 h.2.2).1).trans h.2.2⟩
  ·rw [hJ] at hj
   obtain ⟨hi,hl,hk⟩:=hj
   have hlt:s+1 < A.heap.size:=(Array.getElem?_eq_some_iff.1 hl).1
   have hy:=run_yield (P:=P) (args:=encs x) hl (by rw [hrec];exact hps x)
   rw [hrec] at hy
   refine ⟨f,_,assign,body,hy,roundIn_p ⟨_,hfn⟩ (hassign _ k x A _ hi ?_)⟩
   clear hy
   refine ⟨_,run_beginRound hl (by rw [hrec]),?_⟩
   have hl2:(A.putObj (s+1) (.loop { rec .ready none with state:=.busy })).heap[s+1]?=some (.loop { rec .ready none with state:=.busy }):=World.putObj_heap_same hlt
   have hk2:(A.putObj (s+1) (.loop { rec .ready none with state:=.busy })).heap[s]?=some (.deferred (some [])):=(World.putObj_heap_other (by omega)).trans hk
   refine wpIn_mono (hbody _ k x _ hx ((hI k).put _ _ _ _ (by omega) hi hl rfl rfl)) ?_
   rintro e a3 A3 hp
   cases e with
   | normal =>
    obtain ⟨p1,p3⟩:=hp
    have hl3:=p1.same _ _ (by omega) hl2 rfl
    have hlt3:s+1 < A3.heap.size:=(Array.getElem?_eq_some_iff.1 hl3).1
    have he:(Instr.endRound (s+1) none).run P A3=.ok (.bool true) (A3.putObj (s+1) (.loop (rec .ready none))):=by
     have:=run_endRound (P:=P) none hl3
     rw [hrec] at this ⊢
     exact this
    refine ⟨_,_,he,.inl ⟨rfl,?_⟩⟩
    rw [hJ]
    exact ⟨(hI (k+1)).put _ _ _ _ (by omega) p3 hl3 rfl rfl,World.putObj_heap_same hlt3,(World.putObj_heap_other (by omega)).trans (p1.same _ _ (by omega) hk2 rfl)⟩
   | panic ch =>
    obtain ⟨p0,p1,p3⟩:=hp
    refine ⟨p0,.inr ⟨ch,rfl,?_⟩⟩
    rw [hJp]
    exact ⟨p3,p1.same _ _ (by omega) hk2 rfl⟩
   | ret=>exact hp.elim
   | exit k=>exact hp.elim
   | goto t=>exact hp.elim
   | outgrown=>exact hp.elim
  ·rw [hJ];exact ⟨hI1,hL1,hK1⟩
  ·rintro e A (⟨v,rfl,hx⟩ | ⟨ch,rfl,hx⟩)
   ·rw [hJ] at hx
    obtain ⟨hi,hl,hk⟩:=hx
    have he:(Instr.endLoop (s+1)).run P A=.ok none (A.putObj (s+1) (.loop (rec .exhausted none))):=by
     have:=run_endLoop (P:=P) hl (by rw [hrec];simp)
     rw [hrec] at this ⊢
     exact this
    refine ⟨none,_,he,?_⟩
    exact hdone s _ (Nat.le_of_eq hs.symm) ((hI _).put _ _ _ _ (by omega) hi hl rfl rfl) ((World.putObj_heap_other (by omega)).trans hk)
   ·rw [hJp] at hx
    exact hpan s ch _ (Nat.le_of_eq hs.symm) hx.1 hx.2
end Go.Proofs.YtekcjfdllclphaaGreatDoor.gn
end
