/- Orders in memory: values, boxes; the closures that store a field, and number, either, name, size. -/
import Derived.Test.YtekcjfdllclphaaGreatDoorMQaOrR
import Derived.Test.YtekcjfdllclphaaGreatDoorMQaSlQ
import Derived.Test.YtekcjfdllclphaaGreatDoorMQaSlN
import Derived.Test.YtekcjfdllclphaaGreatDoorMQaSlO
import Derived.Test.YtekcjfdllclphaaGreatDoorMQaSlP
import Derived.Maps.AppendAt
import Derived.BigFrame
import Derived.Laws.AppendOwnNone
import Derived.Deep.LoopGhost
import Derived.Test.YtekcjfdllclphaaGreatDoorMQaOrM
import Derived.Deep.Slices
section
set_option linter.unusedVariables false
set_option linter.unusedSimpArgs false
namespace Go.Proofs.YtekcjfdllclphaaGreatDoor.gn
open Go.RowKit
open Go.Proofs.YtekcjfdllclphaaGreatDoor.un
open Go.Proofs.YtekcjfdllclphaaGreatDoor.di
open Go.Proofs.YtekcjfdllclphaaGreatDoor.sp (Slip within? okW)
open Go.Proofs.YtekcjfdllclphaaGreatDoor.od (Ord okO stO numV sizV resK badW nK)
def ocs (o:Ord) (g:Gh):Array Value:=#[.int .u8 (o.kind:Nat),.int .i64 o.job,.int .i64 o.n,.string (str o.name),.string (str o.pool),.string (str o.user),.int .i64 o.size,.bool o.yes,.string (str o.slip.user),.int .i64 o.slip.nodes,.int .i64 o.slip.wall,.int .i64 o.slip.qos,g.a,.int .i64 o.slip.cap,.int .i64 o.slip.inn,.int .i64 o.slip.out,.string (str o.slip.pool),g.m,g.d,g.u]
def oV (o:Ord) (g:Gh):Value:=.agg (ocs o g)
def OrdB (W:World) (b:Nat) (o:Ord) (g:Gh):Prop:=BoxA W b 29 (ocs o g)
theorem OrdB.next {w w':World} {b:Nat} {o:Ord} {g:Gh} (h:OrdB w b o g) (hb:Below w.heap.size w w'):OrdB w' b o g:=BoxA.next h hb
theorem OrdB.lt {w:World} {b:Nat} {o:Ord} {g:Gh} (h:OrdB w b o g):b < w.heap.size:=BoxA.lt h
def okN (v:Tx) (a b:Nat):Bool:=(within? v a b).isSome
def okM (x:Option Nat) (a b:Nat):Bool:=match x with
 | some n=>decide (a≤n∧n≤b)
 | none=>false
theorem okN_M (v:Tx) (a b:Nat):okN v a b=okM (num? v) a b:=by
 unfold okN within? okM
 cases num? v with
 | none=>rfl
 | some n =>
  dsimp only
  by_cases hq:a≤n∧n≤b
  ·rw [if_pos hq,decide_eq_true hq];rfl
  ·rw [if_neg hq,decide_eq_false hq];rfl
structure NumC (w:World) (c1 c2 c3 bo j:Nat) (a b:Int):Prop where
 pt:BoxA w c1 122 #[.pointer (some ⟨bo,j,none⟩)]
 lo:BoxA w c2 2 #[.int .i64 a]
 hi:BoxA w c3 2 #[.int .i64 b]
theorem NumC.next {w w':World} {c1 c2 c3 bo j:Nat} {a b:Int} (h:NumC w c1 c2 c3 bo j a b) (hb:Below w.heap.size w w'):NumC w' c1 c2 c3 bo j a b:=⟨h.pt.next hb,h.lo.next hb,h.hi.next hb⟩
def PutT (bo j:Nat) (u:Value) (b:Bool) (w:World) (e:Ending) (w':World):Prop:=e=.returned (.bool b)∧∃ w1,Below w.heap.size w w1∧w'=w1.setCell ⟨bo,j,none⟩ u
set_option maxRecDepth 100000 in
set_option maxHeartbeats 3200000 in
theorem number1_any (c1 c2 c3 bo j a b:Nat) (old:Int) (v:Tx) (hv:v.length≤140737488355328) (ha:a≤1099511627776) (hb:b≤1099511627776) (w:World) (h:NumC w c1 c2 c3 bo j a b) (hc:w.cell? ⟨bo,j,none⟩=some (.int .i64 old)) (hf:w.frozen? ⟨bo,j,none⟩=false) (hlt:bo < w.heap.size) (n1:c2≠bo) (n2:c3≠bo) (hL:LaidU w) :
  Calls Tryz.prog 113 #[.string (str v),.pointer (some ⟨c1,0,none⟩),.pointer (some ⟨c2,0,none⟩),.pointer (some ⟨c3,0,none⟩)] w (PutT bo j (.int .i64 (numV v)) (okN v a b) w):=by
 have HN:=Lib.hid h
 have HC:=Lib.hid fun (W:World) (hb:Below w.heap.size w W)=>(Below.cell hb hlt).trans hc
 have HF:=Lib.hid fun (W:World) (hb:Below w.heap.size w W)=>(show W.frozen? ⟨bo,j,none⟩=false by rw [←hf];unfold World.frozen?;rw [hb.block bo hlt])
 have HU:=Lib.hid (number_unit v hv w hL)
 have HNE:=Lib.hid (And.intro n1 n2)
 have m1:¬ bo=c2:=fun e=>n1 e.symm
 have m2:¬ bo=c3:=fun e=>n2 e.symm
 obtain ⟨x,hx⟩:∃ x,num? v=x:=⟨_,rfl⟩
 have HV:=Lib.hid (show numV v=qv x by unfold numV qv;rw [hx])
 have HO:=Lib.hid (show okN v a b=okM x a b by rw [okN_M,hx])
 rw [HV.out]
 rw [hx] at HU
 have hxt:∀ n,x=some n→n≤1099511627776:=fun n e=>(un.num_iff.1 (hx.trans e)).1
 have K1:=Lib.hid fun (W:World) (hb:Below w.heap.size w W)=>(show W.cell? ⟨c1,0,none⟩=some (.pointer (some ⟨bo,j,none⟩)) from (h.next hb).pt.cell 0 _)
 have K2:=Lib.hid fun (W:World) (u:Value) (hb:Below w.heap.size w W)=>(show (W.setCell ⟨bo,j,none⟩ u).cell? ⟨c2,0,none⟩=some (.int .i64 a) from BoxA.cell (((h.next hb).lo).but ((But.refl bo W).setCell j u) n1) 0 _)
 have K3:=Lib.hid fun (W:World) (u:Value) (hb:Below w.heap.size w W)=>(show (W.setCell ⟨bo,j,none⟩ u).cell? ⟨c3,0,none⟩=some (.int .i64 b) from BoxA.cell (((h.next hb).hi).but ((But.refl bo W).setCell j u) n2) 0 _)
 clear h hc hf hlt hL n1 n2 hv hx
 cases x with
 | none =>
  go_enter Tryz.func113,Tryz.ntmps113
  go_wp2_with (go_at_call 114;((with_reducible refine HU.out.mono ?_);rintro e w1 ⟨rfl,hb⟩);rw [qv_none,qe_none];have HB:=Lib.hid hb;have k1:=K1.out _ hb;have hc:=HC.out _ hb;have hf:=HF.out _ hb;clear hb)
  go_ret
  exact ⟨by rw [HO.out];rfl,w1,HB.out,rfl⟩
 | some n =>
  have hn:=hxt n rfl
  have HQ:=Lib.hid (show qv (some n)=(n:Int) from rfl)
  by_cases h1:a≤n
  ·have q1:decide ((a:Int)≤(n:Int))=true:=decide_eq_true (by omega)
   have HO2:=Lib.hid (show okN v a b=decide ((n:Int)≤(b:Int)) by rw [HO.out];show decide (a≤n∧n≤b)=_;rw [Bool.eq_iff_iff,decide_eq_true_eq,decide_eq_true_eq];omega)
   clear hxt
   go_enter Tryz.func113,Tryz.ntmps113
   go_upto_region 2 with (go_at_call 114;((with_reducible refine HU.out.mono ?_);rintro e w1 ⟨rfl,hb⟩);rw [qv_some,qe_some];have HB:=Lib.hid hb;have k1:=K1.out _ hb;have hc:=HC.out _ hb;have hf:=HF.out _ hb;clear hb)
   go_upto_region 3 with fail
   have k2:=K2.out _ (.int .i64 (n:Int)) HB.out
   have k3:=K3.out _ (.int .i64 (n:Int)) HB.out
   go_wp2
   go_ret
   exact ⟨by rw [HO2.out];first | rfl | simp,w1,HB.out,rfl⟩
  ·have q1:decide ((a:Int)≤(n:Int))=false:=decide_eq_false (by omega)
   have HO2:=Lib.hid (show okN v a b=false by rw [HO.out];show decide (a≤n∧n≤b)=_;rw [decide_eq_false];omega)
   clear hxt
   go_enter Tryz.func113,Tryz.ntmps113
   go_upto_region 3 with (go_at_call 114;((with_reducible refine HU.out.mono ?_);rintro e w1 ⟨rfl,hb⟩);rw [qv_some,qe_some];have HB:=Lib.hid hb;have k1:=K1.out _ hb;have hc:=HC.out _ hb;have hf:=HF.out _ hb;clear hb)
   have k2:=K2.out _ (.int .i64 (n:Int)) HB.out
   have k3:=K3.out _ (.int .i64 (n:Int)) HB.out
   go_wp2
   go_ret
   exact ⟨by rw [HO2.out];first | rfl | simp,w1,HB.out,rfl⟩
end Go.Proofs.YtekcjfdllclphaaGreatDoor.gn
end
section
set_option linter.unusedVariables false
set_option linter.unusedSimpArgs false
namespace Go.Proofs.YtekcjfdllclphaaGreatDoor.gn
open Go.RowKit
open Go.Proofs.YtekcjfdllclphaaGreatDoor.un
open Go.Proofs.YtekcjfdllclphaaGreatDoor.di
open Go.Proofs.YtekcjfdllclphaaGreatDoor.sp (Slip within? okW)
open Go.Proofs.YtekcjfdllclphaaGreatDoor.od (Ord okO stO numV sizV resK badW nK)
structure EithC (w:World) (c1 c2 c3 bo j:Nat) (yes no:Tx):Prop where
 yes:BoxA w c1 9 #[.string (str yes)]
 pt:BoxA w c2 124 #[.pointer (some ⟨bo,j,none⟩)]
 no:BoxA w c3 9 #[.string (str no)]
set_option maxRecDepth 100000 in
set_option maxHeartbeats 3200000 in
theorem either1_any (c1 c2 c3 bo j:Nat) (old:Bool) (yes no v:Tx) (w:World) (h:EithC w c1 c2 c3 bo j yes no) (hc:w.cell? ⟨bo,j,none⟩=some (.bool old)) (hf:w.frozen? ⟨bo,j,none⟩=false) (n1:c1≠bo) (n2:c3≠bo) :
  Calls Tryz.prog 115 #[.string (str v),.pointer (some ⟨c1,0,none⟩),.pointer (some ⟨c2,0,none⟩),.pointer (some ⟨c3,0,none⟩)] w (PutT bo j (.bool (v == yes)) (v == yes || v == no) w):=by
 have k1:w.cell? ⟨c1,0,none⟩=some (.string (str yes)):=h.yes.cell 0 _
 have k2:w.cell? ⟨c2,0,none⟩=some (.pointer (some ⟨bo,j,none⟩)):=h.pt.cell 0 _
 have K1:=Lib.hid fun (u:Value)=>(show (w.setCell ⟨bo,j,none⟩ u).cell? ⟨c1,0,none⟩=some (.string (str yes)) from BoxA.cell (h.yes.but ((But.refl bo w).setCell j u) n1) 0 _)
 have K3:=Lib.hid fun (u:Value)=>(show (w.setCell ⟨bo,j,none⟩ u).cell? ⟨c3,0,none⟩=some (.string (str no)) from BoxA.cell (h.no.but ((But.refl bo w).setCell j u) n2) 0 _)
 have m1:¬ bo=c1:=fun e=>n1 e.symm
 have m2:¬ bo=c3:=fun e=>n2 e.symm
 clear h n1 n2
 by_cases h1:v=yes
 ·subst h1
  rw [show (v == v)=true by rw [beq_iff_eq]]
  go_enter Tryz.func115,Tryz.ntmps115
  go_upto_region 2 with fail
  have k4:=K1.out (.bool true)
  have k5:=K3.out (.bool true)
  go_wp2
  go_ret
  exact ⟨rfl,w,Below.refl _ _,rfl⟩
 ·obtain ⟨q1,q2⟩:=(⟨by rw [eq_str];exact decide_eq_false h1,fun h=>h1 (by rw [str_toList,str_toList] at h;exact h)⟩:((str v).toList == (str yes).toList)=false∧¬ (str v).toList=(str yes).toList)
  rw [show (v == yes)=false by rw [beq_eq_false_iff_ne];exact h1]
  by_cases h2:v=no
  ·subst h2
   rw [show (v == v)=true by rw [beq_iff_eq]]
   clear h1
   go_enter Tryz.func115,Tryz.ntmps115
   go_upto_region 2 with fail
   have k4:=K1.out (.bool false)
   have k5:=K3.out (.bool false)
   go_wp2
   go_ret
   exact ⟨rfl,w,Below.refl _ _,rfl⟩
  ·obtain ⟨q3,q4⟩:=(⟨by rw [eq_str];exact decide_eq_false h2,fun h=>h2 (by rw [str_toList,str_toList] at h;exact h)⟩:((str v).toList == (str no).toList)=false∧¬ (str v).toList=(str no).toList)
   rw [show (v == no)=false by rw [beq_eq_false_iff_ne];exact h2]
   clear h1 h2
   go_enter Tryz.func115,Tryz.ntmps115
   go_upto_region 2 with fail
   have k4:=K1.out (.bool false)
   have k5:=K3.out (.bool false)
   go_wp2
   go_ret
   exact ⟨rfl,w,Below.refl _ _,rfl⟩
theorem below_undrew2 {w w':World} (h:Below w.heap.size w.drew w'):Below w.heap.size w w':=⟨h.os,h.tape,h.output,h.size,h.block⟩
def PtC (w:World) (c bo j:Nat) (t:TypeId):Prop:=BoxA w c t #[.pointer (some ⟨bo,j,none⟩)]
theorem PtC.next {w w':World} {c bo j:Nat} {t:TypeId} (h:PtC w c bo j t) (hb:Below w.heap.size w w'):PtC w' c bo j t:=BoxA.next h hb
set_option maxRecDepth 100000 in
set_option maxHeartbeats 3200000 in
theorem name1_any (c bo j:Nat) (old v:Tx) (hv:v.length≤9223372036854775807) (w:World) (h:PtC w c bo j 126) (hc:w.cell? ⟨bo,j,none⟩=some (.string (str old))) (hf:w.frozen? ⟨bo,j,none⟩=false) (hlt:bo < w.heap.size) (n1:c≠bo) :
  Calls Tryz.prog 116 #[.string (str v),.pointer (some ⟨c,0,none⟩)] w (NameT bo j v w):=by
 have HP:=Lib.hid fun (W:World) (hb:Below w.heap.size w W)=>(show W.cell? ⟨c,0,none⟩=some (.pointer (some ⟨bo,j,none⟩)) from BoxA.cell (h.next hb) 0 _)
 cases hn:isName v with
 | false =>
  have HN:=Lib.hid hn
  have HV:=Lib.hid hv
  clear h hc hf hlt hn hv
  go_enter Tryz.func116,Tryz.ntmps116
  go_wp2_with (go_at_call 98;refine (name_all v HV.out _).mono ?_;rintro e w1 ⟨rfl,hb⟩;rw [HN.out];have HB:=Lib.hid hb;clear hb)
  go_ret
  exact ⟨by rw [HN.out];rfl,w1,HB.out,by rw [HN.out];rfl⟩
 | true =>
  have HN:=Lib.hid hn
  have HV:=Lib.hid hv
  have HL:=Lib.hid (show (str v).size≤281474976710656 by rw [str_size];have:=name_len hn;omega)
  have HC:=Lib.hid fun (W:World) (hb:Below w.heap.size w W)=>(Below.cell hb hlt).trans hc
  have HF:=Lib.hid fun (W:World) (hb:Below w.heap.size w W)=>(show W.frozen? ⟨bo,j,none⟩=false by rw [←hf];unfold World.frozen?;rw [hb.block bo hlt])
  have HS:=Lib.hid fun (W:World) (hb:Below w.heap.size w W)=>(show (W.setCell ⟨bo,j,none⟩ (.string (str v))).cell? ⟨c,0,none⟩=some (.pointer (some ⟨bo,j,none⟩)) from BoxA.cell (BoxA.but (h.next hb) ((But.refl bo W).setCell j _) n1) 0 _)
  clear h hc hf hn hv
  go_enter Tryz.func116,Tryz.ntmps116
  go_upto_region 3 with (go_at_call 98;refine (name_all v HV.out _).mono ?_;rintro e w1 ⟨rfl,hb⟩;rw [HN.out];have HB:=Lib.hid hb;clear hb)
  have k1:=HP.out _ HB.out
  go_region_held3 (fun W=>W.cell? ⟨c,0,none⟩=some (.pointer (some ⟨bo,j,none⟩))) (first | exact HP.out _ HB2.out | exact k1 | exact HS.out _ HB2.out) (first | (go_at_call 117;((with_reducible refine (clone_any (str v) _ HL.out).mono ?_);rintro e w2 ⟨rfl,hb2⟩);have HB2:=Lib.hid (HB.out.trans (Below.mono (below_undrew2 hb2) HB.out.size));have hc2:=HC.out _ HB2.out;have hf2:=HF.out _ HB2.out;clear hb2))
  go_wp2
  go_ret
  exact ⟨by rw [HN.out];rfl,w2,HB2.out,by rw [HN.out];rfl⟩
def okSz (v:Tx):Bool:=decide (0 < (size? v).getD 0)
set_option maxRecDepth 100000 in
set_option maxHeartbeats 3200000 in
theorem size1_any (c bo j:Nat) (old:Int) (v:Tx) (hv:v.length≤140737488355328) (w:World) (h:PtC w c bo j 122) (hc:w.cell? ⟨bo,j,none⟩=some (.int .i64 old)) (hf:w.frozen? ⟨bo,j,none⟩=false) (hlt:bo < w.heap.size) (hL:LaidU w) :
  Calls Tryz.prog 119 #[.string (str v),.pointer (some ⟨c,0,none⟩)] w (PutT bo j (.int .i64 (sizV v)) (okSz v) w):=by
 have HP:=Lib.hid fun (W:World) (hb:Below w.heap.size w W)=>(show W.cell? ⟨c,0,none⟩=some (.pointer (some ⟨bo,j,none⟩)) from BoxA.cell (h.next hb) 0 _)
 have HC:=Lib.hid fun (W:World) (hb:Below w.heap.size w W)=>(Below.cell hb hlt).trans hc
 have HF:=Lib.hid fun (W:World) (hb:Below w.heap.size w W)=>(show W.frozen? ⟨bo,j,none⟩=false by rw [←hf];unfold World.frozen?;rw [hb.block bo hlt])
 have HU:=Lib.hid (size_any v hv w hL)
 obtain ⟨x,hx⟩:∃ x,size? v=x:=⟨_,rfl⟩
 have HV:=Lib.hid (show sizV v=qv x by unfold sizV qv;rw [hx])
 have HO:=Lib.hid (show okSz v=decide (0 < x.getD 0) by unfold okSz;rw [hx])
 rw [HV.out]
 rw [hx] at HU
 clear h hc hf hlt hL hv hx
 cases x with
 | none =>
  go_enter Tryz.func119,Tryz.ntmps119
  go_wp2_with (go_at_call 120;((with_reducible refine HU.out.mono ?_);rintro e w1 ⟨rfl,hb⟩);rw [qv_none,qe_none];have HB:=Lib.hid hb;have k1:=HP.out _ hb;have hc:=HC.out _ hb;have hf:=HF.out _ hb;clear hb)
  go_ret
  exact ⟨by rw [HO.out];rfl,w1,HB.out,rfl⟩
 | some n =>
  go_enter Tryz.func119,Tryz.ntmps119
  go_wp2_with (go_at_call 120;((with_reducible refine HU.out.mono ?_);rintro e w1 ⟨rfl,hb⟩);rw [qv_some,qe_some];have HB:=Lib.hid hb;have k1:=HP.out _ hb;have hc:=HC.out _ hb;have hf:=HF.out _ hb;clear hb)
  go_ret
  exact ⟨by rw [HO.out];rfl,w1,HB.out,rfl⟩
end Go.Proofs.YtekcjfdllclphaaGreatDoor.gn
end
section
set_option linter.unusedVariables false
namespace Go.Proofs.YtekcjfdllclphaaGreatDoor.gn
open Go.RowKit
open Go.Proofs.YtekcjfdllclphaaGreatDoor.un
open Go.Proofs.YtekcjfdllclphaaGreatDoor.di
def wd (k:Nat):Tx:=if 1≤k∧k≤6 then kw k else []
set_option maxRecDepth 100000 in
set_option maxHeartbeats 1600000 in
theorem dword_any (k:Nat) (h:1≤k∧k≤6) (w:World):Calls Tryz.prog 75 #[.int .u8 (k:Nat)] w (Told (.string (str (kw k))) w):=by
 have HB:=Lib.hid (show Below w.heap.size w (w.alloc (.cells #[.string { data:=#[] },.string { data:=#[106,111,98,100,119] },.string { data:=#[115,116,97,103,101,95,105,110] },.string { data:=#[115,116,97,103,101,95,111,117,116] },.string { data:=#[99,114,101,97,116,101,95,112,101,114,115,105,115,116,101,110,116] },.string { data:=#[100,101,115,116,114,111,121,95,112,101,114,115,105,115,116,101,110,116] },.string { data:=#[117,115,101,95,112,101,114,115,105,115,116,101,110,116] }] 9)) from (Below.refl _ _).alloc (Nat.le_refl _) _)
 rcases six h with rfl | rfl | rfl | rfl | rfl | rfl
 all_goals
  go_enter Tryz.func75,Tryz.ntmps75
  go_wp2
  go_ret
  exact ⟨rfl,HB.out⟩
set_option maxRecDepth 100000 in
theorem dasks_any (k:Nat) (h:1≤k∧k≤6) (w:World):Calls Tryz.prog 76 #[.int .u8 (k:Nat)] w fun e w'=>e=.returned (.tuple #[.bool (hasSize k),.bool (hasName k),.bool (hasPool k)])∧w=w':=by
 rcases six h with rfl | rfl | rfl | rfl | rfl | rfl
 all_goals
  go_enter Tryz.func76,Tryz.ntmps76
  go_wp2
  go_ret3
  exact ⟨rfl,rfl⟩
structure WS (l:Tx) (i f:Nat) (S:List Tx):Prop where
 fi:f≤i
 il:i≤l.length
 sp:words l=S++words (l.drop f)
 no:(32:UInt8) ∉ (l.drop f).take (i - f)
theorem WS.split {l:Tx} {i f:Nat} (hfi:f≤i) (hi:i < l.length):l.drop f=(l.drop f).take (i - f)++l[i]::l.drop (i+1):=by
 have h1:=List.take_append_drop (i - f) (l.drop f)
 rw [List.drop_drop,show f+(i - f)=i by omega,List.drop_eq_getElem_cons hi] at h1
 exact h1.symm
theorem WS.hit {l:Tx} {i f:Nat} {S:List Tx} (h:WS l i f S) (hi:i < l.length) (hb:l[i]=32):WS l (i+1) (i+1) (S++[(l.drop f).take (i - f)]):=by
 refine ⟨Nat.le_refl _,by omega,?_,by simp⟩
 have hs:=WS.split h.fi hi
 rw [hb] at hs
 rw [h.sp,hs,words_app _ _ h.no,List.append_assoc]
 rw [←hs]
 rfl
end Go.Proofs.YtekcjfdllclphaaGreatDoor.gn
end
section
set_option linter.unusedVariables false
namespace Go.Proofs.YtekcjfdllclphaaGreatDoor.gn
open Go.ChangeShapes Go.WideShapes Go.ChangeAt Go.RowKit Go.Deep
open Go.Proofs.YtekcjfdllclphaaGreatDoor.un
open Go.Proofs.YtekcjfdllclphaaGreatDoor.di
open Go.Proofs.YtekcjfdllclphaaGreatDoor.sp (Slip)
section
variable {H : Type} {enc : TypeId × Value → H} {W : World}
theorem open_rowG {α:Type} (f:α→List Value) {k:Nat} (hf:∀ x,(f x).length=k) (hk0:0 < k) (ok:α→Prop) (z:α) {t e:TypeId} (ht:Tryz.prog.underlying t=some (.slice e)) (he:Tryz.prog.cellsOf e=k)
  (h1:∀ fuel cs x,DataW.trod enc Tryz.prog W 0 (fun _=>true) true fuel e cs=some x→cs.length=k→∃ y,cs=f y∧ok y)
  {fuel:Nat} {v:Value} {x:DataW H × List MemPlace} (h:DataW.trod enc Tryz.prog W 0 (fun _=>true) true fuel t [v]=some x):∃ l:List α,RdC W v l.length (l.flatMap f)∧Cp v l.length∧∀ y∈l,ok y:=by
 rcases open_slice ht h with ⟨hcs,_⟩ | ⟨a,len,cap,m,n,D,Pl,hcs,_,hle,hcap,hm,_,hi⟩
 ·simp at hcs
  subst hcs
  exact ⟨[],.inl ⟨none,0,rfl,rfl,rfl,fun _=>rfl⟩,⟨_,_,rfl,Nat.le_refl _,by decide⟩,fun y hy=>by cases hy⟩
 ·simp at hcs
  subst hcs
  simp at hm
  have hex:∀ i,i < len→∃ y:α,(∀ j u,(f y)[j]?=some u→W.cell? ((a.add (i * k)).add j)=some u)∧ok y:=fun i hil=>by
   obtain ⟨cs',hc,ht⟩:=hi i (by omega)
   rw [he] at hc
   obtain ⟨_,hl,hcells⟩:=World.cells?_some hc
   obtain ⟨y,hy,hw⟩:=h1 _ _ _ ht hl
   refine ⟨y,fun j u hu=>?_,hw⟩
   rw [←hy] at hu
   exact (hcells j (by obtain ⟨hj,_⟩:=List.getElem?_eq_some_iff.1 hu;omega)).trans hu
  have hLx:∃ L:List α,L.length=len∧∀ i (hil:i < L.length),(∀ j u,(f L[i])[j]?=some u→W.cell? ((a.add (i * k)).add j)=some u)∧ok L[i]:=by
   refine ⟨(List.range len).map fun i=>if hil:i < len then Classical.choose (hex i hil) else z,by simp,fun i hil=>?_⟩
   have hil':i < len:=by simpa using hil
   simp only [List.getElem_map,List.getElem_range,dif_pos hil']
   exact Classical.choose_spec (hex i hil')
  obtain ⟨L,rfl,hL⟩:=hLx
  refine ⟨L,?_,⟨_,_,rfl,hle,hcap⟩,fun y hy=>?_⟩
  ·by_cases h0:L.length=0
   ·have e:L=[]:=List.eq_nil_of_length_eq_zero h0
    subst e
    exact .inl ⟨some a,cap,rfl,rfl,rfl,fun e=>by cases e⟩
   ·obtain ⟨b,off,spot⟩:=a
    have h00:=(hL 0 (by omega)).1 0 ((f L[0])[0]'(by rw [hf];exact hk0)) (List.getElem?_eq_getElem _)
    have hspot:spot=none:=by simpa [Addr.add] using World.cell?_spot h00
    subst hspot
    have hadd:∀ o j,(⟨b,o,none⟩:Addr).add j=⟨b,o+j,none⟩:=fun o j=>by unfold Addr.add;split <;> simp_all
    simp only [hadd] at h00
    refine .inr ⟨b,off,cap,rfl,World.block_lt_of_cell? W _ h00,fun j u hu=>?_⟩
    have hjl:j < L.length * k:=by
     have:=(List.getElem?_eq_some_iff.1 hu).1
     rwa [flat_len f k hf] at this
    have hdm:j / k < L.length:=Nat.div_lt_of_lt_mul (by rwa [Nat.mul_comm])
    have hmod:j % k < k:=Nat.mod_lt _ hk0
    have hj:j=j / k * k+j % k:=by rw [Nat.mul_comm];exact (Nat.div_add_mod j k).symm
    have hq:=(hL (j / k) hdm).1 (j % k) u (by
     rw [hj,flat_at f k hf L (j / k) (j % k) L[j / k] (List.getElem?_eq_getElem hdm) hmod] at hu
     exact hu)
    rw [hadd,hadd,Nat.add_assoc,← hj] at hq
    exact hq
  ·obtain ⟨i,hil,rfl⟩:=List.mem_iff_getElem.1 hy
   exact (hL i hil).2
theorem list2 {α:Type} {l:List α} (h:l.length=2):∃ a b,l=[a,b]:=by
 match l,h with
 | [a,b],_=>exact ⟨a,b,rfl⟩
theorem list5 {α:Type} {l:List α} (h:l.length=5):∃ a b c d e,l=[a,b,c,d,e]:=by
 match l,h with
 | [a,b,c,d,e],_=>exact ⟨a,b,c,d,e,rfl⟩
theorem list12 {α:Type} {l:List α} (h:l.length=12):∃ a b c d e f g h i j k m,l=[a,b,c,d,e,f,g,h,i,j,k,m]:=by
 match l,h with
 | [a,b,c,d,e,f,g,h,i,j,k,m],_=>exact ⟨a,b,c,d,e,f,g,h,i,j,k,m,rfl⟩
theorem open_int64 {fuel:Nat} {v:Value} {x:DataW H × List MemPlace} (h:DataW.trod enc Tryz.prog W 0 (fun _=>true) true fuel 2 [v]=some x):∃ n:Int,v=.int .i64 n∧-9223372036854775808≤n∧n≤9223372036854775807:=by
 obtain ⟨k,hk,_,hw⟩:=DataW.trod_int Tryz.underlying2 h
 simp at hk
 obtain ⟨l3,u3⟩:-9223372036854775808≤k∧k≤9223372036854775807:=by simpa [Lit.wf,IntKind.min,IntKind.max,IntKind.signed,IntKind.bits] using hw
 exact ⟨k,hk,l3,u3⟩
theorem open_str {fuel:Nat} {v:Value} {x:DataW H × List MemPlace} (h:DataW.trod enc Tryz.prog W 0 (fun _=>true) true fuel 9 [v]=some x):∃ l:Tx,v=.string (str l)∧l.length≤9223372036854775807:=by
 obtain ⟨s,e,_,hs⟩:=DataW.trod_string Tryz.underlying9 h
 simp at e
 have:s.size≤maxLen:=by simpa using hs
 unfold maxLen at this
 exact ⟨s.data.toList,by rw [e,str_of],by rw [Array.length_toList];exact this⟩
theorem dDep2:Tryz.prog.cellsOf 88=2:=by kernel_rfl
theorem open_dep {fuel:Nat} {cs:List Value} {x:DataW H × List MemPlace} (h:DataW.trod enc Tryz.prog W 0 (fun _=>true) true fuel 88 cs=some x) (hl:cs.length=2) :
  ∃ d:Dep,cs=cA d∧(-9223372036854775808≤d.1∧d.1≤9223372036854775807):=by
 obtain ⟨c0,c1,rfl⟩:=list2 hl
 obtain ⟨xs,m,_,rfl,_,hlen,hf⟩:=DataW.trod_struct Tryz.underlying88 h
 obtain ⟨z0,z1,rfl⟩:=list2 hlen
 have k0:DataW.trod enc Tryz.prog W 0 (fun _=>true) true m 2 [c0]=some z0:=by simpa [dI64] using hf 0 _ rfl
 have k1:DataW.trod enc Tryz.prog W 0 (fun _=>true) true m 4 [c1]=some z1:=by simpa [dBool] using hf 1 _ rfl
 obtain ⟨n,rfl,hn⟩:=open_int64 k0
 obtain ⟨b,e1,_⟩:=DataW.trod_bool Tryz.underlying4 k1
 simp at e1
 subst e1
 exact ⟨(n,b),rfl,hn⟩
theorem open_dir5 {fuel:Nat} {cs:List Value} {x:DataW H × List MemPlace} (h:DataW.trod enc Tryz.prog W 0 (fun _=>true) true fuel 80 cs=some x) (hl:cs.length=5) :
  ∃ d:Dir,cs=cM d∧DW d:=by
 obtain ⟨c0,c1,c2,c3,c4,rfl⟩:=list5 hl
 obtain ⟨xs,m,_,rfl,_,hlen,hf⟩:=DataW.trod_struct Tryz.underlying80 h
 obtain ⟨z0,z1,z2,z3,z4,rfl⟩:=list5 hlen
 have k0:DataW.trod enc Tryz.prog W 0 (fun _=>true) true m 5 [c0]=some z0:=by simpa [dU8] using hf 0 _ rfl
 have k1:DataW.trod enc Tryz.prog W 0 (fun _=>true) true m 9 [c1]=some z1:=by simpa [dStr] using hf 1 _ rfl
 have k2:DataW.trod enc Tryz.prog W 0 (fun _=>true) true m 9 [c2]=some z2:=by simpa [dStr] using hf 2 _ rfl
 have k3:DataW.trod enc Tryz.prog W 0 (fun _=>true) true m 2 [c3]=some z3:=by simpa [dI64] using hf 3 _ rfl
 have k4:DataW.trod enc Tryz.prog W 0 (fun _=>true) true m 4 [c4]=some z4:=by simpa [dBool] using hf 4 _ rfl
 obtain ⟨q0,e0,_,w0⟩:=DataW.trod_int Tryz.underlying5 k0
 obtain ⟨n1,rfl,hn1⟩:=open_str k1
 obtain ⟨n2,rfl,hn2⟩:=open_str k2
 obtain ⟨n3,rfl,hn3⟩:=open_int64 k3
 obtain ⟨b4,e4,_⟩:=DataW.trod_bool Tryz.underlying4 k4
 simp at e0 e4
 subst e0 e4
 obtain ⟨l1,u1⟩:0≤q0∧q0≤255:=by simpa [Lit.wf,IntKind.min,IntKind.max,IntKind.signed,IntKind.bits] using w0
 refine ⟨⟨q0.toNat,n1,n2,n3,b4⟩,?_,⟨by show q0.toNat < 256;omega,hn1,hn2,hn3.1,hn3.2⟩⟩
 have:((q0.toNat:Nat):Int)=q0:=by omega
 simp [cM,this]
theorem open_s1 {fuel:Nat} {cs:List Value} {x:DataW H × List MemPlace} (h:DataW.trod enc Tryz.prog W 0 (fun _=>true) true fuel 9 cs=some x) (hl:cs.length=1):∃ l:Tx,cs=cS l∧l.length≤9223372036854775807:=by
 match cs,hl with
 | [c],_ =>
  obtain ⟨l,rfl,h2⟩:=open_str h
  exact ⟨l,rfl,h2⟩
theorem dRA:Tryz.prog.cellsOf 23=1:=by kernel_rfl
theorem dRM:Tryz.prog.cellsOf 24=1:=by kernel_rfl
theorem dRS:Tryz.prog.cellsOf 25=1:=by kernel_rfl
theorem dSlip12:Tryz.prog.cellsOf 27=12:=by kernel_rfl
end
end Go.Proofs.YtekcjfdllclphaaGreatDoor.gn
end
