/- Orders in memory: values, boxes; the closures that store a field, and number, either, name, size. -/
import Derived.Test.YtekcjfdllclphaaGreatDoorMQbOrR
import Derived.Test.YtekcjfdllclphaaGreatDoorMQbDiL
import Derived.Test.YtekcjfdllclphaaGreatDoorMQbDiX
import Derived.Test.YtekcjfdllclphaaGreatDoorMQbUnI
import Derived.Test.YtekcjfdllclphaaGreatDoorMQbGenLoad
import Derived.Test.YtekcjfdllclphaaGreatDoorRows
import Derived.ProofKit
import Derived.LaidMore
import Derived.Lay
import Derived.Stop.Joined
import Derived.Stop.LaidErr
import Derived.Lib.LaidTab
import Derived.HandedShaped
import Derived.Shelf.Vars
set_option linter.unusedVariables false
set_option linter.unusedSimpArgs false
section
namespace Go.Proofs.YtekcjfdllclphaaGreatDoor.gn
open Go.RowKit
open Go.Proofs.YtekcjfdllclphaaGreatDoor.un
open Go.Proofs.YtekcjfdllclphaaGreatDoor.di
open Go.Proofs.YtekcjfdllclphaaGreatDoor.sp (Slip within? okW)
open Go.Proofs.YtekcjfdllclphaaGreatDoor.od (Ord okO stO numV sizV resK badW nK)
def ocs (o:Ord) (g:Gh):Array Value:=#[.int .u8 (o.kind:Nat),.int .i64 o.job,.int .i64 o.n,.string (str o.name),.string (str o.pool),.string (str o.user),.int .i64 o.size,.bool o.yes,.string (str o.slip.user),.int .i64 o.slip.nodes,.int .i64 o.slip.wall,.int .i64 o.slip.qos,g.a,.int .i64 o.slip.cap,.int .i64 o.slip.inn,.int .i64 o.slip.out,.string (str o.slip.pool),g.m,g.d,g.u]
def oV (o:Ord) (g:Gh):Value:=.agg (ocs o g)
def OrdB (W:World) (b:Nat) (o:Ord) (g:Gh):Prop:=BoxA W b 29 (ocs o g)
theorem OrdB.next {w w':World} {b:Nat} {o:Ord} {g:Gh} (h:OrdB w b o g) (hb:Below w.heap.size w w'):OrdB w' b o g:=BoxA.next h hb
theorem OrdB.lt {w:World} {b:Nat} {o:Ord} {g:Gh} (h:OrdB w b o g):b < w.heap.size:=BoxA.lt h
def okN (v:Tx) (a b:Nat):Bool:=(within? v a b).isSome
def okM (x:Option Nat) (a b:Nat):Bool:=match x with
 | some n=>decide (a≤n∧n≤b)
 | none=>false
theorem okN_M (v:Tx) (a b:Nat):okN v a b=okM (num? v) a b:=by
 unfold okN within? okM
 cases num? v with
 | none=>rfl
 | some n =>
  dsimp only
  by_cases hq:a≤n∧n≤b
  ·rw [if_pos hq,decide_eq_true hq];rfl
  ·rw [if_neg hq,decide_eq_false hq];rfl
structure NumC (w:World) (c1 c2 c3 bo j:Nat) (a b:Int):Prop where
 pt:BoxA w c1 122 #[.pointer (some ⟨bo,j,none⟩)]
 lo:BoxA w c2 2 #[.int .i64 a]
 hi:BoxA w c3 2 #[.int .i64 b]
theorem NumC.next {w w':World} {c1 c2 c3 bo j:Nat} {a b:Int} (h:NumC w c1 c2 c3 bo j a b) (hb:Below w.heap.size w w'):NumC w' c1 c2 c3 bo j a b:=⟨h.pt.next hb,h.lo.next hb,h.hi.next hb⟩
def PutT (bo j:Nat) (u:Value) (b:Bool) (w:World) (e:Ending) (w':World):Prop:=e=.returned (.bool b)∧∃ w1,Below w.heap.size w w1∧w'=w1.setCell ⟨bo,j,none⟩ u
set_option maxRecDepth 100000 in
set_option maxHeartbeats 3200000 in
theorem number1_any (c1 c2 c3 bo j a b:Nat) (old:Int) (v:Tx) (hv:v.length≤140737488355328) (ha:a≤1099511627776) (hb:b≤1099511627776) (w:World) (h:NumC w c1 c2 c3 bo j a b) (hc:w.cell? ⟨bo,j,none⟩=some (.int .i64 old)) (hf:w.frozen? ⟨bo,j,none⟩=false) (hlt:bo < w.heap.size) (n1:c2≠bo) (n2:c3≠bo) (hL:LaidU w) :
  Calls Tryz.prog 113 #[.string (str v),.pointer (some ⟨c1,0,none⟩),.pointer (some ⟨c2,0,none⟩),.pointer (some ⟨c3,0,none⟩)] w (PutT bo j (.int .i64 (numV v)) (okN v a b) w):=by
 have HN:=Lib.hid h
 have HC:=Lib.hid fun (W:World) (hb:Below w.heap.size w W)=>(Below.cell hb hlt).trans hc
 have HF:=Lib.hid fun (W:World) (hb:Below w.heap.size w W)=>(show W.frozen? ⟨bo,j,none⟩=false by rw [←hf];unfold World.frozen?;rw [hb.block bo hlt])
 have HU:=Lib.hid (number_unit v hv w hL)
 have HNE:=Lib.hid (And.intro n1 n2)
 have m1:¬ bo=c2:=fun e=>n1 e.symm
 have m2:¬ bo=c3:=fun e=>n2 e.symm
 obtain ⟨x,hx⟩:∃ x,num? v=x:=⟨_,rfl⟩
 have HV:=Lib.hid (show numV v=qv x by unfold numV qv;rw [hx])
 have HO:=Lib.hid (show okN v a b=okM x a b by rw [okN_M,hx])
 rw [HV.out]
 rw [hx] at HU
 have hxt:∀ n,x=some n→n≤1099511627776:=fun n e=>(un.num_iff.1 (hx.trans e)).1
 have K1:=Lib.hid fun (W:World) (hb:Below w.heap.size w W)=>(show W.cell? ⟨c1,0,none⟩=some (.pointer (some ⟨bo,j,none⟩)) from (h.next hb).pt.cell 0 _)
 have K2:=Lib.hid fun (W:World) (u:Value) (hb:Below w.heap.size w W)=>(show (W.setCell ⟨bo,j,none⟩ u).cell? ⟨c2,0,none⟩=some (.int .i64 a) from BoxA.cell (((h.next hb).lo).but ((But.refl bo W).setCell j u) n1) 0 _)
 have K3:=Lib.hid fun (W:World) (u:Value) (hb:Below w.heap.size w W)=>(show (W.setCell ⟨bo,j,none⟩ u).cell? ⟨c3,0,none⟩=some (.int .i64 b) from BoxA.cell (((h.next hb).hi).but ((But.refl bo W).setCell j u) n2) 0 _)
 clear h hc hf hlt hL n1 n2 hv hx
 cases x with
 | none =>
  go_enter Tryz.func113,Tryz.ntmps113
  go_wp2_with (go_at_call 114;((with_reducible refine HU.out.mono ?_);rintro e w1 ⟨rfl,hb⟩);rw [qv_none,qe_none];have HB:=Lib.hid hb;have k1:=K1.out _ hb;have hc:=HC.out _ hb;have hf:=HF.out _ hb;clear hb)
  go_ret
  exact ⟨by rw [HO.out];rfl,w1,HB.out,rfl⟩
 | some n =>
  have hn:=hxt n rfl
  have HQ:=Lib.hid (show qv (some n)=(n:Int) from rfl)
  by_cases h1:a≤n
  ·have q1:decide ((a:Int)≤(n:Int))=true:=decide_eq_true (by omega)
   have HO2:=Lib.hid (show okN v a b=decide ((n:Int)≤(b:Int)) by rw [HO.out];show decide (a≤n∧n≤b)=_;rw [Bool.eq_iff_iff,decide_eq_true_eq,decide_eq_true_eq];omega)
   clear hxt
   go_enter Tryz.func113,Tryz.ntmps113
   go_upto_region 2 with (go_at_call 114;((with_reducible refine HU.out.mono ?_);rintro e w1 ⟨rfl,hb⟩);rw [qv_some,qe_some];have HB:=Lib.hid hb;have k1:=K1.out _ hb;have hc:=HC.out _ hb;have hf:=HF.out _ hb;clear hb)
   go_upto_region 3 with fail
   have k2:=K2.out _ (.int .i64 (n:Int)) HB.out
   have k3:=K3.out _ (.int .i64 (n:Int)) HB.out
   go_wp2
   go_ret
   exact ⟨by rw [HO2.out];first | rfl | simp,w1,HB.out,rfl⟩
  ·have q1:decide ((a:Int)≤(n:Int))=false:=decide_eq_false (by omega)
   have HO2:=Lib.hid (show okN v a b=false by rw [HO.out];show decide (a≤n∧n≤b)=_;rw [decide_eq_false];omega)
   clear hxt
   go_enter Tryz.func113,Tryz.ntmps113
   go_upto_region 3 with (go_at_call 114;((with_reducible refine HU.out.mono ?_);rintro e w1 ⟨rfl,hb⟩);rw [qv_some,qe_some];have HB:=Lib.hid hb;have k1:=K1.out _ hb;have hc:=HC.out _ hb;have hf:=HF.out _ hb;clear hb)
   have k2:=K2.out _ (.int .i64 (n:Int)) HB.out
   have k3:=K3.out _ (.int .i64 (n:Int)) HB.out
   go_wp2
   go_ret
   exact ⟨by rw [HO2.out];first | rfl | simp,w1,HB.out,rfl⟩
end Go.Proofs.YtekcjfdllclphaaGreatDoor.gn
end
section
namespace Go.Proofs.YtekcjfdllclphaaGreatDoor.gn
open Go.RowKit
open Go.Proofs.YtekcjfdllclphaaGreatDoor.un
open Go.Proofs.YtekcjfdllclphaaGreatDoor.di
open Go.Proofs.YtekcjfdllclphaaGreatDoor.sp (Slip within? okW)
open Go.Proofs.YtekcjfdllclphaaGreatDoor.od (Ord okO stO numV sizV resK badW nK)
structure EithC (w:World) (c1 c2 c3 bo j:Nat) (yes no:Tx):Prop where
 yes:BoxA w c1 9 #[.string (str yes)]
 pt:BoxA w c2 124 #[.pointer (some ⟨bo,j,none⟩)]
 no:BoxA w c3 9 #[.string (str no)]
set_option maxRecDepth 100000 in
set_option maxHeartbeats 3200000 in
theorem either1_any (c1 c2 c3 bo j:Nat) (old:Bool) (yes no v:Tx) (w:World) (h:EithC w c1 c2 c3 bo j yes no) (hc:w.cell? ⟨bo,j,none⟩=some (.bool old)) (hf:w.frozen? ⟨bo,j,none⟩=false) (n1:c1≠bo) (n2:c3≠bo) :
  Calls Tryz.prog 115 #[.string (str v),.pointer (some ⟨c1,0,none⟩),.pointer (some ⟨c2,0,none⟩),.pointer (some ⟨c3,0,none⟩)] w (PutT bo j (.bool (v == yes)) (v == yes || v == no) w):=by
 have k1:w.cell? ⟨c1,0,none⟩=some (.string (str yes)):=h.yes.cell 0 _
 have k2:w.cell? ⟨c2,0,none⟩=some (.pointer (some ⟨bo,j,none⟩)):=h.pt.cell 0 _
 have K1:=Lib.hid fun (u:Value)=>(show (w.setCell ⟨bo,j,none⟩ u).cell? ⟨c1,0,none⟩=some (.string (str yes)) from BoxA.cell (h.yes.but ((But.refl bo w).setCell j u) n1) 0 _)
 have K3:=Lib.hid fun (u:Value)=>(show (w.setCell ⟨bo,j,none⟩ u).cell? ⟨c3,0,none⟩=some (.string (str no)) from BoxA.cell (h.no.but ((But.refl bo w).setCell j u) n2) 0 _)
 have m1:¬ bo=c1:=fun e=>n1 e.symm
 have m2:¬ bo=c3:=fun e=>n2 e.symm
 clear h n1 n2
 by_cases h1:v=yes
 ·subst h1
  rw [show (v == v)=true by rw [beq_iff_eq]]
  go_enter Tryz.func115,Tryz.ntmps115
  go_upto_region 2 with fail
  have k4:=K1.out (.bool true)
  have k5:=K3.out (.bool true)
  go_wp2
  go_ret
  exact ⟨rfl,w,Below.refl _ _,rfl⟩
 ·obtain ⟨q1,q2⟩:=(⟨by rw [eq_str];exact decide_eq_false h1,fun h=>h1 (by rw [str_toList,str_toList] at h;exact h)⟩:((str v).toList == (str yes).toList)=false∧¬ (str v).toList=(str yes).toList)
  rw [show (v == yes)=false by rw [beq_eq_false_iff_ne];exact h1]
  by_cases h2:v=no
  ·subst h2
   rw [show (v == v)=true by rw [beq_iff_eq]]
   clear h1
   go_enter Tryz.func115,Tryz.ntmps115
   go_upto_region 2 with fail
   have k4:=K1.out (.bool false)
   have k5:=K3.out (.bool false)
   go_wp2
   go_ret
   exact ⟨rfl,w,Below.refl _ _,rfl⟩
  ·obtain ⟨q3,q4⟩:=(⟨by rw [eq_str];exact decide_eq_false h2,fun h=>h2 (by rw [str_toList,str_toList] at h;exact h)⟩:((str v).toList == (str no).toList)=false∧¬ (str v).toList=(str no).toList)
   rw [show (v == no)=false by rw [beq_eq_false_iff_ne];exact h2]
   clear h1 h2
   go_enter Tryz.func115,Tryz.ntmps115
   go_upto_region 2 with fail
   have k4:=K1.out (.bool false)
   have k5:=K3.out (.bool false)
   go_wp2
   go_ret
   exact ⟨rfl,w,Below.refl _ _,rfl⟩
theorem below_undrew2 {w w':World} (h:Below w.heap.size w.drew w'):Below w.heap.size w w':=⟨h.os,h.tape,h.output,h.size,h.block⟩
def PtC (w:World) (c bo j:Nat) (t:TypeId):Prop:=BoxA w c t #[.pointer (some ⟨bo,j,none⟩)]
theorem PtC.next {w w':World} {c bo j:Nat} {t:TypeId} (h:PtC w c bo j t) (hb:Below w.heap.size w w'):PtC w' c bo j t:=BoxA.next h hb
set_option maxRecDepth 100000 in
set_option maxHeartbeats 3200000 in
theorem name1_any (c bo j:Nat) (old v:Tx) (hv:v.length≤9223372036854775807) (w:World) (h:PtC w c bo j 126) (hc:w.cell? ⟨bo,j,none⟩=some (.string (str old))) (hf:w.frozen? ⟨bo,j,none⟩=false) (hlt:bo < w.heap.size) (n1:c≠bo) :
  Calls Tryz.prog 116 #[.string (str v),.pointer (some ⟨c,0,none⟩)] w (NameT bo j v w):=by
 have HP:=Lib.hid fun (W:World) (hb:Below w.heap.size w W)=>(show W.cell? ⟨c,0,none⟩=some (.pointer (some ⟨bo,j,none⟩)) from BoxA.cell (h.next hb) 0 _)
 cases hn:isName v with
 | false =>
  have HN:=Lib.hid hn
  have HV:=Lib.hid hv
  clear h hc hf hlt hn hv
  go_enter Tryz.func116,Tryz.ntmps116
  go_wp2_with (go_at_call 98;refine (name_all v HV.out _).mono ?_;rintro e w1 ⟨rfl,hb⟩;rw [HN.out];have HB:=Lib.hid hb;clear hb)
  go_ret
  exact ⟨by rw [HN.out];rfl,w1,HB.out,by rw [HN.out];rfl⟩
 | true =>
  have HN:=Lib.hid hn
  have HV:=Lib.hid hv
  have HL:=Lib.hid (show (str v).size≤281474976710656 by rw [str_size];have:=name_len hn;omega)
  have HC:=Lib.hid fun (W:World) (hb:Below w.heap.size w W)=>(Below.cell hb hlt).trans hc
  have HF:=Lib.hid fun (W:World) (hb:Below w.heap.size w W)=>(show W.frozen? ⟨bo,j,none⟩=false by rw [←hf];unfold World.frozen?;rw [hb.block bo hlt])
  have HS:=Lib.hid fun (W:World) (hb:Below w.heap.size w W)=>(show (W.setCell ⟨bo,j,none⟩ (.string (str v))).cell? ⟨c,0,none⟩=some (.pointer (some ⟨bo,j,none⟩)) from BoxA.cell (BoxA.but (h.next hb) ((But.refl bo W).setCell j _) n1) 0 _)
  clear h hc hf hn hv
  go_enter Tryz.func116,Tryz.ntmps116
  go_upto_region 3 with (go_at_call 98;refine (name_all v HV.out _).mono ?_;rintro e w1 ⟨rfl,hb⟩;rw [HN.out];have HB:=Lib.hid hb;clear hb)
  have k1:=HP.out _ HB.out
  go_region_held3 (fun W=>W.cell? ⟨c,0,none⟩=some (.pointer (some ⟨bo,j,none⟩))) (first | exact HP.out _ HB2.out | exact k1 | exact HS.out _ HB2.out) (first | (go_at_call 117;((with_reducible refine (clone_any (str v) _ HL.out).mono ?_);rintro e w2 ⟨rfl,hb2⟩);have HB2:=Lib.hid (HB.out.trans (Below.mono (below_undrew2 hb2) HB.out.size));have hc2:=HC.out _ HB2.out;have hf2:=HF.out _ HB2.out;clear hb2))
  go_wp2
  go_ret
  exact ⟨by rw [HN.out];rfl,w2,HB2.out,by rw [HN.out];rfl⟩
def okSz (v:Tx):Bool:=decide (0 < (size? v).getD 0)
set_option maxRecDepth 100000 in
set_option maxHeartbeats 3200000 in
theorem size1_any (c bo j:Nat) (old:Int) (v:Tx) (hv:v.length≤140737488355328) (w:World) (h:PtC w c bo j 122) (hc:w.cell? ⟨bo,j,none⟩=some (.int .i64 old)) (hf:w.frozen? ⟨bo,j,none⟩=false) (hlt:bo < w.heap.size) (hL:LaidU w) :
  Calls Tryz.prog 119 #[.string (str v),.pointer (some ⟨c,0,none⟩)] w (PutT bo j (.int .i64 (sizV v)) (okSz v) w):=by
 have HP:=Lib.hid fun (W:World) (hb:Below w.heap.size w W)=>(show W.cell? ⟨c,0,none⟩=some (.pointer (some ⟨bo,j,none⟩)) from BoxA.cell (h.next hb) 0 _)
 have HC:=Lib.hid fun (W:World) (hb:Below w.heap.size w W)=>(Below.cell hb hlt).trans hc
 have HF:=Lib.hid fun (W:World) (hb:Below w.heap.size w W)=>(show W.frozen? ⟨bo,j,none⟩=false by rw [←hf];unfold World.frozen?;rw [hb.block bo hlt])
 have HU:=Lib.hid (size_any v hv w hL)
 obtain ⟨x,hx⟩:∃ x,size? v=x:=⟨_,rfl⟩
 have HV:=Lib.hid (show sizV v=qv x by unfold sizV qv;rw [hx])
 have HO:=Lib.hid (show okSz v=decide (0 < x.getD 0) by unfold okSz;rw [hx])
 rw [HV.out]
 rw [hx] at HU
 clear h hc hf hlt hL hv hx
 cases x with
 | none =>
  go_enter Tryz.func119,Tryz.ntmps119
  go_wp2_with (go_at_call 120;((with_reducible refine HU.out.mono ?_);rintro e w1 ⟨rfl,hb⟩);rw [qv_none,qe_none];have HB:=Lib.hid hb;have k1:=HP.out _ hb;have hc:=HC.out _ hb;have hf:=HF.out _ hb;clear hb)
  go_ret
  exact ⟨by rw [HO.out];rfl,w1,HB.out,rfl⟩
 | some n =>
  go_enter Tryz.func119,Tryz.ntmps119
  go_wp2_with (go_at_call 120;((with_reducible refine HU.out.mono ?_);rintro e w1 ⟨rfl,hb⟩);rw [qv_some,qe_some];have HB:=Lib.hid hb;have k1:=HP.out _ hb;have hc:=HC.out _ hb;have hf:=HF.out _ hb;clear hb)
  go_ret
  exact ⟨by rw [HO.out];rfl,w1,HB.out,rfl⟩
end Go.Proofs.YtekcjfdllclphaaGreatDoor.gn
end
section
namespace Go.Proofs.YtekcjfdllclphaaGreatDoor.gn
open Go.RowKit
open Go.Proofs.YtekcjfdllclphaaGreatDoor.un
open Go.Proofs.YtekcjfdllclphaaGreatDoor.di
open Go.Proofs.YtekcjfdllclphaaGreatDoor.sp (Slip nameL)
theorem nodup_snoc {α:Type} {l:List α} {k:Nat} {y:α} (hy:l[k]?=some y) (hl:(l.take k).Nodup) (hn:y ∉ l.take k):(l.take (k+1)).Nodup:=by
 rw [take_snoc hy,List.nodup_append]
 exact ⟨hl,by simp,fun a ha b hb=>by simp at hb;subst hb;exact fun e=>hn (e ▸ ha)⟩
theorem not_nodup {α:Type} {l:List α} {i k:Nat} {x y:α} (hki:k < i) (hx:l[i]?=some x) (hy:l[k]?=some y) (he:x=y):¬ l.Nodup:=fun h=>by
 subst he
 have:=(List.getElem?_inj (by rcases List.getElem?_eq_some_iff.1 hy with ⟨hl,_⟩;exact hl) h).1 (hy.trans hx.symm)
 omega
set_option maxRecDepth 100000 in
set_option maxHeartbeats 4000000 in
theorem names_any (l:List Tx) (v:Value) (w:World) (h:RdC w v l.length (flS l)) (hm:l.length≤maxLen) (hs:∀ s∈l,s.length≤140737488355328):Calls Tryz.prog 78 #[v] w (Told (.bool (decide (nameL l))) w):=by
 obtain ⟨p,c,rfl⟩:=h.form
 have HC:=Lib.hid (fun hk:0 < l.length=>h.at_ (size:=1) rfl hk)
 obtain ⟨n,hn⟩:∃ n,l.length=n:=⟨_,rfl⟩
 rw [hn] at hm HC ⊢
 have HN:=Lib.hid hn
 have HSZ:=Lib.hid hs
 have hm2:n≤9223372036854775807:=by unfold maxLen at hm;omega
 clear h hn hm hs
 go_enter Tryz.func78,Tryz.ntmps78
 go_wp2
 go_loopw [3,4] (fun s3 s4 wr=>∃ (i:Nat) (v4:Value),s3=.int .i64 (i:Int)∧s4=v4∧i≤n∧Aside ((l.take i).Nodup∧(∀ s∈l.take i,isName s=true)∧Below w.heap.size w wr)) (fun s3 _ _=>n - (intOf s3).toNat)
 case atStart=>exact ⟨0,_,rfl,rfl,Nat.zero_le _,by show (l.take 0).Nodup;simp,by simp,Below.refl _ _⟩
 case round =>
  obtain ⟨i,v4,rfl,rfl,hi,hnd,hnm,hb⟩:=hrel
  have HX:=Lib.hid (And.intro (show (l.take i).Nodup from hnd) (show ∀ s∈l.take i,isName s=true from hnm))
  have HB:=Lib.hid (show Below w.heap.size w wr from hb)
  clear hnd hnm hb
  by_cases hin:i < n
  ·obtain ⟨b,off,rfl,hbl,hc⟩:=HC.out (by omega)
   obtain ⟨x,hx⟩:∃ x,l[i]?=some x:=⟨_,List.getElem?_eq_getElem (by rw [HN.out];exact hin)⟩
   have HCC:=Lib.hid (fun (W:World) (hb:Below w.heap.size w W) (j:Nat) (y:Tx) (hy:l[j]?=some y)=>(show W.cell? ⟨b,off+j,none⟩=some (.string (str y)) by
    have:=(Below.cell hb (p:=⟨b,off+(j * 1+0),none⟩) hbl).trans (hc.elt (f:=cS) (k:=1) (fun _=>rfl) (j:=0) hy (by decide) rfl)
    first | exact this | (rw [←Nat.add_assoc] at this;exact this) | (rw [Nat.mul_one,Nat.add_zero] at this;exact this)))
   have HBL:=Lib.hid hbl
   have HIX:=Lib.hid hx
   clear hc hbl hx
   go_upto_region 5 with fail
   go_wp2
   go_loopw [4] (fun s4 wx=>∃ k:Nat,s4=.int .i64 (k:Int)∧k≤i∧Aside (x ∉ l.take k∧Below w.heap.size w wx)) (fun s4 _=>i - (intOf s4).toNat)
   case atStart=>exact ⟨0,rfl,Nat.zero_le _,by show x ∉ l.take 0;simp,HB.out⟩
   case round =>
    obtain ⟨k,rfl,hk,hnx,hb2⟩:=hrel
    have HXX:=Lib.hid (show x ∉ l.take k from hnx)
    have HB2:=Lib.hid (show Below w.heap.size w wr from hb2)
    clear hnx hb2
    have c0:=HCC.out _ HB2.out i x HIX.out
    have hbw:b < wr.heap.size:=Nat.lt_of_lt_of_le HBL.out HB2.out.size
    by_cases hki:k < i
    ·obtain ⟨y,hy⟩:∃ y,l[k]?=some y:=⟨_,List.getElem?_eq_getElem (by rw [HN.out];omega)⟩
     have c1:=HCC.out _ HB2.out k y hy
     have hkn:k < n:=by omega
     have HY:=Lib.hid hy
     clear hy
     by_cases he:x=y
     ·have HM:=Lib.hid (show ¬ nameL l from fun h=>not_nodup hki HIX.out HY.out he h.2.1)
      obtain ⟨q1,q2⟩:=(⟨by rw [eq_str];exact decide_eq_true he,by rw [he]⟩:((str x).toList == (str y).toList)=true∧(str x).toList=(str y).toList)
      clear he
      go_wp2_with (go_quiet (fail))
      go_ret
      exact ⟨by rw [decide_eq_false HM.out];rfl,HB2.out.trans (Joins.below_draws _ _ _)⟩
     ·have HNX:=Lib.hid (show x ∉ l.take (k+1) by rw [mem_take_succ HY.out];exact fun h=>h.elim HXX.out he)
      obtain ⟨q1,q2⟩:=(⟨by rw [eq_str];exact decide_eq_false he,fun h=>he (by rw [str_toList,str_toList] at h;exact h)⟩:((str x).toList == (str y).toList)=false∧¬ (str x).toList=(str y).toList)
      clear he
      go_wp2_with (go_quiet (fail))
      go_roundw
      case rel=>exact ⟨k+1,by go_num,by omega,HNX.out,HB2.out.trans (Joins.below_draws _ _ _)⟩
      case measure=>simp [intOf];omega
    ·obtain rfl:k=i:=by omega
     have HND:=Lib.hid (nodup_snoc HIX.out HX.out.1 HXX.out)
     have HDN:=Lib.hid (fun W=>dname_any x (HSZ.out x (List.mem_of_getElem? HIX.out)) W)
     cases hnam:isName x with
     | false =>
      rw [hnam] at HDN
      have HM:=Lib.hid (show ¬ nameL l from fun h=>by have:=h.2.2 x (List.mem_of_getElem? HIX.out);rw [hnam] at this;cases this)
      clear hnam
      go_wp2_with (go_at_call 55;((with_reducible refine (HDN.out _).mono ?_);rintro e w3 ⟨rfl,rfl⟩))
      go_ret
      exact ⟨by rw [decide_eq_false HM.out];rfl,HB2.out⟩
     | true =>
      rw [hnam] at HDN
      have HM:=Lib.hid (show ∀ s∈l.take (k+1),isName s=true from fun s hs=>by
       rcases (mem_take_succ HIX.out).1 hs with hs | rfl
       ·exact HX.out.2 s hs
       ·exact hnam)
      clear hnam
      go_wp2_with (go_at_call 55;((with_reducible refine (HDN.out _).mono ?_);rintro e w3 ⟨rfl,rfl⟩))
      go_roundw
      case rel=>exact ⟨k+1,_,by go_num,rfl,by omega,HND.out,HM.out,HB2.out⟩
      case measure=>simp [intOf];omega
  ·obtain rfl:i=n:=by omega
   have HF:=Lib.hid (show decide ((i:Int)≤4)=decide (nameL l) from decide_eq_decide.2 ⟨fun h4=>by
    have:=HX.out
    rw [List.take_of_length_le (by rw [HN.out];exact Nat.le_refl _)] at this
    exact ⟨by rw [HN.out];omega,this.1,this.2⟩,fun h=>by have:=h.1;rw [HN.out] at this;omega⟩)
   go_wp2
   go_ret
   exact ⟨by rw [←HF.out];rfl,HB.out⟩
end Go.Proofs.YtekcjfdllclphaaGreatDoor.gn
end
section
namespace Go.Proofs.YtekcjfdllclphaaGreatDoor.gn
open Go.ChangeShapes Go.WideShapes Go.ChangeAt Go.RowKit
def laid7 : List (String × DataW Unit) := [("math/bits.deBruijn32tab", Rows.laid_math_bits_deBruijn32tab), ("math/bits.deBruijn64tab", Rows.laid_math_bits_deBruijn64tab), ("internal/strconv.uint64pow10", Rows.laid_internal_strconv_uint64pow10), ("unicode/utf8.acceptRanges", Rows.laid_unicode_utf8_acceptRanges), ("strconv.ErrRange", Rows.laid_strconv_ErrRange), ("strconv.ErrSyntax", Rows.laid_strconv_ErrSyntax), ("unicode/utf8.first", Rows.laid_unicode_utf8_first)]
theorem starE : "*" ++ "errors.errorString" = "*errors.errorString" := by decide
theorem rowE (u : TypeId) (h : Tryz.prog.typeName? 3 u = some "*errors.errorString") : u = 220 :=
 typeName_ptr_named (nm := "errors.errorString") (by rw [starE]; kernel_rfl) (by kernel_rfl) (by decide) u (by rw [starE]; exact h)
theorem tabE:(Rows.laid_internal_strconv_uint64pow10:DataW Unit)=Lib.tabData .u64 Lib.pow10Tab:=by kernel_rfl
theorem laidU_of {W:World} (h:laidMetH Tryz.prog laid7 W):LaidU W:=by
 rw [MakeChecks.laidMetH_plain _ _ _ (by kernel_rfl)] at h
 have h3:=h.tail.tail
 have h6:=h3.tail.tail.tail
 rw [tabE] at h3
 refine ⟨Lib.tabIs_of_head (show Tryz.prog.globalNamed "internal/strconv.uint64pow10" = some 1 by kernel_rfl) (show (Tryz.prog.globals[1]?).map (·.type) = some 207 by kernel_rfl) Tryz.underlying207 Tryz.underlying192 (by kernel_rfl) (by kernel_rfl) h3, ?_⟩
 obtain ⟨a0, s0, hv0, -, -, -⟩ := laid_sentinel h6 (show Tryz.prog.globalNamed "strconv.ErrSyntax" = some 2 by kernel_rfl) (show (Tryz.prog.globals[2]?).map (·.type) = some 172 by kernel_rfl) Tryz.underlying172 rowE Tryz.underlying220 Tryz.underlying222 rfl rfl Tryz.underlying9 (by kernel_rfl) (by kernel_rfl)
 exact ⟨_,_,hv0⟩
theorem max_of {W:World} (h:W.ShapedOpen Tryz.prog):∃ m:Int,W.cell? ⟨0,0,none⟩=some (.int .i64 m) :=
 cell_of_shapedOpen_int (t:=3) (zero:=#[.int .i64 0]) h (of_decide_eq_true (by kernel_rfl)) (by kernel_rfl) rfl (by kernel_rfl) (by kernel_rfl) Tryz.underlying3
theorem laidD_of {W:World} (h:laidMetH Tryz.prog laid7 W) (hs:W.ShapedOpen Tryz.prog):LaidD W:=⟨laidU_of h,max_of hs⟩
theorem laid_met (os:Os) (args:Array Value):laidMetH Tryz.prog laid7 ((World.laidAll Tryz.prog os laid7).forCall (fun _ _=>0) ⟨#[],args,[]⟩).memory:=by
 rw [MakeChecks.laidMetH_plain _ _ _ (by kernel_rfl)]
 exact laidMet_laidAll _ (by kernel_rfl) (by kernel_rfl)
theorem handed_shaped {H:Type} {enc:TypeId × Value→H} {a:Assume} {C:Checked} {os:Os} {f:FuncId} {fn:Func} {s:ChangeSpec} {conds:List PathCond} {apart fresh handsOn again:Bool} {X:World→Array Value→Prop}
  (hX:∀ (w w':World) (args:Array Value),w.heap=w'.heap→X w args→X w' args)
  (own:ownKnob C.prog.godebug=none) (started:os.Started) (noInit:C.prog.inits.idxOf? f=none) (hfn:C.prog.funcs[f]?=some fn)
  (witness:∃ (w:World) (tape:Tape) (i:Input),w.os=os∧(w.forCall tape i).Shaped C.prog∧i.vars=[]∧Input.okWide C.prog (w.forCall tape i) .any w.heap.size f i ∧
   ((s.pre enc C.prog fn conds apart (w.forCall tape i).memory i.args∧X (w.forCall tape i).memory i.args)∧sizedMet enc C.prog fn (OpenSpec.ofChange s) apart (w.forCall tape i).memory i.args)∧a.holds C.prog (lone (Frame.enter C.prog f i.args .normal) [] (w.forCall tape i)))
  (contract:∀ (W:World) (base:Nat) (args:Array Value) (ds gs:List (DataW H)) (before:List MemPlace),
   (∀ (j:Nat) t v,fn.params[j]?=some t→args[j]?=some v→Value.okWide C.prog W .any base t v) →
   DataW.Whole enc C.prog fn.params.toList s.vars apart W args.toList ds gs before →
   W.ShapedOpen C.prog→X W args →
   Calls C.prog f args W fun e W'=>∃ v,e=.returned v∧s.post enc C.prog fn apart fresh handsOn again W args v W') :
  ReturnsInHanded a C os f .any (fun w args=>(s.pre enc C.prog fn conds apart w args∧X w args)∧sizedMet enc C.prog fn (OpenSpec.ofChange s) apart w args) (s.post enc C.prog fn apart fresh handsOn again):=by
 refine returnsInHanded_of_calls own started noInit witness ?_
 intro w tape i _ hsh _ hok hpre hholds
 obtain ⟨_,_,_,fn',hfn',_,_,_,_,hval⟩:=hok
 have e:fn'=fn:=Option.some.inj (hfn'.symm.trans hfn)
 subst e
 obtain ⟨⟨⟨ds,gs,before,hw,hc⟩,hx⟩,hz⟩:=hpre
 have hw':=DataW.Whole.of_heap (w':=w.forCall tape i) (by rfl) hw
 refine (contract (w.forCall tape i) w.heap.size i.args ds gs before hval hw' hsh (hX _ _ _ (by rfl) hx)).mono fun e W' ⟨v,he,hp⟩=>?_
 subst he
 exact ChangeSpec.post_blind hp
end Go.Proofs.YtekcjfdllclphaaGreatDoor.gn
end
