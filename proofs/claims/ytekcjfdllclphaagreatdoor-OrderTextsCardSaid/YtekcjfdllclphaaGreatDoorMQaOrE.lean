/- The contracts of number, either, name, size: a field that is made. -/
import Derived.Test.YtekcjfdllclphaaGreatDoorMQaOrB
import Derived.Test.YtekcjfdllclphaaGreatDoorMQaOrC
import Derived.Test.YtekcjfdllclphaaGreatDoorMQaSlP
import Derived.Test.YtekcjfdllclphaaGreatDoorMQaGen
section
set_option linter.unusedVariables false
set_option linter.unusedSimpArgs false
namespace Go.Proofs.YtekcjfdllclphaaGreatDoor.gn
open Go.RowKit
open Go.Proofs.YtekcjfdllclphaaGreatDoor.un
open Go.Proofs.YtekcjfdllclphaaGreatDoor.di
open Go.Proofs.YtekcjfdllclphaaGreatDoor.sp (Slip within? okW)
open Go.Proofs.YtekcjfdllclphaaGreatDoor.od (Ord okO stO numV sizV resK badW nK)
theorem made2 (w:World) (a b:Array Value) (t u:TypeId):∃ W,(w.alloc (.cells a t)).alloc (.cells b u)=W∧BoxA W w.heap.size t a∧BoxA W (w.heap.size+1) u b∧Below w.heap.size w W:=by
 refine ⟨_,rfl,BoxA.next (BoxA.new w t a) ((Below.refl _ _).alloc (Nat.le_refl _) _),?_,((Below.refl _ w).alloc (Nat.le_refl _) _).alloc (by simp) _⟩
 have:=BoxA.new (w.alloc (.cells a t)) u b
 rwa [World.size_alloc] at this
theorem made4 (w:World) (a b c d:Array Value) (t u v x:TypeId):∃ W,(((w.alloc (.cells a t)).alloc (.cells b u)).alloc (.cells c v)).alloc (.cells d x)=W∧BoxA W w.heap.size t a∧BoxA W (w.heap.size+1) u b∧BoxA W (w.heap.size+1+1) v c∧BoxA W (w.heap.size+1+1+1) x d∧Below w.heap.size w W:=by
 obtain ⟨W1,h1,b1,b2,l1⟩:=made2 w a b t u
 have hs:W1.heap.size=w.heap.size+1+1:=by rw [←h1];simp
 obtain ⟨W2,h2,b3,b4,l2⟩:=made2 W1 c d v x
 rw [hs] at b3 b4
 refine ⟨W2,by rw [←h2,← h1],b1.next l2,b2.next l2,b3,b4,l1.trans (l2.mono (by omega))⟩
def FldT (K:ByteArray) (t:Tx) (fn:FuncId) (cp:Array Value):Value:=.agg #[.string K,.string (str t),.func (.func fn) #[] cp]
set_option maxRecDepth 100000 in
set_option maxHeartbeats 3200000 in
theorem number_fld (K:ByteArray) (bo j:Nat) (n a b:Int) (h0:-9223372036854775808≤n) (h1:n≤9223372036854775807) (w:World) (hc:w.cell? ⟨bo,j,none⟩=some (.int .i64 n)) (hlt:bo < w.heap.size) (hL:LaidU w) :
  Calls Tryz.prog 80 #[.string K,.pointer (some ⟨bo,j,none⟩),.int .i64 a,.int .i64 b] w fun e w'=>∃ c,e=.returned (FldT K (txt n) 113 #[.pointer (some ⟨c,0,none⟩),.pointer (some ⟨c+1,0,none⟩),.pointer (some ⟨c+1+1,0,none⟩)])∧NumC w' c (c+1) (c+1+1) bo j a b∧w.heap.size≤c∧Below w.heap.size w w':=by
 obtain ⟨W,hW,b1,b2,b3,b4,l⟩:=made4 w #[.pointer (some ⟨bo,j,none⟩)] #[.int .i64 a] #[.int .i64 b] #[.string { data:=#[] },.string { data:=#[] },.nilFunc] 122 2 2 67
 have HW:=Lib.hid hW
 have HB:=Lib.hid (And.intro b1 (And.intro b2 (And.intro b3 b4)))
 have HL:=Lib.hid l
 have HX:=Lib.hid (text_any n h0 h1 W (hL.next l))
 have k1:=b1.cell 0 _
 have k2:W.cell? ⟨bo,j,none⟩=some (.int .i64 n):=(Below.cell l hlt).trans hc
 have hlt2:bo < W.heap.size:=Nat.lt_of_lt_of_le hlt l.size
 clear hW b1 b2 b3 b4 l hc hlt hL h0 h1
 go_enter Tryz.func80,Tryz.ntmps80
 go_upto_region 1 with fail
 rw [HW.out]
 go_wp2_with (first
  | (go_at_call 93;((with_reducible refine HX.out.mono ?_);rintro e w2 ⟨rfl,hb⟩);have HB2:=Lib.hid hb;clear hb)
  | (refine wpList_store_row rfl _ _ _ rfl (w.heap.size+1+1+1) #[.string K,.string (str (txt n)),.func (.func 113) #[] #[.pointer (some ⟨w.heap.size,0,none⟩),.pointer (some ⟨w.heap.size+1,0,none⟩),.pointer (some ⟨w.heap.size+1+1,0,none⟩)]] rfl rfl _ _ (HB.out.2.2.2.next HB2.out) (by kernel_rfl) rfl (by kernel_rfl) ?_))
 refine bodyPost_ret (v:=FldT K (txt n) 113 #[.pointer (some ⟨w.heap.size,0,none⟩),.pointer (some ⟨w.heap.size+1,0,none⟩),.pointer (some ⟨w.heap.size+1+1,0,none⟩)]) (results_cell_row rfl _ _ _ _ _ _ _ rfl (setRow_heap _ _ _ _ _ _ (HB.out.2.2.2.next HB2.out)) Tryz.underlying67 rfl (by kernel_rfl)) rfl ⟨w.heap.size,rfl,⟨(setRow_other _ _ _ _ (by omega)).trans (HB.out.1.next HB2.out),(setRow_other _ _ _ _ (by omega)).trans (HB.out.2.1.next HB2.out),(setRow_other _ _ _ _ (by omega)).trans (HB.out.2.2.1.next HB2.out)⟩,Nat.le_refl _,below_setRow (HL.out.trans (HB2.out.mono HL.out.size)) (by omega) _⟩
set_option maxRecDepth 100000 in
set_option maxHeartbeats 3200000 in
theorem size_fld (K:ByteArray) (bo j:Nat) (n:Int) (h0:-9223372036854775808≤n) (h1:n≤9223372036854775807) (w:World) (hc:w.cell? ⟨bo,j,none⟩=some (.int .i64 n)) (hlt:bo < w.heap.size) (hL:LaidU w) :
  Calls Tryz.prog 92 #[.string K,.pointer (some ⟨bo,j,none⟩)] w fun e w'=>∃ c,e=.returned (FldT K (stxt n) 119 #[.pointer (some ⟨c,0,none⟩)])∧PtC w' c bo j 122∧w.heap.size≤c∧Below w.heap.size w w':=by
 obtain ⟨W,hW,b1,b4,l⟩:=made2 w #[.pointer (some ⟨bo,j,none⟩)] #[.string { data:=#[] },.string { data:=#[] },.nilFunc] 122 67
 have HW:=Lib.hid hW
 have HB:=Lib.hid (And.intro b1 b4)
 have HL:=Lib.hid l
 have HX:=Lib.hid (stext_any n h0 h1 W (hL.next l))
 have k1:=b1.cell 0 _
 have k2:W.cell? ⟨bo,j,none⟩=some (.int .i64 n):=(Below.cell l hlt).trans hc
 have hlt2:bo < W.heap.size:=Nat.lt_of_lt_of_le hlt l.size
 clear hW b1 b4 l hc hlt hL h0 h1
 go_enter Tryz.func92,Tryz.ntmps92
 go_upto_region 1 with fail
 rw [HW.out]
 go_wp2_with (first
  | (go_at_call 118;((with_reducible refine HX.out.mono ?_);rintro e w2 ⟨rfl,hb⟩);have HB2:=Lib.hid hb;clear hb)
  | (refine wpList_store_row rfl _ _ _ rfl (w.heap.size+1) #[.string K,.string (str (stxt n)),.func (.func 119) #[] #[.pointer (some ⟨w.heap.size,0,none⟩)]] rfl rfl _ _ (HB.out.2.next HB2.out) (by kernel_rfl) rfl (by kernel_rfl) ?_))
 refine bodyPost_ret (v:=FldT K (stxt n) 119 #[.pointer (some ⟨w.heap.size,0,none⟩)]) (results_cell_row rfl _ _ _ _ _ _ _ rfl (setRow_heap _ _ _ _ _ _ (HB.out.2.next HB2.out)) Tryz.underlying67 rfl (by kernel_rfl)) rfl ⟨w.heap.size,rfl,(setRow_other _ _ _ _ (by omega)).trans (BoxA.next HB.out.1 HB2.out),Nat.le_refl _,below_setRow (HL.out.trans (HB2.out.mono HL.out.size)) (by omega) _⟩
set_option maxRecDepth 100000 in
set_option maxHeartbeats 3200000 in
theorem name_fld (K:ByteArray) (bo j:Nat) (n:Tx) (w:World) (hc:w.cell? ⟨bo,j,none⟩=some (.string (str n))) (hlt:bo < w.heap.size) :
  Calls Tryz.prog 88 #[.string K,.pointer (some ⟨bo,j,none⟩)] w fun e w'=>∃ c,e=.returned (FldT K n 116 #[.pointer (some ⟨c,0,none⟩)])∧PtC w' c bo j 126∧w.heap.size≤c∧Below w.heap.size w w':=by
 obtain ⟨W,hW,b1,b4,l⟩:=made2 w #[.pointer (some ⟨bo,j,none⟩)] #[.string { data:=#[] },.string { data:=#[] },.nilFunc] 126 67
 have HW:=Lib.hid hW
 have HB:=Lib.hid (And.intro b1 b4)
 have HL:=Lib.hid l
 have k1:=b1.cell 0 _
 have k2:W.cell? ⟨bo,j,none⟩=some (.string (str n)):=(Below.cell l hlt).trans hc
 have hlt2:bo < W.heap.size:=Nat.lt_of_lt_of_le hlt l.size
 clear hW b1 b4 l hc hlt
 go_enter Tryz.func88,Tryz.ntmps88
 go_upto_region 1 with fail
 rw [HW.out]
 go_wp2_with (refine wpList_store_row rfl _ _ _ rfl (w.heap.size+1) #[.string K,.string (str n),.func (.func 116) #[] #[.pointer (some ⟨w.heap.size,0,none⟩)]] rfl rfl _ _ HB.out.2 (by kernel_rfl) rfl (by kernel_rfl) ?_)
 refine bodyPost_ret (v:=FldT K n 116 #[.pointer (some ⟨w.heap.size,0,none⟩)]) (results_cell_row rfl _ _ _ _ _ _ _ rfl (setRow_heap _ _ _ _ _ _ HB.out.2) Tryz.underlying67 rfl (by kernel_rfl)) rfl ⟨w.heap.size,rfl,(setRow_other _ _ _ _ (by omega)).trans HB.out.1,Nat.le_refl _,below_setRow HL.out (by omega) _⟩
set_option maxRecDepth 100000 in
set_option maxHeartbeats 3200000 in
theorem either_fld (K Y N:ByteArray) (yes no:Tx) (hy:str yes=Y) (hn:str no=N) (bo j:Nat) (q:Bool) (w:World) (hc:w.cell? ⟨bo,j,none⟩=some (.bool q)) (hlt:bo < w.heap.size) :
  Calls Tryz.prog 85 #[.string K,.pointer (some ⟨bo,j,none⟩),.string Y,.string N] w fun e w'=>∃ c,e=.returned (FldT K (if q then yes else no) 115 #[.pointer (some ⟨c+1,0,none⟩),.pointer (some ⟨c,0,none⟩),.pointer (some ⟨c+1+1,0,none⟩)])∧EithC w' (c+1) c (c+1+1) bo j yes no∧w.heap.size≤c∧Below w.heap.size w w':=by
 subst hy hn
 obtain ⟨W,hW,b1,b2,b3,b4,l⟩:=made4 w #[.pointer (some ⟨bo,j,none⟩)] #[.string (str yes)] #[.string (str no)] #[.string { data:=#[] },.string { data:=#[] },.nilFunc] 124 9 9 67
 have HW:=Lib.hid hW
 have HB:=Lib.hid (And.intro b1 (And.intro b2 (And.intro b3 b4)))
 have HL:=Lib.hid l
 have k1:=b1.cell 0 _
 have k3:=b2.cell 0 _
 have k4:=b3.cell 0 _
 have hl3:=b3.lt
 have hl2:=b2.lt
 have k2:W.cell? ⟨bo,j,none⟩=some (.bool q):=(Below.cell l hlt).trans hc
 have hlt2:bo < W.heap.size:=Nat.lt_of_lt_of_le hlt l.size
 clear hW b1 b2 b3 b4 l hc hlt
 cases q with
 | true =>
  go_enter Tryz.func85,Tryz.ntmps85
  go_upto_region 1 with fail
  rw [HW.out]
  go_wp2_with (refine wpList_store_row rfl _ _ _ rfl (w.heap.size+1+1+1) #[.string K,.string (str yes),.func (.func 115) #[] #[.pointer (some ⟨w.heap.size+1,0,none⟩),.pointer (some ⟨w.heap.size,0,none⟩),.pointer (some ⟨w.heap.size+1+1,0,none⟩)]] rfl rfl _ _ HB.out.2.2.2 (by kernel_rfl) rfl (by kernel_rfl) ?_)
  refine bodyPost_ret (v:=FldT K yes 115 #[.pointer (some ⟨w.heap.size+1,0,none⟩),.pointer (some ⟨w.heap.size,0,none⟩),.pointer (some ⟨w.heap.size+1+1,0,none⟩)]) (results_cell_row rfl _ _ _ _ _ _ _ rfl (setRow_heap _ _ _ _ _ _ HB.out.2.2.2) Tryz.underlying67 rfl (by kernel_rfl)) rfl ⟨w.heap.size,rfl,⟨(setRow_other _ _ _ _ (by omega)).trans HB.out.2.1,(setRow_other _ _ _ _ (by omega)).trans HB.out.1,(setRow_other _ _ _ _ (by omega)).trans HB.out.2.2.1⟩,Nat.le_refl _,below_setRow HL.out (by omega) _⟩
 | false =>
  go_enter Tryz.func85,Tryz.ntmps85
  go_upto_region 1 with fail
  rw [HW.out]
  go_wp2_with (refine wpList_store_row rfl _ _ _ rfl (w.heap.size+1+1+1) #[.string K,.string (str no),.func (.func 115) #[] #[.pointer (some ⟨w.heap.size+1,0,none⟩),.pointer (some ⟨w.heap.size,0,none⟩),.pointer (some ⟨w.heap.size+1+1,0,none⟩)]] rfl rfl _ _ HB.out.2.2.2 (by kernel_rfl) rfl (by kernel_rfl) ?_)
  refine bodyPost_ret (v:=FldT K no 115 #[.pointer (some ⟨w.heap.size+1,0,none⟩),.pointer (some ⟨w.heap.size,0,none⟩),.pointer (some ⟨w.heap.size+1+1,0,none⟩)]) (results_cell_row rfl _ _ _ _ _ _ _ rfl (setRow_heap _ _ _ _ _ _ HB.out.2.2.2) Tryz.underlying67 rfl (by kernel_rfl)) rfl ⟨w.heap.size,rfl,⟨(setRow_other _ _ _ _ (by omega)).trans HB.out.2.1,(setRow_other _ _ _ _ (by omega)).trans HB.out.1,(setRow_other _ _ _ _ (by omega)).trans HB.out.2.2.1⟩,Nat.le_refl _,below_setRow HL.out (by omega) _⟩
end Go.Proofs.YtekcjfdllclphaaGreatDoor.gn
end
section
set_option linter.unusedVariables false
namespace Go.Proofs.YtekcjfdllclphaaGreatDoor.gn
open Go.RowKit
open Go.Proofs.YtekcjfdllclphaaGreatDoor.un
theorem find_first {α:Type} (p:α→Bool):∀ (L:List α) (k:Nat) (h:k < L.length),(∀ i (hi:i < k),p (L[i]'(by omega))=false)→p (L[k]'h)=true→L.find? p=some (L[k]'h)
 | [],k,h,_,_=>by simp at h
 | a::L,0,h,_,hy=>by
  have:p a=true:=hy
  simp [this]
 | a::L,k+1,h,hno,hy=>by
  have h0:p a=false:=hno 0 (by omega)
  rw [List.find?_cons,h0]
  exact find_first p L k (by simpa using h) (fun i hi=>hno (i+1) (by omega)) hy
theorem find_no {α:Type} (p:α→Bool) (L:List α) (hno:∀ i (hi:i < L.length),p (L[i]'hi)=false):L.find? p=none:=by
 rw [List.find?_eq_none]
 intro x hx
 obtain ⟨i,hi,rfl⟩:=List.getElem_of_mem hx
 rw [hno i hi]
 decide
def bn (k:Nat):List UInt8:=(byL.getD k ([],0)).1
def bz (k:Nat):Nat:=(byL.getD k ([],0)).2
theorem byL_at {k:Nat} (h:k < byL.length):byL[k]=(bn k,bz k):=by
 unfold bn bz
 rw [List.getD_eq_getElem?_getD,List.getElem?_eq_getElem h]
 rfl
theorem by_at {u:List UInt8} {k:Nat} (hk:k < 9) (hno:∀ i,i < k→bn i≠u) (hy:bn k=u):by_ u=bz k:=by
 have hk':k < byL.length:=hk
 unfold by_
 rw [find_first (fun p=>p.1 == u) byL k hk' (fun i hi=>by
  have hi':i < byL.length:=Nat.lt_trans hi hk'
  rw [byL_at hi',beq_eq_false_iff_ne];exact hno i hi) (by rw [byL_at hk',beq_iff_eq];exact hy)]
 dsimp only
 rw [byL_at hk']
theorem by_no {u:List UInt8} (hno:∀ i,i < 9→bn i≠u):by_ u=0:=by
 unfold by_
 rw [find_no (fun p=>p.1 == u) byL (fun i hi=>by rw [byL_at hi,beq_eq_false_iff_ne];exact hno i hi)]
def byN:Array Value:=#[.string { data:=#[] },.string { data:=#[75,66] },.string { data:=#[77,66] },.string { data:=#[71,66] },.string { data:=#[84,66] },.string { data:=#[75,105,66] },.string { data:=#[77,105,66] },.string { data:=#[71,105,66] },.string { data:=#[84,105,66] }]
def byS:Array Value:=#[.int .i64 1,.int .i64 1000,.int .i64 1000000,.int .i64 1000000000,.int .i64 1000000000000,.int .i64 1024,.int .i64 1048576,.int .i64 1073741824,.int .i64 1099511627776]
theorem lt9 {k:Nat} (h:k < 9):k=0∨k=1∨k=2∨k=3∨k=4∨k=5∨k=6∨k=7∨k=8:=by omega
theorem byN_at {k:Nat} (hk:k < 9):byN[k]?=some (.string (str (bn k))):=by
 rcases lt9 hk with rfl | rfl | rfl | rfl | rfl | rfl | rfl | rfl | rfl <;> rfl
theorem byS_at {k:Nat} (hk:k < 9):byS[k]?=some (.int .i64 (bz k:Nat)):=by
 rcases lt9 hk with rfl | rfl | rfl | rfl | rfl | rfl | rfl | rfl | rfl <;> rfl
set_option maxRecDepth 100000 in
set_option maxHeartbeats 1600000 in
theorem dby_any (u:List UInt8) (w:World):Calls Tryz.prog 45 #[.string (str u)] w (Told (.int .i64 (by_ u:Nat)) w):=by
 go_enter Tryz.func45,Tryz.ntmps45
 go_wp2
 obtain ⟨w3,hw3⟩:∃ w3,(w.alloc (.cells byN 9)).alloc (.cells byS 2)=w3:=⟨_,rfl⟩
 have hcn:∀ k,k < 9→w3.cell? ⟨w.heap.size,k,none⟩=some (.string (str (bn k))):=fun k hk=>by
  rw [←hw3]
  have h0:(w.alloc (.cells byN 9)).cell? ⟨w.heap.size,k,none⟩=some (.string (str (bn k))):=by rw [World.cell?_alloc_mark];exact byN_at hk
  rw [Below.cell ((Below.refl (w.alloc (.cells byN 9)).heap.size _).alloc (Nat.le_refl _) _) (by simp)]
  exact h0
 have hcs:∀ k,k < 9→w3.cell? ⟨w.heap.size+1,k,none⟩=some (.int .i64 (bz k:Nat)):=fun k hk=>by
  rw [←hw3,Joins.cell_alloc_mark_at _ _ _ _ _ _ (by simp)]
  exact byS_at hk
 have hsz3:w.heap.size+1 < w3.heap.size:=by rw [←hw3];simp
 have hb3:Below w.heap.size w w3:=by rw [←hw3];exact ((Below.refl _ _).alloc (Nat.le_refl _) _).alloc (by simp) _
 have HB3:=Lib.hid hb3
 unfold byN byS at hw3
 rw [hw3]
 clear hw3 hb3
 have HCN:=Lib.hid hcn
 have HCS:=Lib.hid hcs
 clear hcn hcs
 go_loopw [5] (fun s5 wr=>∃ k:Nat,s5=.int .i64 k∧k≤9∧Aside (∀ i,i < k→bn i≠u)∧wr=w3) (fun s5 _=>9 - (intOf s5).toNat)
 case atStart=>exact ⟨0,rfl,by omega,fun i hi=>absurd hi (by omega),rfl⟩
 case round =>
  obtain ⟨k,rfl,hk,hno,rfl⟩:=hrel
  by_cases h9:k < 9
  ·have hn:=HCN.out k h9
   have hs:=HCS.out k h9
   by_cases he:bn k=u
   ·have HX:=Lib.hid (by_at h9 hno he)
    have hq:((str (bn k)).toList == (str u).toList)=true:=by rw [he];simp
    clear he hno
    go_wp2
    go_ret
    exact ⟨by rw [HX.out];rfl,HB3.out⟩
   ·have hq:((str (bn k)).toList == (str u).toList)=false:=by
     rw [str_toList,str_toList,beq_eq_false_iff_ne]
     exact he
    have hno2:∀ i,i < k+1→bn i≠u:=fun i hi=>by
     rcases Nat.lt_or_ge i k with h | h
     ·exact hno i h
     ·rw [show i=k by omega];exact he
    have HN:=Lib.hid hno2
    clear he hno hno2
    go_wp2
    go_roundw
    case rel=>exact ⟨k+1,by go_num,by omega,HN.out,trivial⟩
    case measure=>simp [intOf];omega
  ·obtain rfl:k=9:=by omega
   have HX:=Lib.hid (by_no hno)
   clear hno
   go_wp2
   go_ret
   exact ⟨by rw [HX.out];rfl,HB3.out⟩
end Go.Proofs.YtekcjfdllclphaaGreatDoor.gn
end
