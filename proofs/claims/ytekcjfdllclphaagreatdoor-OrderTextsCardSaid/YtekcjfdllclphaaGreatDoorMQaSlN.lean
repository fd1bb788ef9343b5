/- Slips, plain: a text is read again. (Written ahead of the code.) -/
import Derived.Test.YtekcjfdllclphaaGreatDoorMQaSlM
import Derived.Test.YtekcjfdllclphaaGreatDoorMQaGen
import Derived.Lib.Strings
import Derived.Lib.Walk
import Derived.Lib.BufferWrite
import Derived.Lib.UnsafeStr
import Derived.Laws.MakeOwn
import Derived.Maps.RangeWalk
import Derived.Maps.OwnSet
import Derived.Carry
import Derived.Deep.LoopGhost
import Derived.BigQuiet
import Derived.Deep.DeepCutAuto
import Derived.Deep.CutBlock
import Derived.Laws.StructEq
import Derived.RangeFuncNested
import Derived.RangeFuncLeaves
import Derived.Shelf.RegionOpen
section
set_option linter.unusedVariables false
namespace Go.Proofs.YtekcjfdllclphaaGreatDoor.sp
open Go.Proofs.YtekcjfdllclphaaGreatDoor.un
open Go.Proofs.YtekcjfdllclphaaGreatDoor.di
open Go.Lib (decDigits)
theorem frun_cons {x:Slip} {seen:List Tx} {f:Fl} {ws:List Tx} (h:(61:UInt8) ∉ f.1):frun (x,seen) (wtx f::ws)=if f.1∈seen then none else match fput x f with
  | none=>none
  | some y=>frun (y,seen++[f.1]) ws:=by
 rw [frun,cut_wtx h]
 all_goals rfl
theorem within_txt {n:Int} {a b:Nat} (h0:(a:Int)≤n) (h1:n≤b) (hb:b≤1099511627776):within? (txt n) a b=some n.toNat:=by
 obtain ⟨m,rfl⟩:∃ m:Nat,n=(m:Int):=⟨n.toNat,by omega⟩
 unfold within?
 rw [txt_in (show m≤top by unfold top;omega),num_dec (show m≤top by unfold top;omega)]
 dsimp only
 rw [if_pos ⟨by omega,by omega⟩]
 rfl
theorem toNat_back {n:Int} (h:0≤n):((n.toNat:Nat):Int)=n:=by omega
theorem fput_user (x:Slip) (v:Tx):fput x (userK,v)=some { x with user:=v }:=rfl
theorem fput_nodes (x:Slip) {n:Int} (h0:1≤n) (h1:n≤64):fput x (nodesK,txt n)=some { x with nodes:=n }:=by
 unfold fput
 rw [if_neg (by first | decide | (dsimp only;decide)),if_pos rfl,within_txt (a:=1) (b:=64) h0 h1 (by decide)]
 show some { x with nodes:=((n.toNat:Nat):Int) }=_
 rw [toNat_back (by omega)]
theorem fput_wall (x:Slip) {n:Int} (h0:1≤n) (h1:n≤1048576):fput x (wallK,txt n)=some { x with wall:=n }:=by
 unfold fput
 rw [if_neg (by first | decide | (dsimp only;decide)),if_neg (by first | decide | (dsimp only;decide)),if_pos rfl,within_txt (a:=1) (b:=1048576) h0 h1 (by decide)]
 show some { x with wall:=((n.toNat:Nat):Int) }=_
 rw [toNat_back (by omega)]
theorem fput_qos (x:Slip) {n:Int} (h0:0≤n) (h1:n≤9):fput x (qosK,txt n)=some { x with qos:=n }:=by
 unfold fput
 rw [if_neg (by first | decide | (dsimp only;decide)),if_neg (by first | decide | (dsimp only;decide)),if_neg (by first | decide | (dsimp only;decide)),if_pos rfl,within_txt (a:=0) (b:=9) h0 h1 (by decide)]
 show some { x with qos:=((n.toNat:Nat):Int) }=_
 rw [toNat_back (by omega)]
theorem dep_read {d:Int × Bool} (h0:1≤d.1) (h1:d.1≤1073741824):dep? (depT d)=some d:=by
 obtain ⟨n,b⟩:=d
 unfold dep? depT
 have hc:(58:UInt8) ∉ (if b=true then anyW else okW):=by cases b <;> decide
 rw [cutB_at 58 _ _ hc]
 dsimp only
 rw [within_txt (a:=1) (b:=1073741824) h0 h1 (by decide)]
 dsimp only
 rw [if_pos (by cases b <;> decide),toNat_back (by simp at h0;omega)]
 cases b <;> rfl
theorem dec_no {n:Nat} {c:UInt8} (h:dig c=false):c ∉ decDigits n:=fun hm=>by
 have:=dec_dig n c hm
 rw [h] at this
 cases this
theorem txt_no {n:Int} {c:UInt8} (h:dig c=false):c ∉ txt n:=by
 unfold txt
 split
 ·exact dec_no h
 ·simp
theorem depT_no (d:Int × Bool) {c:UInt8} (h:dig c=false) (h1:c ∉ anyW) (h2:c ∉ okW) (h3:c≠58):c ∉ depT d:=by
 unfold depT
 intro hm
 rcases List.mem_append.1 hm with hm | hm
 ·split at hm
  ·exact h1 hm
  ·exact h2 hm
 ·rcases List.mem_cons.1 hm with e | hm
  ·exact h3 e
  ·exact txt_no h hm
theorem mapM_deps:∀ (l:List (Int × Bool)),(∀ d∈l,1≤d.1∧d.1≤1073741824)→(l.map depT).mapM dep?=some l
 | [],_=>rfl
 | d::r,h=>by
  have ih:=mapM_deps r fun x hx=>h x (by simp [hx])
  rw [List.map_cons,List.mapM_cons,dep_read (h d (by simp)).1 (h d (by simp)).2,ih]
  rfl
theorem fput_after (x:Slip) {l:List (Int × Bool)} (hl:l≠[]) (h:∀ d∈l,1≤d.1∧d.1≤1073741824):fput x (afterK,joinC 44 (l.map depT))=some { x with after:=l }:=by
 unfold fput
 rw [if_neg (by first | decide | (dsimp only;decide)),if_neg (by first | decide | (dsimp only;decide)),if_neg (by first | decide | (dsimp only;decide)),if_neg (by first | decide | (dsimp only;decide)),if_pos rfl]
 dsimp only
 rw [cuts_join 44 _ (by simp [hl]) (fun w hw=>by
  obtain ⟨d,_,rfl⟩:=List.mem_map.1 hw
  exact depT_no d (by decide) (by decide) (by decide) (by decide)),mapM_deps l h]
 rfl
structure Ok (x:Slip):Prop where
 user:isName x.user=true
 nodes:1≤x.nodes∧x.nodes≤64
 wall:1≤x.wall∧x.wall≤1048576
 qos:0≤x.qos∧x.qos≤9
 after:x.after.length≤8∧(x.after.map (·.1)).Nodup∧∀ d∈x.after,1≤d.1∧d.1≤1073741824
 cap:0≤x.cap∧x.cap≤1099511627776
 pool0:x.cap=0→x.pool=[]
 pool1:x.cap≠0→isName x.pool=true
 inn:0≤x.inn∧x.inn≤x.cap
 out:0≤x.out∧x.out≤x.cap
 make:∀ d∈x.make,d.kind=4∧chk d=true
 makeN:nameL (x.make.map (·.name))
 drop:nameL x.drop
 use:nameL x.use
 apart:∀ d∈x.make,d.name ∉ x.use
theorem chkS_iff (x:Slip):chkS x=true↔Ok x:=by
 unfold chkS
 rw [decide_eq_true_eq]
 exact ⟨fun ⟨a,b,c,d,e,f,g,h,i,j,k,l,m,n,o⟩=>⟨a,b,c,d,e,f,g,h,i,j,k,l,m,n,o⟩,fun ⟨a,b,c,d,e,f,g,h,i,j,k,l,m,n,o⟩=>⟨a,b,c,d,e,f,g,h,i,j,k,l,m,n,o⟩⟩
def head1 (x:Slip):Slip:={ Slip.zero with user:=x.user,nodes:=x.nodes,wall:=x.wall,qos:=x.qos,after:=x.after }
theorem plain_join {c:UInt8} (hc:c≠32) (hc2:c≠10):∀ (L:List Tx),(∀ w∈L,plain w)→plain (joinC c L)
 | [],_=>⟨by simp [joinC],by simp [joinC]⟩
 | [a],h=>h a (by simp)
 | a::b::r,h=>by
  rw [joinC_cons c a (by simp)]
  refine plain_app (h a (by simp)) ?_
  have ih:=plain_join hc hc2 (b::r) fun w hw=>h w (by simp [hw])
  exact ⟨fun hm=>(List.mem_cons.1 hm).elim (fun e=>hc e.symm) ih.1,fun hm=>(List.mem_cons.1 hm).elim (fun e=>hc2 e.symm) ih.2⟩
theorem plain_dep (d:Int × Bool):plain (depT d):=⟨depT_no d (by decide) (by decide) (by decide) (by decide),depT_no d (by decide) (by decide) (by decide) (by decide)⟩
theorem fsS_mem {x:Slip} (h:Ok x) {f:Fl} (hf:f∈fsS x):plain (wtx f)∧(61:UInt8) ∉ f.1:=by
 have p61:plain [61]:=by unfold plain;decide
 have key:∀ (a b:Tx),plain a→plain b→plain (wtx (a,b)):=fun a b ha hb=>by
  show plain (a++([61]++b))
  exact plain_app ha (plain_app p61 hb)
 unfold fsS at hf
 rcases List.mem_append.1 hf with hf | hf
 ·rcases List.mem_append.1 hf with hf | hf
  ·simp only [List.mem_cons,List.not_mem_nil,or_false] at hf
   rcases hf with rfl | rfl | rfl
   ·exact ⟨key _ _ (by unfold plain;decide) (plain_name h.user),show (61:UInt8) ∉ userK by decide⟩
   ·exact ⟨key _ _ (by unfold plain;decide) (plain_txt _),show (61:UInt8) ∉ nodesK by decide⟩
   ·exact ⟨key _ _ (by unfold plain;decide) (plain_txt _),show (61:UInt8) ∉ wallK by decide⟩
  ·split at hf
   ·simp only [List.mem_cons,List.not_mem_nil,or_false] at hf
    subst hf
    exact ⟨key _ _ (by unfold plain;decide) (plain_txt _),show (61:UInt8) ∉ qosK by decide⟩
   ·simp at hf
 ·split at hf
  ·simp at hf
  ·simp only [List.mem_cons,List.not_mem_nil,or_false] at hf
   subst hf
   refine ⟨key _ _ (by unfold plain;decide) (plain_join (by decide) (by decide) _ fun w hw=>?_),show (61:UInt8) ∉ afterK by decide⟩
   obtain ⟨d,_,rfl⟩:=List.mem_map.1 hw
   exact plain_dep d
theorem line1_cuts {x:Slip} (h:Ok x):cuts 32 (line1 x)=jobW::(fsS x).map wtx:=by
 unfold line1
 refine cuts_join 32 _ (by simp) fun w hw=>?_
 rcases List.mem_cons.1 hw with rfl | hw
 ·decide
 ·obtain ⟨f,hf,rfl⟩:=List.mem_map.1 hw
  exact (fsS_mem h hf).1.1
theorem first_read {x:Slip} (h:Ok x):first? (line1 x)=some (head1 x):=by
 have hr:∃ seen,frun (Slip.zero,[]) ((fsS x).map wtx)=some (head1 x,seen)∧userK∈seen∧nodesK∈seen∧wallK∈seen:=by
  have hz:(fsS x).map wtx=wtx (userK,x.user)::wtx (nodesK,txt x.nodes)::wtx (wallK,txt x.wall)::((if 0 < x.qos then [(qosK,txt x.qos)] else [])++(if x.after=[] then [] else [(afterK,joinC 44 (x.after.map depT))])).map wtx:=by
   unfold fsS
   rw [List.append_assoc,List.map_append]
   rfl
  rw [hz,frun_cons (show (61:UInt8) ∉ userK by decide),if_neg (by simp),fput_user]
  dsimp only
  rw [frun_cons (show (61:UInt8) ∉ nodesK by decide),if_neg (by first | decide | (dsimp only;decide)),fput_nodes _ h.nodes.1 h.nodes.2]
  dsimp only
  rw [frun_cons (show (61:UInt8) ∉ wallK by decide),if_neg (by first | decide | (dsimp only;decide)),fput_wall _ h.wall.1 h.wall.2]
  dsimp only
  by_cases hq:0 < x.qos
  ·rw [if_pos hq]
   by_cases ha:x.after=[]
   ·rw [if_pos ha]
    show ∃ seen,frun _ [wtx (qosK,txt x.qos)]=_∧_
    rw [frun_cons (show (61:UInt8) ∉ qosK by decide),if_neg (by first | decide | (dsimp only;decide)),fput_qos _ h.qos.1 h.qos.2]
    exact ⟨[userK,nodesK,wallK,qosK],by unfold head1;rw [ha];rfl,by decide⟩
   ·rw [if_neg ha]
    show ∃ seen,frun _ [wtx (qosK,txt x.qos),wtx (afterK,joinC 44 (x.after.map depT))]=_∧_
    rw [frun_cons (show (61:UInt8) ∉ qosK by decide),if_neg (by first | decide | (dsimp only;decide)),fput_qos _ h.qos.1 h.qos.2]
    dsimp only
    rw [frun_cons (show (61:UInt8) ∉ afterK by decide),if_neg (by first | decide | (dsimp only;decide)),fput_after _ ha h.after.2.2]
    exact ⟨[userK,nodesK,wallK,qosK,afterK],rfl,by decide⟩
  ·rw [if_neg hq]
   have hq0:x.qos=0:=by have:=h.qos.1;omega
   by_cases ha:x.after=[]
   ·rw [if_pos ha]
    exact ⟨[userK,nodesK,wallK],by unfold head1;rw [ha,hq0];rfl,by decide⟩
   ·rw [if_neg ha]
    show ∃ seen,frun _ [wtx (afterK,joinC 44 (x.after.map depT))]=_∧_
    rw [frun_cons (show (61:UInt8) ∉ afterK by decide),if_neg (by first | decide | (dsimp only;decide)),fput_after _ ha h.after.2.2]
    exact ⟨[userK,nodesK,wallK,afterK],by unfold head1;rw [hq0];rfl,by decide⟩
 obtain ⟨seen,h1,h2⟩:=hr
 unfold first?
 rw [line1_cuts h]
 dsimp only
 rw [if_pos rfl,h1]
 dsimp only
 rw [if_pos h2]
end Go.Proofs.YtekcjfdllclphaaGreatDoor.sp
end
section
namespace Go.Proofs.YtekcjfdllclphaaGreatDoor.gn
open Go.RowKit
theorem cells5:Tryz.prog.cellsOf 5=1:=by kernel_rfl
set_option maxHeartbeats 4000000 in
set_option maxRecDepth 100000 in
theorem liteClone_any (s:ByteArray) (w:World) (hlim:s.size≤281474976710656) :
  Calls Tryz.prog 139 #[.string s] w fun e w'=>e=.returned (.string s)∧Below w.heap.size w w':=by
 by_cases h0:s.size=0
 ·have hs:s=⟨#[]⟩:=by
   apply ByteArray.ext
   exact Array.eq_empty_of_size_eq_zero h0
  subst hs
  go_enter Tryz.func139,Tryz.ntmps139
  go_wp2
  go_ret
  exact ⟨rfl,Below.refl _ _⟩
 ·obtain ⟨i0,hi,hz0,hz1,hz2⟩:=info_parts Tryz.info5
  have hinfo:(Tryz.prog.info? 5).map (·.size)=some 1:=by rw [hi];simp [hz1]
  obtain ⟨M,hM⟩:∃ M,M=madeCells (Value.int .u8 0).cells (((s.size:Nat):Int).toNat * i0.size):=⟨_,rfl⟩
  have hMs:M.size=s.size:=by rw [hM,size_madeCells,hz1];simp
  have hmk:∀ W:World,(Instr.makeSlice 100 (.int .i64 (s.size:Int)) (.int .i64 (s.size:Int))).run Tryz.prog W=.ok (.slice (some ⟨W.heap.size,0,none⟩) s.size s.size) (W.alloc (.cells M 5)):=fun W=>by
   have h:=run_make (P:=Tryz.prog) W 100 5 i0 (.int .u8 0) Tryz.underlying100 hi hz0 .i64 .i64 (s.size:Int) (s.size:Int) (by omega) (by omega) (by rw [hz2];omega) (by omega)
   rw [←hM] at h
   simpa using h
  clear hM
  have hcp:=Lib.run_copy_row_string (P:=Tryz.prog) (w.alloc (.cells M 5)) 100 9 3 5 w.heap.size 0 s.size s.size s M 5 Tryz.underlying100 hinfo (heap_alloc_new w _) (Nat.le_refl _) (by omega)
  obtain ⟨Y,hY⟩:∃ Y,Y=(M.toList.take 0++Lib.byteCells s.data.toList++M.toList.drop (0+s.size)).toArray:=⟨_,rfl⟩
  rw [←hY] at hcp
  have hYl:Y.toList=Lib.byteCells s.data.toList:=by
   rw [hY,List.toList_toArray,List.take_zero,List.nil_append,List.drop_of_length_le (by rw [Array.length_toList];omega),List.append_nil]
  have hYs:Y.size=s.size:=by rw [←Array.length_toList,hYl,Lib.byteCells_length,← Lib.size_eq]
  have hgY:((w.alloc (.cells M 5)).setRow w.heap.size Y).heap[w.heap.size]?=some (.cells Y 5 (0,0)):=setRow_heap _ _ M _ 5 (0,0) (heap_alloc_new w _)
  have hne:s.data.toList≠[]:=fun e=>h0 (by rw [Lib.size_eq,e];rfl)
  have hUS:=Lib.run_unsafeString_row (P:=Tryz.prog) ((w.alloc (.cells M 5)).setRow w.heap.size Y) 189 3 9 5 Tryz.underlying189 cells5 w.heap.size Y.size (by unfold World.shape?;rw [hgY]) s.data.toList hne (by rw [←Lib.size_eq];omega) (by rw [←Lib.size_eq];omega)
   (fun j x hx=>Lib.cells_of_row hgY Y.size j _ (by rw [List.take_of_length_le (by rw [Array.length_toList];exact Nat.le_refl _),hYl];simp [Lib.byteCells,hx]))
  rw [←Lib.size_eq] at hUS
  clear hY
  go_enter Tryz.func139,Tryz.ntmps139
  go_wp2
  go_ret
  have hb1:Below w.heap.size w (w.alloc (.cells M 5)):=(Below.refl _ w).alloc (Nat.le_refl _) _
  have hb2:Below w.heap.size (w.alloc (.cells M 5)) ((w.alloc (.cells M 5)).setRow w.heap.size Y):=⟨rfl,rfl,rfl,by simp,fun k hk=>setRow_other _ _ _ _ (by omega)⟩
  exact ⟨rfl,Lib.below_freeze (hb1.trans hb2) (p:=⟨w.heap.size,0,none⟩) (Nat.le_refl _) _⟩
set_option maxHeartbeats 400000 in
theorem clone_any (s:ByteArray) (w:World) (hlim:s.size≤281474976710656) :
  Calls Tryz.prog 117 #[.string s] w fun e w'=>e=.returned (.string s)∧Below w.heap.size w w':=by
 go_enter Tryz.func117,Tryz.ntmps117
 go_wp2_with (go_at_call 139;refine (liteClone_any s _ hlim).mono ?_;rintro e w1 ⟨rfl,hb⟩)
 go_ret
 exact ⟨rfl,hb⟩
end Go.Proofs.YtekcjfdllclphaaGreatDoor.gn
end
section
set_option linter.unusedVariables false
namespace Go.Proofs.YtekcjfdllclphaaGreatDoor.gn
open Go.RowKit
def hR (v:Value):Option (DataW Value × List MemPlace):=some (.held v,[])
theorem hR_inv {v u:Value} {ps:List MemPlace} (h:hR v=some (.held u,ps)):v=u:=by
 unfold hR at h
 simp only [Option.some.injEq,Prod.mk.injEq,DataW.held.injEq] at h
 exact h.1
def datV (L:List (List UInt8 × Value)):DataW Value:=.map (L.map fun p=>(.string p.1,.held p.2))
theorem datV_ins (k:List UInt8) (v:Value):∀ L:List (List UInt8 × Value),(fi.ins (k,v) L).map (fun p=>(Lit.string p.1,(DataW.held p.2:DataW Value)))=DataW.insert (.string k,.held v) (L.map fun p=>(.string p.1,.held p.2))
 | []=>rfl
 | y::r=>by
  unfold fi.ins
  have:=datV_ins k v r
  cases h:bytesBefore k y.1 with
  | true=>simp [DataW.insert,Lit.before,h]
  | false=>simp [DataW.insert,Lit.before,h,this]
theorem datV_del (k:List UInt8) (L:List (List UInt8 × Value)):(fi.del k L).map (fun p=>(Lit.string p.1,(DataW.held p.2:DataW Value)))=(L.map fun p=>(Lit.string p.1,(DataW.held p.2:DataW Value))).filter fun p=>!p.1.sameKey (.string k):=by
 unfold fi.del
 rw [List.filter_map]
 rfl
theorem datV_put (k:List UInt8) (v:Value) (L:List (List UInt8 × Value)):(datV L).put (.string k) (.held v)=datV (fi.put k v L):=by
 show DataW.map (DataW.insert _ ((L.map _).filter fun p=>!p.1.sameKey (.string k)))=.map _
 rw [←datV_del,← datV_ins]
 rfl
theorem datV_cut (k:List UInt8) (L:List (List UInt8 × Value)):(datV L).del (.string k)=datV (fi.del k L):=by
 show DataW.map ((L.map _).filter fun p=>!p.1.sameKey (.string k))=.map _
 rw [←datV_del]
theorem find_datV (k:List UInt8) (L:List (List UInt8 × Value)):(L.map fun p=>(Lit.string p.1,(DataW.held p.2:DataW Value))).find? (fun p=>p.1.sameKey (.string k))=(L.find? fun p=>p.1 == k).map fun p=>(.string p.1,.held p.2):=by
 rw [List.find?_map]
 rfl
theorem datV_at (k:List UInt8) (z:Value) (L:List (List UInt8 × Value)):(datV L).atKey (.string k) (.held z)=.held ((fi.get k L).getD z):=by
 simp only [datV,DataW.atKey,find_datV,fi.get]
 cases L.find? fun p=>p.1 == k <;> rfl
theorem datV_has (k:List UInt8) (L:List (List UInt8 × Value)):Maps.has (datV L) (.string k)=(fi.get k L).isSome:=by
 show (L.map fun p=>(Lit.string p.1,(DataW.held p.2:DataW Value))).any (fun p=>p.1.sameKey (.string k))=_
 have h:=find_datV k L
 rw [Bool.eq_iff_iff,List.any_eq_true,← List.find?_isSome,h]
 unfold fi.get
 cases L.find? fun p=>p.1 == k <;> simp
theorem datV_size (L:List (List UInt8 × Value)):Maps.size (datV L)=L.length:=by simp [datV,Maps.size]
theorem get_put (j k:List UInt8) (v:Value) (L:List (List UInt8 × Value)):fi.get j (fi.put k v L)=if j=k then some v else fi.get j L:=by
 by_cases h:j=k
 ·rw [if_pos h,h,fi.get_put_same]
 ·rw [if_neg h,fi.get_put_other h]
theorem get_del (j k:List UInt8) (L:List (List UInt8 × Value)):fi.get j (fi.del k L)=if j=k then none else fi.get j L:=by
 by_cases h:j=k
 ·rw [if_pos h,h,fi.get_del_same]
 ·rw [if_neg h,fi.get_del_other h]
theorem keyStr:Go.Maps.Keyed Tryz.prog 9:=Go.Maps.string_keyed Tryz.underlying9
theorem keyS {l:List UInt8} (h:l.length≤maxLen):keyOf Tryz.prog 9 (.string (str l))=some (.string l):=by
 have:=Go.WideMaps.keyOf_string_mk (P:=Tryz.prog) Tryz.underlying9 (s:=str l) (by rw [str_size];exact h)
 simpa [str] using this
def MapV (w:World) (b:Nat) (L:List (List UInt8 × Value)):Prop:=∃ n,w.ownsMap Tryz.prog 9 hR b n (datV L)
theorem MapV.exact {w:World} {b:Nat} {L:List (List UInt8 × Value)} (h:MapV w b L):w.ownsMap Tryz.prog 9 hR b L.length (datV L):=by
 obtain ⟨n,es,clock,hb,F,_,hD⟩:=h
 refine ⟨es,clock,hb,F,?_,hD⟩
 have h1:=congrArg Maps.size hD
 rw [datV_size] at h1
 simp only [Maps.size,length_sorted,List.length_map,Array.length_toList] at h1
 omega
theorem MapV.lt {w:World} {b:Nat} {L:List (List UInt8 × Value)} (h:MapV w b L):b < w.heap.size:=by
 obtain ⟨n,hn⟩:=h
 exact World.ownsMap.lt hn
theorem MapV.kept {w w':World} {b:Nat} {L:List (List UInt8 × Value)} (h:MapV w b L) (hb:w'.heap[b]?=w.heap[b]?):MapV w' b L:=by
 obtain ⟨n,es,clock,h1,h2⟩:=h
 exact ⟨n,es,clock,hb.trans h1,h2⟩
theorem MapV.next {w w':World} {b:Nat} {L:List (List UInt8 × Value)} (h:MapV w b L) (hb:Below w.heap.size w w'):MapV w' b L:=h.kept (hb.block b h.lt)
theorem MapV.but {R:Nat} {w w':World} {b:Nat} {L:List (List UInt8 × Value)} (h:MapV w b L) (hb:But R w w') (hne:b≠R):MapV w' b L:=h.kept (hb.block b h.lt (fun e=>hne (Option.some.inj e)))
theorem MapV.new (w:World):MapV (w.alloc (.map #[] 0)) w.heap.size []:=⟨0,World.ownsMap_made w _ _ _⟩
theorem MapV.look {w:World} {b:Nat} {L:List (List UInt8 × Value)} (h:MapV w b L) {t e:TypeId} (ht:Tryz.prog.underlying t=some (.map 9 e)) {z:Value} (hz:(zeroValue e).run Tryz.prog w=.ok z w) {k:List UInt8} (hk:k.length≤maxLen) :
  (Instr.lookup t (.map (some b)) (.string (str k)) false).run Tryz.prog w=.ok ((fi.get k L).getD z) w:=by
 obtain ⟨n,hn⟩:=h
 obtain ⟨v,ps,hrun,hv⟩:=hn.lookup keyStr ht hz (show hR z=some (.held z,[]) from rfl) (keyS hk)
 rw [datV_at] at hv
 rw [hrun,hR_inv hv]
theorem MapV.look_ok {w:World} {b:Nat} {L:List (List UInt8 × Value)} (h:MapV w b L) {t e:TypeId} (ht:Tryz.prog.underlying t=some (.map 9 e)) {z:Value} (hz:(zeroValue e).run Tryz.prog w=.ok z w) {k:List UInt8} (hk:k.length≤maxLen) :
  (Instr.lookup t (.map (some b)) (.string (str k)) true).run Tryz.prog w=.ok (.tuple #[(fi.get k L).getD z,.bool (fi.get k L).isSome]) w:=by
 obtain ⟨n,hn⟩:=h
 obtain ⟨v,ps,hrun,hv⟩:=hn.look_ok keyStr ht hz (show hR z=some (.held z,[]) from rfl) (keyS hk)
 rw [datV_at] at hv
 rw [hrun,hR_inv hv,datV_has]
theorem MapV.put {w:World} {b:Nat} {L:List (List UInt8 × Value)} (h:MapV w b L) {t e:TypeId} (ht:Tryz.prog.underlying t=some (.map 9 e)) {k:List UInt8} (hk:k.length≤maxLen) (hL:L.length < maxLen) (v:Value) :
  ∃ w',(Instr.mapUpdate t (.map (some b)) (.string (str k)) v).run Tryz.prog w=.ok () w'∧MapV w' b (fi.put k v L)∧But b w w':=by
 obtain ⟨w',hrun,h1,h2⟩:=h.exact.update keyStr ht hL (keyS hk) (show hR v=some (.held v,[]) from rfl)
 exact ⟨w',hrun,⟨_,by rw [←datV_put];exact h1⟩,h2⟩
theorem MapV.put2 {w:World} {b n:Nat} {L:List (List UInt8 × Value)} (h:MapV w b L) (hn:L.length≤n) {t e:TypeId} (ht:Tryz.prog.underlying t=some (.map 9 e)) {k:List UInt8} (hk:k.length≤maxLen) (hL:n < 1000) (v:Value) :
  ∃ w' L',(Instr.mapUpdate t (.map (some b)) (.string (str k)) v).run Tryz.prog w=.ok () w'∧MapV w' b L'∧L'.length≤n+1∧(∀ j,fi.get j L'=if j=k then some v else fi.get j L)∧But b w w':=by
 obtain ⟨w',h1,h2,h3⟩:=h.put ht hk (show L.length < maxLen by unfold maxLen;omega) v
 exact ⟨w',_,h1,h2,Nat.le_trans (fi.put_length k v) (by omega),fun j=>get_put j k v L,h3⟩
theorem mapTurned_but {w w':World} {b:Nat} (h:w.mapTurned w' b):But b w w':=by
 obtain ⟨es,c,es',c',hb,rfl⟩:=h
 exact ⟨rfl,rfl,rfl,by simp [Go.ChangeMaps.setBlock],fun i _ hi=>Go.ChangeMaps.heap_setBlock_other hb _ fun e=>hi (by rw [e])⟩
theorem MapV.del {w:World} {b:Nat} {L:List (List UInt8 × Value)} (h:MapV w b L) {t e:TypeId} (ht:Tryz.prog.underlying t=some (.map 9 e)) {k:List UInt8} (hk:k.length≤maxLen) (ty:TypeId) :
  ∃ w',(Builtin.delete_ #[t,9] ty #[.map (some b),.string (str k)]).run Tryz.prog w=.ok (.tuple #[]) w'∧MapV w' b (fi.del k L)∧But b w w':=by
 obtain ⟨w',hrun,h1,h2⟩:=h.exact.drop keyStr ht (keyS hk) ty
 exact ⟨w',hrun,⟨_,by rw [←datV_cut];exact h1⟩,mapTurned_but h2⟩
def RngV (w:World) (b r:Nat) (L:List (List UInt8 × Value)) (left:Lit→Bool) (cnt:Nat):Prop:=w.ranges Tryz.prog 9 hR b r L.length (datV L) left cnt
theorem RngV.next {w w':World} {b r:Nat} {L:List (List UInt8 × Value)} {left:Lit→Bool} {cnt:Nat} (h:RngV w b r L left cnt) (hb:Below w.heap.size w w'):RngV w' b r L left cnt :=
 World.ranges.kept h (row:=none) ⟨hb.os,hb.tape,hb.output,hb.size,fun i hi _=>hb.block i hi⟩ (by simp) (by simp)
theorem RngV.left_eq {w:World} {b r:Nat} {L:List (List UInt8 × Value)} {left:Lit→Bool} {cnt:Nat} (h:RngV w b r L left cnt):w.rangeLeft b r=cnt:=World.ranges.left_eq h
theorem key_str2 {v:Value} {kl:Lit} (hk:keyOf Tryz.prog 9 v=some kl):∃ k:List UInt8,v=.string (str k)∧kl=.string k:=by
 rw [keyOf_string Tryz.underlying9] at hk
 cases v <;> simp [mapKey,Tryz.underlying9] at hk
 obtain ⟨_,rfl⟩:=hk
 exact ⟨_,by rw [str_of],rfl⟩
theorem wpList_range_map (w:World) {ops:Array Oper} {rest:List Oper} {o:Oper} {a:Act} {Q:Exit→Act→World→Prop} (hg:o.guard=none) (m:Operand) (t e:TypeId) (hop:o.op=Op.range t m) (ht:Tryz.prog.underlying t=some (.map 9 e))
  (b:Nat) (L:List (List UInt8 × Value)) (hm:a.eval m=.map (some b)) (h:MapV w b L)
  (hK:∀ w',RngV w' b w.heap.size L (fun kl=>Maps.has (datV L) kl) L.length→Below w.heap.size w w'→w'.heap.size=w.heap.size+1→wpList Tryz.prog ops Q rest (a.put o.dst (.pointer (some ⟨w.heap.size,0,none⟩))) w') :
  wpList Tryz.prog ops Q (o::rest) a w:=by
 refine wpList_range_own w hg m t hop 9 e keyStr ht hR b _ _ hm h.exact ?_
 intro w' h1 h2 h3
 rw [datV_size] at h1
 exact hK w' h1 ⟨h2.os,h2.tape,h2.output,h2.size,fun i hi=>h2.block i hi (by simp)⟩ h3
theorem wpList_next_map (w:World) {ops:Array Oper} {rest:List Oper} {o:Oper} {a:Act} {Q:Exit→Act→World→Prop} (hg:o.guard=none) (it:Operand) (hop:o.op=Op.next it false)
  (b r:Nat) (L:List (List UInt8 × Value)) (left:Lit→Bool) (cnt:Nat) (hit:a.eval it=.pointer (some ⟨r,0,none⟩)) (h:RngV w b r L left cnt)
  (hDone:cnt=0→(∀ kl,left kl=false)→wpList Tryz.prog ops Q rest (a.put o.dst (.tuple #[.bool false])) w)
  (hMore:∀ (k:List UInt8) (v:Value) (w':World) (cnt':Nat),fi.get k L=some v→left (.string k)=true→RngV w' b r L (fun z=>left z && !z.sameKey (.string k)) cnt'→cnt' < cnt →
   But r w w'→w'.heap.size=w.heap.size→(Instr.entry (.pointer (some ⟨r,0,none⟩))).run Tryz.prog w'=.ok (.tuple #[.string (str k),v]) w' →
   wpList Tryz.prog ops Q rest (a.put o.dst (.tuple #[.bool true,.string (str k),v])) w') :
  wpList Tryz.prog ops Q (o::rest) a w:=by
 refine wpList_plain hg fun K' hK'=>?_
 unfold Oper.wp
 rcases World.ranges.next h keyStr o.type with ⟨h0,hl,hrun⟩ | ⟨key,v,kl,y,w',cnt',hkey,hlk,hv,hat,hrun,hrg,hlt,hgr,hsz,hen⟩
 ·simp [execOp,hop,hit,hrun,Result.andThen]
  exact hK' _ _ (hDone h0 hl)
 ·obtain ⟨k,rfl,rfl⟩:=key_str2 hkey
  have hy:y=(.held v,[]):=(Option.some.inj hv).symm
  subst hy
  have hp:fi.get k L=some v:=by
   have h1:=hat (.held v)
   have h2:=hat (.held (.bool true))
   have h3:=hat (.held (.bool false))
   rw [datV_at] at h1 h2 h3
   cases hgk:fi.get k L with
   | some u =>
    rw [hgk] at h1
    simp only [Option.getD_some,DataW.held.injEq] at h1
    rw [h1]
   | none =>
    rw [hgk] at h2 h3
    simp only [Option.getD_none,DataW.held.injEq] at h2 h3
    rw [←h3] at h2
    cases h2
  simp [execOp,hop,hit,hrun,Result.andThen]
  exact hK' _ _ (hMore k v w' cnt' hp hlk hrg hlt hgr hsz hen)
theorem wpList_look_yes (w:World) {ops:Array Oper} {rest:List Oper} {o:Oper} {a:Act} {Q:Exit→Act→World→Prop} (hg:o.guard=none) (m x:Operand) (t e:TypeId) (hop:o.op=Op.lookup t m x true) (ht:Tryz.prog.underlying t=some (.map 9 e))
  {z:Value} (hz:∀ W,(zeroValue e).run Tryz.prog W=.ok z W) (b:Nat) (L:List (List UInt8 × Value)) (hm:a.eval m=.map (some b)) (h:MapV w b L) (k:List UInt8) (hx:a.eval x=.string (str k)) (hk:k.length≤maxLen) (v:Value) (hv:fi.get k L=some v)
  (hK:wpList Tryz.prog ops Q rest (a.put o.dst (.tuple #[v,.bool true])) w) :
  wpList Tryz.prog ops Q (o::rest) a w:=by
 refine wpList_plain hg fun K' hK'=>?_
 have hrun:=h.look_ok ht (hz w) hk
 rw [hv] at hrun
 unfold Oper.wp
 simp [execOp,hop,hm,hx,hrun,Result.andThen]
 exact hK' _ _ hK
theorem wpList_look_no (w:World) {ops:Array Oper} {rest:List Oper} {o:Oper} {a:Act} {Q:Exit→Act→World→Prop} (hg:o.guard=none) (m x:Operand) (t e:TypeId) (hop:o.op=Op.lookup t m x true) (ht:Tryz.prog.underlying t=some (.map 9 e))
  {z:Value} (hz:∀ W,(zeroValue e).run Tryz.prog W=.ok z W) (b:Nat) (L:List (List UInt8 × Value)) (hm:a.eval m=.map (some b)) (h:MapV w b L) (k:List UInt8) (hx:a.eval x=.string (str k)) (hk:k.length≤maxLen) (hv:fi.get k L=none)
  (hK:wpList Tryz.prog ops Q rest (a.put o.dst (.tuple #[z,.bool false])) w) :
  wpList Tryz.prog ops Q (o::rest) a w:=by
 refine wpList_plain hg fun K' hK'=>?_
 have hrun:=h.look_ok ht (hz w) hk
 rw [hv] at hrun
 unfold Oper.wp
 simp [execOp,hop,hm,hx,hrun,Result.andThen]
 exact hK' _ _ hK
theorem wpList_del_map (w:World) {ops:Array Oper} {rest:List Oper} {o:Oper} {a:Act} {Q:Exit→Act→World→Prop} (hg:o.guard=none) (m x:Operand) (t e:TypeId) (hop:o.op=Op.call { callee:=Callee.builtin Builtin.delete,args:=#[m,x],argTypes:=#[t,9] }) (ht:Tryz.prog.underlying t=some (.map 9 e))
  (b:Nat) (L:List (List UInt8 × Value)) (hm:a.eval m=.map (some b)) (h:MapV w b L) (k:List UInt8) (hx:a.eval x=.string (str k)) (hk:k.length≤maxLen)
  (hK:∀ w',MapV w' b (fi.del k L)→But b w w'→wpList Tryz.prog ops Q rest (a.put o.dst (.tuple #[])) w') :
  wpList Tryz.prog ops Q (o::rest) a w:=by
 refine wpList_plain hg fun K' hK'=>?_
 obtain ⟨w',hrun,r1,r2⟩:=h.del ht hk o.type
 unfold Oper.wp
 simp [execOp,hop,resolve,invoke,builtin,hm,hx,hrun,Result.andThen]
 exact hK' _ _ (hK w' r1 r2)
theorem wpList_put_map (w:World) {ops:Array Oper} {rest:List Oper} {o:Oper} {a:Act} {Q:Exit→Act→World→Prop} (hg:o.guard=none) (m x y:Operand) (t e:TypeId) (hop:o.op=Op.mapUpdate t m x y) (ht:Tryz.prog.underlying t=some (.map 9 e))
  (b n:Nat) (L:List (List UInt8 × Value)) (hm:a.eval m=.map (some b)) (h:MapV w b L) (hn:L.length≤n) (hn2:n < 1000) (k:List UInt8) (hx:a.eval x=.string (str k)) (hk:k.length≤maxLen) (v:Value) (hy:a.eval y=v)
  (hK:∀ w' L',MapV w' b L'→L'.length≤n+1→(∀ j,fi.get j L'=if j=k then some v else fi.get j L)→But b w w'→wpList Tryz.prog ops Q rest (a.put o.dst undef) w') :
  wpList Tryz.prog ops Q (o::rest) a w:=by
 refine wpList_plain hg fun K' hK'=>?_
 obtain ⟨w',L',hrun,r1,r2,r3,r4⟩:=h.put2 hn ht hk hn2 v
 unfold Oper.wp
 simp [execOp,hop,hm,hx,hy,hrun,Result.andThen]
 exact hK' _ _ (hK w' L' r1 r2 r3 r4)
end Go.Proofs.YtekcjfdllclphaaGreatDoor.gn
end
section
set_option linter.unusedVariables false
namespace Go.Proofs.YtekcjfdllclphaaGreatDoor.gn
open Go.RowKit
open Go.Proofs.YtekcjfdllclphaaGreatDoor.un
theorem cutS_any (l p:List UInt8) (hl:l.length≤140737488355328) (w:World) :
  Calls Tryz.prog 157 #[.string (str l),.string (str p)] w fun e w'=>e=.returned (.tuple #[.string (str (Lib.trimSuffix l p)),.bool (Lib.hasSuffix l p)])∧w=w':=by
 refine (Any.strings_CutSuffix layCutSuffix (str l) (str p) w (by rw [str_size];omega)).mono ?_
 rintro e w' ⟨he,hw⟩
 have e1:(str l).data.toList=l:=by simp [str]
 have e2:(str p).data.toList=p:=by simp [str]
 rw [e1,e2] at he
 exact ⟨he,hw.symm⟩
set_option maxRecDepth 100000 in
set_option maxHeartbeats 1600000 in
theorem split_any (l:List UInt8) (hl:l.length≤140737488355328) (w:World) :
  Calls Tryz.prog 142 #[.string (str l)] w (Told (.tuple #[.string (str (spl l).1),.int .i64 ((spl l).2:Nat)]) w):=by
 have HS:=Lib.hid hl
 clear hl
 go_enter Tryz.func142,Tryz.ntmps142
 go_wp2_with (first
  | (go_at_call 140;refine (units_any _).mono ?_;rintro e w1 ⟨b,rfl,hu,hbl,hb⟩;have HU:=Lib.hid hu;have HB:=Lib.hid hb;clear hu hb hbl)
  | (go_at_call 141;refine (order_any _).mono ?_;rintro e w2 ⟨rfl,hb2⟩;have HU2:=Lib.hid (HU.out.next hb2);have HB2:=Lib.hid (HB.out.trans (hb2.mono HB.out.size));clear hb2))
 go_loopw [11] (fun s11 wr=>∃ k:Nat,s11=.int .i64 k∧k≤8∧Aside (∀ i,i < k→Lib.hasSuffix l (nm i)=false)∧wr=w2) (fun s11 _=>8 - (intOf s11).toNat)
 case atStart=>exact ⟨0,rfl,by omega,fun i hi=>absurd hi (by omega),rfl⟩
 case round =>
  obtain ⟨k,rfl,hk,hno,rfl⟩:=hrel
  by_cases h8:k < 8
  ·have hix:=order_at wr h8
   cases hs:Lib.hasSuffix l (nm k) with
   | true =>
    have hsp:=spl_at h8 hno hs
    have HSP:=Lib.hid hsp
    have hlk:=HU2.out.look h8
    have hlk2:∀ q,(Instr.lookup 175 (.map (some b)) (.string (str (nm k))) false).run Tryz.prog (wr.drewN q)=.ok (.int .i64 (sz k:Nat)) (wr.drewN q):=fun q=>UM.look (show UM (wr.drewN q) b from HU2.out) h8
    have HK:=Lib.hid hs
    clear hsp hs
    go_wp2_with (first
     | (go_at_call 157;refine (cutS_any l (nm k) HS.out _).mono ?_;rintro e w3 ⟨rfl,rfl⟩;rw [HK.out])
     | (go_quiet (fail)))
    go_ret2
    exact ⟨by rw [HSP.out];rfl,HB2.out.trans (Joins.below_draws _ _ _)⟩
   | false =>
    have HK:=Lib.hid hs
    have hno2:∀ i,i < k+1→Lib.hasSuffix l (nm i)=false:=fun i hi=>by
     rcases Nat.lt_or_ge i k with h | h
     ·exact hno i h
     ·rw [show i=k by omega];exact hs
    have HN:=Lib.hid hno2
    clear hs hno2
    go_wp2_with (go_at_call 157;refine (cutS_any l (nm k) HS.out _).mono ?_;rintro e w3 ⟨rfl,rfl⟩;rw [HK.out])
    go_roundw
    case rel=>exact ⟨k+1,by go_num,by omega,HN.out,trivial⟩
    case measure=>simp [intOf];omega
  ·obtain rfl:k=8:=by omega
   have hsp:=spl_none hno
   have HSP:=Lib.hid hsp
   clear hsp
   go_wp2
   go_ret2
   exact ⟨by rw [HSP.out];rfl,HB2.out⟩
theorem size_of {l:List UInt8} {f:List UInt8} {b:Nat} (h:spl l=(f,b)):size? l=match num? f with
  | some n=>if n≤top / b then some (n * b) else none
  | none=>none:=by
 unfold size?
 rw [h]
 rfl
set_option maxRecDepth 100000 in
set_option maxHeartbeats 1600000 in
theorem size_any (l:List UInt8) (hl:l.length≤140737488355328) (w:World) (hL:LaidU w) :
  Calls Tryz.prog 120 #[.string (str l)] w (Tnum (size? l) w):=by
 obtain ⟨f,b,hf⟩:∃ f b,spl l=(f,b):=⟨_,_,rfl⟩
 have hb:=spl_bd l
 have hfl:=spl_len l
 have hsz:=size_of hf
 have hsp:=split_any l hl
 rw [hf] at hb hfl hsp
 dsimp only at hb hfl hsp
 have HS:=Lib.hid hsp
 have HL:=Lib.hid hL
 have HF:=Lib.hid (Nat.le_trans hfl hl)
 clear hsp hL hfl hf hl
 obtain ⟨hb0,hbt⟩:=hb
 unfold top at hbt
 cases hn:num? f with
 | none =>
  rw [hn] at hsz
  dsimp only at hsz
  rw [hsz]
  have HN:=Lib.hid hn
  clear hsz hn
  go_enter Tryz.func120,Tryz.ntmps120
  go_wp2_with (first
   | (go_at_call 142;refine (HS.out _).mono ?_;rintro e w1 ⟨rfl,hb1⟩;have HB1:=Lib.hid hb1;clear hb1)
   | (go_at_call 114;refine (number_unit f HF.out _ (HL.out.next HB1.out)).mono ?_;rintro e w2 ⟨rfl,hb2⟩;rw [HN.out,qv_none,qe_none];have HB2:=Lib.hid (HB1.out.trans (hb2.mono HB1.out.size));clear hb2))
  go_ret2
  exact ⟨rfl,HB2.out⟩
 | some n =>
  rw [hn] at hsz
  dsimp only at hsz
  have hnt:=(num_some hn).2.2.2.1
  unfold top at hnt
  have hq:Int.tdiv 1099511627776 (b:Int)=((top / b:Nat):Int):=rfl
  have HN:=Lib.hid hn
  have hb1:¬ ((b:Int)=0):=by omega
  have hqt:top / b≤1099511627776:=Nat.div_le_self _ _
  by_cases hc:n≤top / b
  ·rw [if_pos hc] at hsz
   rw [hsz]
   obtain ⟨m,hm⟩:∃ m,m=n * b:=⟨_,rfl⟩
   have hmt:m≤1099511627776:=by
    rw [hm]
    exact Nat.le_trans (Nat.mul_le_mul_right _ hc) (Nat.div_mul_le_self _ _)
   have hmi:(n:Int) * (b:Int)=(m:Int):=by rw [hm];push_cast;rfl
   rw [←hm]
   obtain ⟨q,hqe⟩:∃ q,top / b=q:=⟨_,rfl⟩
   rw [hqe] at hq hc hqt
   clear hsz hn hm hqe
   go_enter Tryz.func120,Tryz.ntmps120
   go_wp2_with (first
    | (go_at_call 142;refine (HS.out _).mono ?_;rintro e w1 ⟨rfl,hb1⟩;have HB1:=Lib.hid hb1;clear hb1)
    | (go_at_call 114;refine (number_unit f HF.out _ (HL.out.next HB1.out)).mono ?_;rintro e w2 ⟨rfl,hb2⟩;rw [HN.out,qv_some,qe_some];have HB2:=Lib.hid (HB1.out.trans (hb2.mono HB1.out.size));clear hb2))
   go_ret2
   exact ⟨rfl,HB2.out⟩
  ·rw [if_neg hc] at hsz
   rw [hsz]
   obtain ⟨q,hqe⟩:∃ q,top / b=q:=⟨_,rfl⟩
   rw [hqe] at hq hc hqt
   clear hsz hn hqe
   go_enter Tryz.func120,Tryz.ntmps120
   go_wp2_with (first
    | (go_at_call 142;refine (HS.out _).mono ?_;rintro e w1 ⟨rfl,hb1⟩;have HB1:=Lib.hid hb1;clear hb1)
    | (go_at_call 114;refine (number_unit f HF.out _ (HL.out.next HB1.out)).mono ?_;rintro e w2 ⟨rfl,hb2⟩;rw [HN.out,qv_some,qe_some];have HB2:=Lib.hid (HB1.out.trans (hb2.mono HB1.out.size));clear hb2))
   go_ret2
   exact ⟨rfl,HB2.out⟩
end Go.Proofs.YtekcjfdllclphaaGreatDoor.gn
end
section
set_option linter.unusedVariables false
namespace Go.Proofs.YtekcjfdllclphaaGreatDoor.gn
open Go.RowKit
open Go.Proofs.YtekcjfdllclphaaGreatDoor.un
set_option maxRecDepth 100000 in
theorem four_slice (b:Nat) (W:World):(Instr.sliceAt 177 (.pointer (some ⟨b,0,none⟩)) none (some (.int .i64 4)) none).run Tryz.prog W=.ok (.slice (some ⟨b,0,none⟩) 4 8) W:=by
 have hl:Tryz.prog.arrayLen 177=8:=by kernel_rfl
 rw [run_sliceAt_array_h W _ _ Tryz.underlying177 .i64 4 (by omega) (by rw [hl];omega),hl]
 have hs:∀ W,(sizeOf (Tryz.prog.elem 177)).run Tryz.prog W=.ok 1 W:=fun W=>rfl
 rw [hs]
 have ha:(⟨b,0,none⟩:Addr).add 0=⟨b,0,none⟩:=by unfold Addr.add;split <;> simp_all
 simp [slicedAt,Result.andThen,ha]
set_option maxRecDepth 100000 in
set_option maxHeartbeats 1600000 in
theorem stext_out (n:Int) (h0:-9223372036854775808≤n) (h1:n≤9223372036854775807) (hq:¬ (0 < n∧n≤1099511627776)) (w:World) (hL:LaidU w) :
  Calls Tryz.prog 118 #[.int .i64 n] w (Told (.string (str (stxt n))) w):=by
 rw [stxt_out hq]
 have HL:=Lib.hid hL
 clear hL
 by_cases hz:n=0
 ·subst hz
  go_enter Tryz.func118,Tryz.ntmps118
  go_wp2_with (go_at_call 93;refine (text_any 0 h0 h1 _ HL.out).mono ?_;rintro e w2 ⟨rfl,hb2⟩;have HB2:=Lib.hid hb2;clear hb2)
  go_ret
  exact ⟨rfl,HB2.out⟩
 ·obtain ⟨m,hm⟩:∃ m,m=min (max n 0) 1099511627776:=⟨_,rfl⟩
  have hne:(n == m)=false:=by
   rw [beq_eq_false_iff_ne]
   omega
  have hne2:(n != m)=true:=by rw [bne_iff_ne];exact beq_eq_false_iff_ne.1 hne
  have HM:=Lib.hid hm
  clear hm hq
  go_enter Tryz.func118,Tryz.ntmps118
  go_wp2_with (first
   | (go_at_call 121;refine (uof_any n _).mono ?_;rintro e w' ⟨rfl,rfl⟩;rw [←HM.out])
   | (go_at_call 93;refine (text_any n h0 h1 _ HL.out).mono ?_;rintro e w2 ⟨rfl,hb2⟩;have HB2:=Lib.hid hb2;clear hb2))
  go_ret
  exact ⟨rfl,HB2.out⟩
set_option maxRecDepth 100000 in
set_option maxHeartbeats 3200000 in
theorem stext_in (n:Nat) (h0:0 < n) (h1:n≤1099511627776) (w:World) (hL:LaidU w) :
  Calls Tryz.prog 118 #[.int .i64 (n:Int)] w (Told (.string (str (stxt (n:Int)))) w):=by
 have HL:=Lib.hid hL
 have hm:min (max (n:Int) 0) 1099511627776=(n:Int):=by omega
 have HM:=Lib.hid hm
 clear hL hm
 go_enter Tryz.func118,Tryz.ntmps118
 go_upto_region 4 with (first
  | (go_at_call 121;refine (uof_any (n:Int) _).mono ?_;rintro e w' ⟨rfl,rfl⟩;rw [HM.out])
  | (go_at_call 140;refine (units_any _).mono ?_;rintro e w1 ⟨b,rfl,hu,hbl,hb⟩;have HU:=Lib.hid hu;have HB:=Lib.hid hb;clear hu hb hbl)
  | (go_at_call 141;refine (order_any _).mono ?_;rintro e w2 ⟨rfl,hb2⟩;unfold ordV;have HU2:=Lib.hid (HU.out.next hb2);have HB2:=Lib.hid (HB.out.trans (hb2.mono HB.out.size));clear hb2))
 obtain ⟨w3,hw3⟩:∃ w3,w2.alloc (.cells ordV 177)=w3:=⟨_,rfl⟩
 have hcell:∀ k,k < 8→w3.cell? ⟨w2.heap.size,k,none⟩=some (.string (str (nm k))):=fun k hk=>by
  rw [←hw3,World.cell?_alloc_mark]
  exact ordV_at hk
 have hsz3:w2.heap.size < w3.heap.size:=by rw [←hw3];simp
 have hb3:Below w2.heap.size w2 w3:=by rw [←hw3];exact (Below.refl _ _).alloc (Nat.le_refl _) _
 have HU3:=Lib.hid (HU2.out.next hb3)
 have HB3:=Lib.hid (HB2.out.trans (hb3.mono HB2.out.size))
 unfold ordV at hw3
 rw [hw3]
 clear hw3 hb3
 have HC:=Lib.hid hcell
 clear hcell
 have hsl:=four_slice w2.heap.size w3
 generalize w2.heap.size=g at *
 go_wp2
 go_loopw [21] (fun s21 wr=>∃ k:Nat,s21=.int .i64 k∧k≤4∧Aside (∀ i,i < k→n % sz i≠0)∧wr=w3) (fun s21 _=>4 - (intOf s21).toNat)
 case atStart=>exact ⟨0,rfl,by omega,fun i hi=>absurd hi (by omega),rfl⟩
 case round =>
  obtain ⟨k,rfl,hk,hno,rfl⟩:=hrel
  by_cases h4:k < 4
  ·have hck:=HC.out k (by omega)
   have hlk:=HU3.out.look (show k < 8 by omega)
   have hsb:=sz_bd (show k < 8 by omega)
   have hs0:¬ ((sz k:Nat):Int)=0:=by omega
   have htm:Int.tmod (n:Int) ((sz k:Nat):Int)=((n % sz k:Nat):Int):=rfl
   have htd:Int.tdiv (n:Int) ((sz k:Nat):Int)=((n / sz k:Nat):Int):=rfl
   by_cases hd:n % sz k=0
   ·have hx:=stxt_at h0 h1 h4 hno hd
    have HX:=Lib.hid hx
    have hle:n / sz k≤1099511627776:=Nat.le_trans (Nat.div_le_self _ _) h1
    have z1:(str (txt ((n / sz k:Nat):Int))).size≤13:=by rw [str_size];exact txt_len _
    have z2:(str (nm k)).size≤3:=by rw [str_size];exact nm_len (by omega)
    have hte:=txt_in hle
    have HTE:=Lib.hid hte
    rw [hd] at htm
    clear hx hte hno hd
    generalize n / sz k=q at *
    go_wp2_with (go_at_call 93;refine (text_any (q:Int) (by omega) (by omega) _ (HL.out.next HB3.out)).mono ?_;rintro e w4 ⟨rfl,hb4⟩;have HB4:=Lib.hid (HB3.out.trans (hb4.mono HB3.out.size));clear hb4)
    go_ret
    exact ⟨by rw [HX.out,HTE.out,str_app];rfl,HB4.out⟩
   ·have hd2:((n % sz k:Nat):Int)≠0:=by omega
    have hno2:∀ i,i < k+1→n % sz i≠0:=fun i hi=>by
     rcases Nat.lt_or_ge i k with h | h
     ·exact hno i h
     ·rw [show i=k by omega];exact hd
    have HN:=Lib.hid hno2
    clear hno2 hno hd htd
    generalize n % sz k=r at *
    go_wp2
    go_roundw
    case rel=>exact ⟨k+1,by go_num,by omega,HN.out,trivial⟩
    case measure=>simp [intOf];omega
  ·obtain rfl:k=4:=by omega
   have hx:=stxt_none h0 h1 hno
   have HX:=Lib.hid hx
   have HTE:=Lib.hid (txt_in h1)
   clear hx hno
   go_wp2_with (go_at_call 93;refine (text_any (n:Int) (by omega) (by omega) _ (HL.out.next HB3.out)).mono ?_;rintro e w4 ⟨rfl,hb4⟩;have HB4:=Lib.hid (HB3.out.trans (hb4.mono HB3.out.size));clear hb4)
   go_ret
   exact ⟨by rw [HX.out,HTE.out];rfl,HB4.out⟩
theorem stext_any (n:Int) (h0:-9223372036854775808≤n) (h1:n≤9223372036854775807) (w:World) (hL:LaidU w) :
  Calls Tryz.prog 118 #[.int .i64 n] w (Told (.string (str (stxt n))) w):=by
 by_cases h:0 < n∧n≤1099511627776
 ·obtain ⟨m,rfl⟩:∃ m:Nat,n=(m:Int):=⟨n.toNat,by omega⟩
  exact stext_in m (by omega) (by omega) w hL
 ·exact stext_out n h0 h1 h w hL
end Go.Proofs.YtekcjfdllclphaaGreatDoor.gn
end
section
set_option linter.unusedVariables false
namespace Go.Proofs.YtekcjfdllclphaaGreatDoor.gn
open Go.RowKit
open Go.Proofs.YtekcjfdllclphaaGreatDoor.un
open Go.Proofs.YtekcjfdllclphaaGreatDoor.di
def BoxA (W:World) (B:Nat) (t:TypeId) (cs:Array Value):Prop:=W.heap[B]?=some (.cells cs t (0,0))
theorem BoxA.lt {W:World} {B:Nat} {t:TypeId} {cs:Array Value} (h:BoxA W B t cs):B < W.heap.size:=(Array.getElem?_eq_some_iff.1 h).1
theorem BoxA.cell {W:World} {B:Nat} {t:TypeId} {cs:Array Value} (h:BoxA W B t cs) (j:Nat) (v:Value) (hj:cs[j]?=some v:=by rfl):W.cell? ⟨B,j,none⟩=some v:=by
 simp [World.cell?,show W.heap[B]?=_ from h,hj]
theorem BoxA.free {W:World} {B:Nat} {t:TypeId} {cs:Array Value} (h:BoxA W B t cs) (j:Nat):W.frozen? ⟨B,j,none⟩=false:=by simp [World.frozen?,show W.heap[B]?=_ from h]
theorem BoxA.new (W:World) (t:TypeId) (cs:Array Value):BoxA (W.alloc (.cells cs t)) W.heap.size t cs:=heap_alloc_new W _
theorem BoxA.next {W W':World} {B:Nat} {t:TypeId} {cs:Array Value} (h:BoxA W B t cs) (hb:Below W.heap.size W W'):BoxA W' B t cs:=(hb.block B h.lt).trans h
theorem BoxA.but {R:Nat} {W W':World} {B:Nat} {t:TypeId} {cs:Array Value} (h:BoxA W B t cs) (hb:But R W W') (hne:B≠R):BoxA W' B t cs:=(hb.block B h.lt (fun e=>hne (Option.some.inj e))).trans h
theorem BoxA.set {W:World} {B:Nat} {t:TypeId} {cs:Array Value} (h:BoxA W B t cs) (j:Nat) (u:Value):BoxA (W.setCell ⟨B,j,none⟩ u) B t (cs.setIfInBounds j u):=heap_setCell h u
theorem BoxA.drew {W:World} {B:Nat} {t:TypeId} {cs:Array Value} (h:BoxA W B t cs):BoxA W.drew B t cs:=h
def dcs (d:Dir):Array Value:=#[.int .u8 (d.kind:Nat),.string (str d.name),.string (str d.pool),.int .i64 d.size,.bool d.opn]
def dV (d:Dir):Value:=.agg (dcs d)
theorem eq_str (a b:Tx):((str a).toList == (str b).toList)=decide (a=b):=by
 rw [str_toList,str_toList,Bool.eq_iff_iff,beq_iff_eq,decide_eq_true_eq]
theorem eq_lit (a c:Tx):((str a).toList == c)=decide (a=c):=by
 rw [str_toList,Bool.eq_iff_iff,beq_iff_eq,decide_eq_true_eq]
theorem lit_yes {a c:Tx} (h:a=c):((str a).toList == c)=true∧(str a).toList=c:=⟨by rw [eq_lit];exact decide_eq_true h,by rw [str_toList];exact h⟩
theorem lit_no {a c:Tx} (h:¬ a=c):((str a).toList == c)=false∧¬ (str a).toList=c:=⟨by rw [eq_lit];exact decide_eq_false h,by rw [str_toList];exact h⟩
theorem dir_dec (d e:Dir):decide (d=e)=(((d.kind:Nat):Int) == ((e.kind:Nat):Int) && (d.name == e.name && (d.pool == e.pool && (d.size == e.size && d.opn == e.opn)))):=by
 rw [Bool.eq_iff_iff]
 simp only [decide_eq_true_eq,Bool.and_eq_true,beq_iff_eq]
 obtain ⟨k,n,p,z,o⟩:=d
 obtain ⟨k',n',p',z',o'⟩:=e
 simp only [Dir.mk.injEq]
 constructor
 ·rintro ⟨rfl,rfl,rfl,rfl,rfl⟩;simp
 ·rintro ⟨h,rfl,rfl,rfl,rfl⟩
  exact ⟨by omega,rfl,rfl,rfl,rfl⟩
set_option maxRecDepth 100000 in
theorem dir_eqIn (d e:Dir) (W:World):(Op.equalIn 10000 80 (dV d) (dV e)).run Tryz.prog W=.ok (decide (d=e)) W:=by
 rw [dV,dV,dir_dec,run_equalIn_agg W 9999 80 (dcs d) (dcs e) (by kernel_rfl) (by kernel_rfl)]
 unfold Program.fieldsOf
 rw [Tryz.underlying80]
 simp [Op.eqFields,dcs,go_sem,Tryz.underlying5,Tryz.underlying9,Tryz.underlying2,Tryz.underlying4]
 simp only [str_toList]
 by_cases h1:((d.kind:Nat):Int)=((e.kind:Nat):Int) <;> by_cases h2:d.name=e.name <;> by_cases h3:d.pool=e.pool <;> by_cases h4:d.size=e.size <;> by_cases h5:d.opn=e.opn <;> simp [h1,h2,h3,h4,h5]
theorem dir_ne (d e:Dir) (W:World):(binOp .neq 80 (dV d) (dV e)).run Tryz.prog W=.ok (.bool (!decide (d=e))) W:=by
 rw [show dV d=.agg (dcs d) from rfl,show dV e=.agg (dcs e) from rfl,run_neq_struct,show (Op.equalIn 10000 80 (.agg (dcs d)) (.agg (dcs e))).run Tryz.prog W=_ from dir_eqIn d e W]
 rfl
set_option maxRecDepth 100000 in
theorem name_long (l:List UInt8) (hl:32 < l.length) (hm:l.length≤9223372036854775807) (w:World):Calls Tryz.prog 98 #[.string (str l)] w fun e w'=>e=.returned (.bool (isName l))∧Below w.heap.size w w':=by
 have hn:isName l=false:=by
  unfold isName
  rw [show decide (l.length≤32)=false from decide_eq_false (by omega)]
  simp
 rw [hn]
 have hz:=str_size l
 have hz0:32 < (str l).size:=by omega
 have hz1:(str l).size≤9223372036854775807:=by omega
 have hz2:(((str l).size:Int) == 0)=false:=by rw [beq_eq_false_iff_ne];omega
 have hz3:decide (32 < ((str l).size:Int))=true:=decide_eq_true (by omega)
 clear hn hl hm hz
 go_enter Tryz.func98,Tryz.ntmps98
 go_wp2
 go_ret
 exact ⟨rfl,Below.refl _ _⟩
theorem name_all (l:List UInt8) (hm:l.length≤9223372036854775807) (w:World):Calls Tryz.prog 98 #[.string (str l)] w fun e w'=>e=.returned (.bool (isName l))∧Below w.heap.size w w':=by
 by_cases h:32 < l.length
 ·exact name_long l h hm w
 ·exact name_any l (by omega) w
def Flds (w:World) (a:Nat) (L:List (Tx × Bool)):Prop:=a < w.heap.size∧∀ (i:Nat) (f:Tx × Bool),L[i]?=some f→w.cell? ⟨a,i * 2,none⟩=some (.string (str f.1))∧w.cell? ⟨a,i * 2+1,none⟩=some (.bool f.2)
theorem Flds.next {w w':World} {a:Nat} {L:List (Tx × Bool)} (h:Flds w a L) (hb:Below w.heap.size w w'):Flds w' a L :=
 ⟨Nat.lt_of_lt_of_le h.1 hb.size,fun i f hf=>⟨(Below.cell hb h.1).trans (h.2 i f hf).1,(Below.cell hb h.1).trans (h.2 i f hf).2⟩⟩
theorem Flds.but {R:Nat} {w w':World} {a:Nat} {L:List (Tx × Bool)} (h:Flds w a L) (hb:But R w w') (hne:a≠R):Flds w' a L :=
 ⟨Nat.lt_of_lt_of_le h.1 hb.size,fun i f hf=>⟨hb.cell (h.2 i f hf).1 hne,hb.cell (h.2 i f hf).2 hne⟩⟩
def rowV (k a:Nat):Value:=.agg #[.int .u8 (k:Nat),.slice (some ⟨a,0,none⟩) (fldL k).length (fldL k).length]
end Go.Proofs.YtekcjfdllclphaaGreatDoor.gn
end
section
set_option linter.unusedVariables false
namespace Go.Proofs.YtekcjfdllclphaaGreatDoor.gn
open Go.RowKit
open Go.Proofs.YtekcjfdllclphaaGreatDoor.un
open Go.Proofs.YtekcjfdllclphaaGreatDoor.di
def DirB (w:World) (b:Nat) (d:Dir):Prop:=BoxA w b 80 (dcs d)
def PtrB (w:World) (c b:Nat):Prop:=BoxA w c 157 #[.pointer (some ⟨b,0,none⟩)]
theorem DirB.cells {w:World} {b:Nat} {d:Dir} (h:DirB w b d):w.cell? ⟨b,0,none⟩=some (.int .u8 (d.kind:Nat))∧w.cell? ⟨b,1,none⟩=some (.string (str d.name))∧w.cell? ⟨b,2,none⟩=some (.string (str d.pool))∧w.cell? ⟨b,3,none⟩=some (.int .i64 d.size)∧w.cell? ⟨b,4,none⟩=some (.bool d.opn) :=
 ⟨BoxA.cell h 0 _ rfl,BoxA.cell h 1 _ rfl,BoxA.cell h 2 _ rfl,BoxA.cell h 3 _ rfl,BoxA.cell h 4 _ rfl⟩
theorem DirB.next {w w':World} {b:Nat} {d:Dir} (h:DirB w b d) (hb:Below w.heap.size w w'):DirB w' b d:=BoxA.next h hb
theorem DirB.lt {w:World} {b:Nat} {d:Dir} (h:DirB w b d):b < w.heap.size:=BoxA.lt h
theorem DirB.name {w:World} {b:Nat} {d:Dir} (h:DirB w b d) (v:Tx):DirB (w.setCell ⟨b,1,none⟩ (.string (str v))) b { d with name:=v }:=BoxA.set h 1 _
theorem DirB.pool {w:World} {b:Nat} {d:Dir} (h:DirB w b d) (v:Tx):DirB (w.setCell ⟨b,2,none⟩ (.string (str v))) b { d with pool:=v }:=BoxA.set h 2 _
theorem DirB.size {w:World} {b:Nat} {d:Dir} (h:DirB w b d) (n:Int):DirB (w.setCell ⟨b,3,none⟩ (.int .i64 n)) b { d with size:=n }:=BoxA.set h 3 _
theorem DirB.opn {w:World} {b:Nat} {d:Dir} (h:DirB w b d) (o:Bool):DirB (w.setCell ⟨b,4,none⟩ (.bool o)) b { d with opn:=o }:=BoxA.set h 4 _
theorem But.of_below {R:Nat} {w w':World} (h:Below w.heap.size w w'):But R w w':=⟨h.os,h.tape,h.output,h.size,fun i hi _=>h.block i hi⟩
def NameT (bd j:Nat) (v:Tx) (w:World) (e:Ending) (w':World):Prop :=
 e=.returned (.bool (isName v))∧∃ w1,Below w.heap.size w w1∧w'=if isName v=true then w1.setCell ⟨bd,j,none⟩ (.string (str v)) else w1
set_option maxRecDepth 100000 in
set_option maxHeartbeats 1600000 in
theorem storeName_any (bd j:Nat) (old:Tx) (v:Tx) (hv:v.length≤9223372036854775807) (w:World) (hc:w.cell? ⟨bd,j,none⟩=some (.string (str old))) (hf:w.frozen? ⟨bd,j,none⟩=false) (hlt:bd < w.heap.size) :
  Calls Tryz.prog 146 #[.pointer (some ⟨bd,j,none⟩),.string (str v)] w (NameT bd j v w):=by
 cases hn:isName v with
 | false =>
  have HN:=Lib.hid hn
  have HV:=Lib.hid hv
  clear hc hf hlt hn hv
  go_enter Tryz.func146,Tryz.ntmps146
  go_wp2_with (go_at_call 98;refine (name_all v HV.out _).mono ?_;rintro e w1 ⟨rfl,hb⟩;rw [HN.out];have HB:=Lib.hid hb;clear hb)
  go_ret
  exact ⟨by rw [HN.out];rfl,w1,HB.out,by rw [HN.out];rfl⟩
 | true =>
  have HN:=Lib.hid hn
  have HV:=Lib.hid hv
  have HL:=Lib.hid (show (str v).size≤281474976710656 by rw [str_size];have:=name_len hn;omega)
  have HC:=Lib.hid fun (W:World) (hb:Below w.heap.size w W)=>(Below.cell hb hlt).trans hc
  have HF:=Lib.hid fun (W:World) (hb:Below w.heap.size w W)=>(show W.frozen? ⟨bd,j,none⟩=false by rw [←hf];unfold World.frozen?;rw [hb.block bd hlt])
  clear hc hf hn hv
  go_enter Tryz.func146,Tryz.ntmps146
  go_wp2_with (first
   | (go_at_call 98;refine (name_all v HV.out _).mono ?_;rintro e w1 ⟨rfl,hb⟩;rw [HN.out];have HB:=Lib.hid hb;clear hb)
   | (go_at_call 117;refine (clone_any (str v) _ HL.out).mono ?_;rintro e w2 ⟨rfl,hb2⟩;have HB2:=Lib.hid (HB.out.trans (hb2.mono HB.out.size));have hc2:=HC.out _ HB2.out;have hf2:=HF.out _ HB2.out;clear hb2))
  go_ret
  exact ⟨by rw [HN.out];rfl,w2,HB2.out,by rw [HN.out];rfl⟩
end Go.Proofs.YtekcjfdllclphaaGreatDoor.gn
end
section
set_option linter.unusedVariables false
namespace Go.Proofs.YtekcjfdllclphaaGreatDoor.gn
open Go.RowKit
def roundPostP (P:Program) (l:Nat) (R:Ending→World→Prop):Exit→Act→World→Prop
 | .panic ch,a,w=>a.defers=[]∧R (.panicked ch) w
 | .normal,a,w=>roundPost P l R .normal a w
 | .ret,a,w=>roundPost P l R .ret a w
 | .exit id,a,w=>roundPost P l R (.exit id) a w
 | .goto t,a,w=>roundPost P l R (.goto t) a w
 | .outgrown,_,_=>False
theorem roundIn_p {P:Program} {n l:Nat} {f:FuncId} {tmps:Array Value} {assign body:Code} {w:World} {R:Ending→World→Prop} (hf:∃ fn,P.funcs[f]?=some fn)
  (h:assign.wpIn (Fence.wide.inRound l) n P (Exit.then (fun a₁ w₁=>∃ w₂,(Instr.beginRound l).run P w₁=.ok () w₂∧body.wpIn (Fence.wide.inRound l) n P (roundPostP P l R) a₁ w₂) (fun _ _ _=>False)) { tmps:=tmps,defers:=[] } w) :
  RoundIn Fence.wide n P l f tmps assign body w R:=by
 refine ⟨trivial,fun c cs hr=>?_⟩
 let b:Frame:={ (default:Frame) with fn:=f,kind:=.normal,roundOf:=some l }
 have hb0:Frame.round l f tmps assign body .normal=b.atR { tmps:=tmps,defers:=[] } [.code assign,.beginRound,.code body]:=by
  simp [Frame.round,Frame.atR,b]
 have hr':(Fence.wide.inRound l).room ((c::cs).length+1+n):=hr
 have hF':(Fence.wide.inRound l).fn b.fn:=trivial
 obtain ⟨e,a₁,w₁,hq,harr⟩:=h b [.beginRound,.code body] (c::cs) rfl hF' hr'
 rw [←hb0] at harr
 cases e with
 | normal =>
  obtain ⟨w₂,hbr,hbody⟩:=hq
  have s1:StepsIn (Machine.fenced P (Fence.wide.inRound l)) P (lone (b.atR a₁ [.beginRound,.code body]) (c::cs) w₁) (lone (b.atR a₁ [.code body]) (c::cs) w₂) :=
   .one (fenced_calm (fr:=b.atR a₁ [.beginRound,.code body]) hF' hr' rfl) (stepR_beginRound rfl hbr)
  obtain ⟨e₂,a₂,w₃,hq₂,harr₂⟩:=hbody b [] (c::cs) rfl hF' hr'
  cases e₂ with
  | normal =>
   obtain ⟨v,w₄,hend,hR⟩:=hq₂
   exact ⟨.returned v,w₄,hR,(StepsIn.trans harr s1).trans (StepsIn.trans harr₂ (.one (fenced_calm (fr:=b.atR a₂ []) hF' hr' rfl) (stepR_round_end rfl rfl hend)))⟩
  | ret =>
   obtain ⟨v,w₄,hend,hR⟩:=hq₂
   obtain ⟨k₁,hs⟩:=harr₂.2 rfl
   exact ⟨.returned v,w₄,hR,(StepsIn.trans harr s1).trans (StepsIn.trans hs (.one (fenced_calm (fr:=b.atR a₂ (.code .ret::k₁)) hF' hr' rfl) (stepR_round_ret rfl rfl hend)))⟩
  | exit id =>
   obtain ⟨v,w₄,hend,hR⟩:=hq₂
   obtain ⟨k₁,hk,hs⟩:=harr₂.2 rfl rfl
   exact ⟨.returned v,w₄,hR,(StepsIn.trans harr s1).trans (StepsIn.trans hs (.one (fenced_calm (fr:=b.atR a₂ (.code (.exit id)::k₁)) hF' hr' rfl) (stepR_round_exit rfl rfl hk hend)))⟩
  | goto t =>
   obtain ⟨v,w₄,hend,hR⟩:=hq₂
   obtain ⟨k₁,hk,hs⟩:=harr₂.2 rfl rfl
   exact ⟨.returned v,w₄,hR,(StepsIn.trans harr s1).trans (StepsIn.trans hs (.one (fenced_calm (fr:=b.atR a₂ (.code (.goto t)::k₁)) hF' hr' rfl) (stepR_round_goto rfl rfl hk hend)))⟩
  | panic chain =>
   obtain ⟨hd,hR⟩:=hq₂
   obtain ⟨todo,hs⟩:=harr₂
   obtain ⟨fn,hfn⟩:=hf
   have hl:({ b.atR a₂ todo with mode:=.panicking chain }:Frame).leaving P w₃ (.panicked chain):=⟨rfl,hd,fn,hfn⟩
   exact ⟨.panicked chain,w₃,hR,(StepsIn.trans harr s1).trans (StepsIn.trans hs (.one (fenced_leaving (F:=Fence.wide.inRound l) hF' hr' hl) (step_leave_panicked hl)))⟩
  | outgrown=>exact hq₂.elim
 | exit id=>exact hq.elim
 | goto t=>exact hq.elim
 | ret=>exact hq.elim
 | panic chain=>exact hq.elim
 | outgrown=>exact hq.elim
def wpF (P:Program) (f:FuncId) (c:Code) (Q:Exit→Act→World→Prop) (a:Act) (w:World):Prop :=
 ∀ (b:Frame) (k:List Item) (cs:List Frame),b.roundOf=none→b.fn=f →
  ∃ e a' w',Q e a' w'∧ArrivesIn (Machine.fenced P Fence.wide) P (lone (b.atR a (.code c::k)) cs w) b k cs e a' w'
section
variable {P : Program} {f : FuncId} {Q : Exit → Act → World → Prop} {a : Act} {w : World}
theorem wpF_of {n:Nat} {c:Code} (h:c.wpIn Fence.wide n P Q a w):wpF P f c Q a w:=fun b k cs hr _=>h b k cs hr trivial (room_wide _)
theorem wpF_seq {x y:Code} (h:wpF P f x (Exit.then (wpF P f y Q) Q) a w):wpF P f (.seq x y) Q a w:=by
 intro b k cs hro hb
 have h0:(lone (b.atR a (.code (.seq x y)::k)) cs w).fenced P Fence.wide:=fenced_wide _ _
 obtain ⟨e,a₁,w₁,hq,harr⟩:=h b (.code y::k) cs hro hb
 cases e with
 | normal =>
  obtain ⟨e₂,a₂,w₂,hq₂,harr₂⟩:=hq b k cs hro hb
  exact ⟨e₂,a₂,w₂,hq₂,.of_steps (.head h0 stepR_seq harr) harr₂⟩
 | exit id=>exact ⟨_,a₁,w₁,hq,.of_steps (.one h0 stepR_seq) (.pass (x:=.code y) rfl (fun _ _=>.inl (by simp)) harr)⟩
 | goto l=>exact ⟨_,a₁,w₁,hq,.of_steps (.one h0 stepR_seq) (.pass (x:=.code y) rfl (fun _ _=>.inl (by simp)) harr)⟩
 | ret=>exact ⟨_,a₁,w₁,hq,.of_steps (.one h0 stepR_seq) (.pass (x:=.code y) rfl (fun _ _=>.inl (by simp)) harr)⟩
 | panic ch=>exact ⟨_,a₁,w₁,hq,.of_steps (.one h0 stepR_seq) (.pass (x:=.code y) rfl (fun _ _=>.inl (by simp)) harr)⟩
 | outgrown=>exact ⟨_,a₁,w₁,hq,.of_steps (.one h0 stepR_seq) (.pass (x:=.code y) rfl (fun _ _=>.inl (by simp)) harr)⟩
theorem callsF {fn:Func} {c:Code} {args:Array Value} {R:Ending→World→Prop} (n:Nat)
  (hf:P.funcs[f]?=some fn) (hb:fn.body=some c)
  (h:wpF P f c (bodyPostM Fence.wide n P fn R) { tmps:=args++Array.replicate (fn.ntmps - args.size) undef,defers:=[] } w):Calls P f args w R:=by
 refine (callsIn_wide (n:=n)).1 ⟨trivial,fun cs hr=>?_⟩
 let b:Frame:={ (default:Frame) with fn:=f,kind:=.normal,roundOf:=none }
 have henter:Frame.enter P f args .normal =
   b.atR { tmps:=args++Array.replicate (fn.ntmps - args.size) undef,defers:=[] } [.code c]:=by
  simp [Frame.enter,Frame.atR,hf,hb,b]
 obtain ⟨e,a',w',hq,harr⟩:=h b [] cs rfl rfl
 rw [←henter] at harr
 cases e with
 | normal =>
  obtain ⟨e',w'',fr',hR,hs,hfn,hl⟩:=leaves_stepsInM a'.defers .returning w' { b.atR a' [] with mode:=.returning } cs rfl rfl rfl hf rfl trivial hr hq
  exact ⟨e',w'',fr',hR,ComesIn.of_steps (StepsIn.trans harr (.one (fenced_wide _ _) (stepR_end rfl))) hs,hfn,hl⟩
 | ret =>
  obtain ⟨todo,hs₀⟩:=harr.1 rfl
  obtain ⟨e',w'',fr',hR,hs,hfn,hl⟩:=leaves_stepsInM a'.defers .returning w' { b.atR a' todo with mode:=.returning } cs rfl rfl rfl hf rfl trivial hr hq
  exact ⟨e',w'',fr',hR,ComesIn.of_steps hs₀ hs,hfn,hl⟩
 | panic chain =>
  obtain ⟨todo,hs₀⟩:=harr
  obtain ⟨e',w'',fr',hR,hs,hfn,hl⟩:=leaves_stepsInM a'.defers (.panicking chain) w' { b.atR a' todo with mode:=.panicking chain } cs rfl rfl rfl hf rfl trivial hr hq
  exact ⟨e',w'',fr',hR,ComesIn.of_steps hs₀ hs,hfn,hl⟩
 | exit id=>exact hq.elim
 | goto l=>exact hq.elim
 | outgrown=>exact ⟨.outgrown,w',b,hq,harr.resolve_left (by simp [b]),rfl,trivial⟩
theorem wpF_rangeFunc {n:Nat} {g:Operand} {ps:Array Tmp} {assign body:Code}
  (h:∃ (l:Nat) (mark:List Deferred) (w₁:World) (d:Deferred) (w₁':World) (f':FuncId) (args:Array Value) (w₂:World),
   (Instr.enterLoop f a.tmps ps assign body none).run P w=.ok (l,mark) w₁ ∧
   (resolve a.eval (rangeCall g l) 0).run P w₁=.ok d w₁' ∧
   (invoke d.target d.args).run P w₁'=.ok (.enter f' args) w₂ ∧
   CallsIn Fence.wide (n - 1) P f' args w₂ (rangePost Fence.wide n P l Q { a with defers:=mark++a.defers })) :
  wpF P f (Code.rangeFunc g ps assign body) Q a w:=by
 intro b k cs hro hb
 obtain ⟨l,mark,w₁,d,w₁',f',args,w₂,he,hres,hinv,hcall⟩:=h
 rw [←hro,← hb] at he
 have h0:(lone (b.atR a (.code (.rangeFunc g ps assign body)::k)) cs w).fenced P Fence.wide:=fenced_wide _ _
 have henter:=stepR_rangeFunc (P:=P) (b:=b) (a:=a) (k:=k) (cs:=cs) (w:=w) he hres hinv
 obtain ⟨e,w₃,fr,hR,hsteps,hfn,hleave⟩:=hcall.2 (b.atR { a with defers:=mark++a.defers } (.inRangeFunc l::k)::cs) (room_wide _)
 cases e with
 | outgrown =>
  obtain ⟨a₀,w₀,hq⟩:=hR
  exact ⟨.outgrown,a₀,w₀,hq,.inr (Outgrown.of_steps (.one henter) hsteps)⟩
 | returned v =>
  obtain ⟨jump,w₄,hend,hj⟩:=hR
  have sback:StepsIn (Machine.fenced P Fence.wide) P (lone (b.atR a (.code (.rangeFunc g ps assign body)::k)) cs w) (lone (b.atR { a with defers:=mark++a.defers } ((jump.map Item.code).toList++k)) cs w₄):=by
   refine .head h0 henter (StepsIn.trans hsteps (.head (fenced_wide _ _) ?_ (.one (fenced_wide _ _) (stepR_endRangeFunc hend))))
   rw [←finish_atR_inRangeFunc l v];exact step_leave_returned hleave
  cases jump with
  | none=>exact ⟨.normal,_,w₄,hj,sback⟩
  | some c =>
   obtain ⟨e',a'',w₅,hq,harr⟩:=hj b k cs hro trivial (room_wide _)
   exact ⟨e',a'',w₅,hq,.of_steps sback harr⟩
 | panicked chain =>
  refine ⟨.panic chain,_,w₃,hR,.inRangeFunc l::k,.head h0 henter (StepsIn.trans hsteps (.one (fenced_wide _ _) ?_))⟩
  rw [←Frame.raise_atR];exact step_leave_panicked hleave
end
theorem wpF_block {P:Program} {f:FuncId} {Q:Exit→Act→World→Prop} {a:Act} {w:World} {id:Nat} {c:Code} (h:wpF P f c (Exit.inBlock id Q) a w):wpF P f (.block id c) Q a w:=by
 intro b k cs hro hb
 have h0:(lone (b.atR a (.code (.block id c)::k)) cs w).fenced P Fence.wide:=fenced_wide _ _
 obtain ⟨e,a₁,w₁,hq,harr⟩:=h b (.inBlock id::k) cs hro hb
 cases e with
 | normal=>exact ⟨.normal,a₁,w₁,hq,.head h0 stepR_block (StepsIn.trans harr (.one (fenced_wide _ _) stepR_inBlock))⟩
 | exit id' =>
  by_cases hid:id'=id
  ·simp only [Exit.inBlock,hid,if_true] at hq
   exact ⟨.normal,a₁,w₁,hq,.head h0 stepR_block (harr.1 k (by simp [exitTo,hid]))⟩
  ·simp only [Exit.inBlock,hid,if_false] at hq
   have this:(id == id')=false:=by simp;exact fun h=>hid h.symm
   have hx:exitTo id' (.inBlock id::k)=exitTo id' k:=by simp [exitTo,this]
   exact ⟨.exit id',a₁,w₁,hq,fun k' hk=>.head h0 stepR_block (harr.1 k' (by rw [hx];exact hk)),
    fun hr' hk=>let ⟨k₁,h1,h2⟩:=harr.2 hr' (by rw [hx];exact hk);⟨k₁,h1,.head h0 stepR_block h2⟩⟩
 | goto l =>
  have hx:gotoIn l (.inBlock id::k)=gotoIn l k:=by simp [gotoIn]
  exact ⟨_,a₁,w₁,hq,fun k' hk=>.head h0 stepR_block (harr.1 k' (by rw [hx];exact hk)),
   fun hr' hk=>let ⟨k₁,h1,h2⟩:=harr.2 hr' (by rw [hx];exact hk);⟨k₁,h1,.head h0 stepR_block h2⟩⟩
 | ret=>exact ⟨_,a₁,w₁,hq,.of_steps (.one h0 stepR_block) harr⟩
 | panic ch=>exact ⟨_,a₁,w₁,hq,.of_steps (.one h0 stepR_block) harr⟩
 | outgrown=>exact ⟨_,a₁,w₁,hq,.of_steps (.one h0 stepR_block) harr⟩
theorem wpF_seq_k {P:Program} {f:FuncId} {n:Nat} {x y:Code} {Q:Exit→Act→World→Prop} {a:Act} {w:World} (h:∀ K:Act→World→Prop,(∀ a w,wpF P f y Q a w→K a w)→x.wpIn Fence.wide n P (Exit.then K Q) a w):wpF P f (.seq x y) Q a w :=
 wpF_seq (wpF_of (h _ fun _ _ h=>h))
structure Calm (B:Nat) (I:World→Prop):Prop where
 next:∀ A C,I A→Below A.heap.size A C→I C
 put:∀ A l o o',B≤l→I A→A.heap[l]?=some o→o.isCells=false→o'.isCells=false→I (A.putObj l o')
def SeqP {α:Type} (n:Nat) (P:Program) (g:Nat) (lb:Array Value) (encs:α→Array Value) (xs:List α) (ok:World→Prop) (w:World):Prop :=
 ∀ (l:Nat) (J:Nat→World→Prop) (Jp:List PanicEntry→World→Prop) (W:World),Below w.heap.size w W→(∀ k A,J k A→ok A)→(∀ k A C,J k A→Below A.heap.size A C→J k C) →
  (∀ k x A,J k A→xs[k]?=some x→YieldAt Fence.wide (n - 1) P l (encs x) A fun e C=>(e=.returned (.bool true)∧J (k+1) C)∨∃ ch,e=.panicked ch∧Jp ch C)→J 0 W →
  CallsIn Fence.wide n P g (#[.func (.yield l) #[] #[]]++lb) W fun e C=>(∃ v,e=.returned v∧J xs.length C)∨∃ ch,e=.panicked ch∧Jp ch C
def bodyP (D:Nat) (I:World→Prop) (Ip:List PanicEntry→World→Prop) (W:World):Exit→Act→World→Prop
 | .normal,_,C=>KeepsFrom D W C∧I C
 | .panic ch,a,C=>a.defers=[]∧KeepsFrom D W C∧Ip ch C
 | _,_,_=>False
theorem range_p {α:Type} {P:Program} {n:Nat} {f:FuncId} {fn0:Func} (hfn:P.funcs[f]?=some fn0) {g:Operand} {ps:Array Tmp} {assign body:Code} {Q:Exit→Act→World→Prop} {a:Act} {w:World} {gf:Nat} {lb:Array Value}
  (hg:a.eval g=.func (.func gf) #[] lb) (eg:∀ args w,(callFunc gf args).run P w=.ok (.enter gf args) w) {encs:α→Array Value} {xs:List α} {ok:World→Prop} {w0:World}
  (hseq:SeqP (n - 1) P gf lb encs xs ok w0) (hb0:Below w0.heap.size w0 w) (hps:∀ x,(encs x).size=ps.size)
  (I:Nat→World→Prop) (Ip:List PanicEntry→World→Prop) (hok:∀ k A,I k A→ok A) (hI:∀ k,Calm w.heap.size (I k)) (h0:I 0 w) (a₁:α→Act)
  (hassign:∀ (l k:Nat) (x:α) (W:World) (K:Act→World→Prop),I k W→K (a₁ x) W →
   assign.wpIn (Fence.wide.inRound l) (n - 1 - 1) P (Exit.then K (fun _ _ _=>False)) { tmps:=(ps.zip (encs x)).foldl (fun t (p,v)=>t.setIfInBounds p v) a.tmps,defers:=[] } W)
  (hbody:∀ (l k:Nat) (x:α) (W:World),xs[k]?=some x→I k W→body.wpIn (Fence.wide.inRound l) (n - 1 - 1) P (bodyP w.heap.size (I (k+1)) Ip W) (a₁ x) W)
  (hdone:∀ (D:Nat) (W:World),w.heap.size≤D→I xs.length W→W.heap[D]?=some (.deferred (some []))→Q .normal { a with defers:={ target:=.collected D,args:=#[] }::a.defers } W)
  (hpan:∀ (D:Nat) (ch:List PanicEntry) (W:World),w.heap.size≤D→Ip ch W→W.heap[D]?=some (.deferred (some []))→Q (.panic ch) { a with defers:={ target:=.collected D,args:=#[] }::a.defers } W) :
  wpF P f (Code.rangeFunc g ps assign body) Q a w:=by
 refine wpF_rangeFunc (n:=n) ?_
 obtain ⟨rec,hrec⟩:∃ rec:LoopState→Option Code→Loop,rec=fun st pe=>{ state:=st,pending:=pe,fn:=f,tmps:=a.tmps,params:=ps,assign,body,defers:=w.heap.size }:=⟨_,rfl⟩
 obtain ⟨s,hs⟩:∃ s,s=w.heap.size:=⟨_,rfl⟩
 obtain ⟨W1,hW1⟩:∃ W1,(w.alloc (.deferred (some []))).alloc (.loop (rec .ready none))=W1:=⟨_,rfl⟩
 have hL1:W1.heap[s+1]?=some (.loop (rec .ready none)):=by
  have h:=World.alloc_heap_new (w.alloc (.deferred (some []))) (.loop (rec .ready none))
  rw [World.size_alloc,hW1,← hs] at h
  exact h
 have hK1:W1.heap[s]?=some (.deferred (some [])):=by
  rw [←hW1,hs];exact (Below.heap_alloc _ _ _ (by simp)).trans (World.alloc_heap_new w _)
 have hb1:Below w.heap.size w W1:=by rw [←hW1];exact ((Below.refl _ w).alloc (Nat.le_refl _) _).alloc (by simp) _
 have hI1:I 0 W1:=(hI 0).next w W1 h0 hb1
 obtain ⟨J,hJ⟩:∃ J:Nat→World→Prop,J=fun k W=>I k W∧W.heap[s+1]?=some (.loop (rec .ready none))∧W.heap[s]?=some (.deferred (some [])):=⟨_,rfl⟩
 obtain ⟨Jp,hJp⟩:∃ Jp:List PanicEntry→World→Prop,Jp=fun ch W=>Ip ch W∧W.heap[s]?=some (.deferred (some [])):=⟨_,rfl⟩
 refine ⟨s+1,[{ target:=.collected s,args:=#[] }],W1,{ target:=.fn (.func gf) lb,args:=#[.func (.yield (s+1)) #[] #[]] },W1,gf,#[.func (.yield (s+1)) #[] #[]]++lb,W1,?_,?_,?_,?_⟩
 ·rw [←hW1,hrec,hs];exact run_enterLoop_outer _ _ _ _ _
 ·simp only [resolve,hg]
  simp [go_sem]
 ·simp [invoke,go_sem,eg]
 ·refine (hseq (s+1) J Jp W1 (hb0.trans (hb1.mono hb0.size)) (fun k A h=>by rw [hJ] at h;exact hok k A h.1) (fun k A C h hb=>?_) (fun k x A hj hx=>?_) ?_).mono ?_
  ·rw [hJ] at h ⊢
   exact ⟨(hI k).next A C h.1 hb,(hb.block _ (Array.getElem?_eq_some_iff.1 h.2.1).1).trans h.2.1,(hb.block _ (Array.getElem?_eq_some_iff.1 h.2.2).1).trans h.2.2⟩
  ·rw [hJ] at hj
   obtain ⟨hi,hl,hk⟩:=hj
   have hlt:s+1 < A.heap.size:=(Array.getElem?_eq_some_iff.1 hl).1
   have hy:=run_yield (P:=P) (args:=encs x) hl (by rw [hrec];exact hps x)
   rw [hrec] at hy
   refine ⟨f,_,assign,body,hy,roundIn_p ⟨_,hfn⟩ (hassign _ k x A _ hi ?_)⟩
   clear hy
   refine ⟨_,run_beginRound hl (by rw [hrec]),?_⟩
   have hl2:(A.putObj (s+1) (.loop { rec .ready none with state:=.busy })).heap[s+1]?=some (.loop { rec .ready none with state:=.busy }):=World.putObj_heap_same hlt
   have hk2:(A.putObj (s+1) (.loop { rec .ready none with state:=.busy })).heap[s]?=some (.deferred (some [])):=(World.putObj_heap_other (by omega)).trans hk
   refine wpIn_mono (hbody _ k x _ hx ((hI k).put _ _ _ _ (by omega) hi hl rfl rfl)) ?_
   rintro e a3 A3 hp
   cases e with
   | normal =>
    obtain ⟨p1,p3⟩:=hp
    have hl3:=p1.same _ _ (by omega) hl2 rfl
    have hlt3:s+1 < A3.heap.size:=(Array.getElem?_eq_some_iff.1 hl3).1
    have he:(Instr.endRound (s+1) none).run P A3=.ok (.bool true) (A3.putObj (s+1) (.loop (rec .ready none))):=by
     have:=run_endRound (P:=P) none hl3
     rw [hrec] at this ⊢
     exact this
    refine ⟨_,_,he,.inl ⟨rfl,?_⟩⟩
    rw [hJ]
    exact ⟨(hI (k+1)).put _ _ _ _ (by omega) p3 hl3 rfl rfl,World.putObj_heap_same hlt3,(World.putObj_heap_other (by omega)).trans (p1.same _ _ (by omega) hk2 rfl)⟩
   | panic ch =>
    obtain ⟨p0,p1,p3⟩:=hp
    refine ⟨p0,.inr ⟨ch,rfl,?_⟩⟩
    rw [hJp]
    exact ⟨p3,p1.same _ _ (by omega) hk2 rfl⟩
   | ret=>exact hp.elim
   | exit k=>exact hp.elim
   | goto t=>exact hp.elim
   | outgrown=>exact hp.elim
  ·rw [hJ];exact ⟨hI1,hL1,hK1⟩
  ·rintro e A (⟨v,rfl,hx⟩ | ⟨ch,rfl,hx⟩)
   ·rw [hJ] at hx
    obtain ⟨hi,hl,hk⟩:=hx
    have he:(Instr.endLoop (s+1)).run P A=.ok none (A.putObj (s+1) (.loop (rec .exhausted none))):=by
     have:=run_endLoop (P:=P) hl (by rw [hrec];simp)
     rw [hrec] at this ⊢
     exact this
    refine ⟨none,_,he,?_⟩
    exact hdone s _ (Nat.le_of_eq hs.symm) ((hI _).put _ _ _ _ (by omega) hi hl rfl rfl) ((World.putObj_heap_other (by omega)).trans hk)
   ·rw [hJp] at hx
    exact hpan s ch _ (Nat.le_of_eq hs.symm) hx.1 hx.2
end Go.Proofs.YtekcjfdllclphaaGreatDoor.gn
end
