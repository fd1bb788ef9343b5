/- For any seat: a whole row loaded under a guard that holds. -/
import Derived.Test.YtekcjfdllclphaaGreatDoorMQaGen
import Derived.Laws.Rows
import Derived.Test.YtekcjfdllclphaaGreatDoorMQaOrF
import Derived.Test.YtekcjfdllclphaaGreatDoorMQaSlJ
import Derived.Test.YtekcjfdllclphaaGreatDoorMQaOrR
import Derived.Shelf.Abstract
import Derived.Deep.LoopGhost
import Derived.Test.YtekcjfdllclphaaGreatDoorMQaSlSa
import Derived.Test.YtekcjfdllclphaaGreatDoorMQaSlQ
import Derived.Test.YtekcjfdllclphaaGreatDoorMQaOrE
import Derived.BigQuiet
import Derived.Test.YtekcjfdllclphaaGreatDoorMQaSlDt
import Derived.Test.YtekcjfdllclphaaGreatDoorMQaDiU
section
set_option linter.unusedVariables false
set_option linter.unusedSimpArgs false
namespace Go.Proofs.YtekcjfdllclphaaGreatDoor.gn
theorem wpl_load_g {P:Program} {ops:Array Oper} {rest:List Oper} {o:Oper} {a:Act} {w:World} {Q:Exit→Act→World→Prop} (hgw:Region.wanted o (yielded ops a.tmps)=true) (ty:TypeId) (x:Operand) (ho:o.op=.load ty x)
  (g:Nat) (hx:a.eval x=.pointer (some ⟨g,0,none⟩)) (t:TypeId) (cs:Array Value) (fr:Nat × Nat) (d:TypeDesc) (hg:w.heap[g]?=some (.cells cs t fr))
  (hu:P.underlying ty=some d) (hd:(match d with | .struct _ | .array _ _=>true | _=>false)=true) (hi:(P.info? ty).map (·.size)=some cs.size)
  (h:wpList P ops Q rest (a.put o.dst (.agg cs)) w):wpList P ops Q (o::rest) a w:=by
 refine wpList_step fun K hK=>?_
 rw [if_pos hgw]
 exact wp_load_row ty x ho g hx t cs fr d hg hu hd hi (hK _ _ h)
end Go.Proofs.YtekcjfdllclphaaGreatDoor.gn
end
section
set_option linter.unusedVariables false
set_option linter.unusedSimpArgs false
namespace Go.Proofs.YtekcjfdllclphaaGreatDoor.gn
open Go.RowKit
open Go.Proofs.YtekcjfdllclphaaGreatDoor.un
open Go.Proofs.YtekcjfdllclphaaGreatDoor.di
open Go.Proofs.YtekcjfdllclphaaGreatDoor.sp (Slip within? okW jobW userK)
open Go.Proofs.YtekcjfdllclphaaGreatDoor.od (Ord okO stO numV sizV resK badW nK lo hi fsO keysO wordO)
theorem wpl_own3 {t e:TypeId} {z:Value} {size bytes:Nat} (E:EltI t e z size bytes) {w:World} {ops:Array Oper} {rest:List Oper} {o:Oper} {a:Act} {Q:Exit→Act→World→Prop} (hgd:o.guard=none) (s x:Operand)
  (ho:o.op=.call { callee:=.builtin .append,args:=#[s,x],argTypes:=#[t,t] })
  {base n:Nat} {v:Value} {cs:List Value} (hs:a.eval s=v) (hown:w.ownsRow base e size v n cs) (ad:Addr) (ds:List Value) (hx:a.eval x=.slice (some ad) 1 1) (hc:∀ j u,ds[j]?=some u→w.cell? (ad.add j)=some u) (hd:ds.length=size)
  (h1:∀ u∈ds,u.oneCell'=true) (hlen:n≤1000000) (hby:bytes≤100) (hb:base≤w.heap.size)
  (hK:∀ g c w',w'.ownsRow base e size (.slice (some ⟨g,0,none⟩) (n+1) c) (n+1) (cs++ds)→w.grownBy w' v.ownBlock→wpList Tryz.prog ops Q rest (a.put o.dst (.slice (some ⟨g,0,none⟩) (n+1) c)) w') :
  wpList Tryz.prog ops Q (o::rest) a w:=by
 refine wpList_plain hgd fun K hK2=>?_
 obtain ⟨v',w',hrun,r1,r2,r4⟩:=run_own E o.type hown hc (by rw [hd,Nat.one_mul]) h1 (show n+1≤maxLen by unfold maxLen;omega) (by have:(n+1) * bytes≤1000001 * 100:=Nat.mul_le_mul (by omega) hby;omega) hb (show 0 < 1 by decide) (c:=1)
 have hform:∃ g c,v'=.slice (some ⟨g,0,none⟩) (n+1) c:=by
  rcases r1.2 with ⟨_,h0⟩ | ⟨g,cap,cur,e,_⟩
  ·omega
  ·exact ⟨_,_,e⟩
 obtain ⟨g,c,rfl⟩:=hform
 unfold Oper.wp
 simp [execOp,ho,resolve,invoke,builtin,hs,hx,hrun,Result.andThen]
 exact hK2 _ _ (hK g c w' r1 r2)
theorem own_base2 {B B':Nat} {e:TypeId} {size:Nat} {w:World} {v:Value} {n:Nat} {cs:List Value} (h:w.ownsRow B e size v n cs) (hb:B'≤B):w.ownsRow B' e size v n cs:=by
 refine ⟨h.1,?_⟩
 rcases h.2 with h2 | ⟨g,cap,cur,e,hg,r⟩
 ·exact .inl h2
 ·exact .inr ⟨g,cap,cur,e,Nat.le_trans hb hg,r⟩
structure FE where
 key:Tx
 text:Tx
 fn:FuncId
 cp:Array Value
def cF (f:FE):List Value:=[.string (str f.key),.string (str f.text),.func (.func f.fn) #[] f.cp]
def flF (L:List FE):List Value:=L.flatMap cF
theorem flF_app (a b:List FE):flF (a++b)=flF a++flF b:=List.flatMap_append
theorem eltF:EltI 63 67 (.agg #[.string ⟨#[]⟩,.string ⟨#[]⟩,.nilFunc]) 3 40:=elt_of Tryz.underlying63 (by kernel_rfl) rfl (by decide)
theorem cF_one (f:FE):∀ u∈cF f,u.oneCell'=true:=fun u hu=>by
 simp only [cF,List.mem_cons,List.not_mem_nil,or_false] at hu
 rcases hu with rfl | rfl | rfl <;> rfl
structure FlS (w:World) (bo k:Nat) (g:Gh) (fs:List (Tx × Tx)) (L:List FE):Prop where
 map:L.map (fun f=>(f.key,f.text))=fs
 sto:∀ f∈L,StoP w bo k g f.key f.fn f.cp
def FieldsT (bo:Nat) (o:Ord) (g:Gh) (w:World) (e:Ending) (w':World):Prop :=
 ∃ v L,e=.returned v∧FlS w' bo o.kind g (fsO o) L∧w'.ownsRow w.heap.size 67 3 v L.length (flF L)∧Below w.heap.size w w'
structure OFI (w3:World) (I bo:Nat) (o:Ord) (g:Gh) (l:Tx) (i:Nat) (v:Value) (L:List FE) (W:World):Prop where
 it:W.heap[I]?=some (.stringIter (str l) i)
 fl:FlS W bo o.kind g ((l.take i).map (letF o)) L
 len:L.length=i
 own:W.ownsRow (I+1) 67 3 v i (flF L)
 low:Below I w3 W
theorem OFI.step {w3 wr w5 w6 w7:World} {I bo:Nat} {o:Ord} {g:Gh} {l:Tx} {i:Nat} {v v':Value} {L:List FE} (h:OFI w3 I bo o g l i v L wr) {c:UInt8} (hc:l[i]?=some c) {fn:FuncId} {cp:Array Value} (hI:I≤w3.heap.size)
  (h5:Below (wr.iterAt I (str l) (i+1)).heap.size (wr.iterAt I (str l) (i+1)) w5) (hs:StoP w5 bo o.kind g (letK c.toNat) fn cp) (h6:Below w5.heap.size w5 w6) (h7:w6.grownBy w7 v.ownBlock)
  (ho:w7.ownsRow (I+1) 67 3 v' (i+1) (flF L++cF ⟨letK c.toNat,letX o c.toNat,fn,cp⟩)):OFI w3 I bo o g l (i+1) v' (L++[⟨letK c.toNat,letX o c.toNat,fn,cp⟩]) w7:=by
 have hsz:=Lib.iterAt_size wr I (str l) (i+1)
 have hIr:I < wr.heap.size:=(Array.getElem?_eq_some_iff.1 h.it).1
 have hob:∀ b,v.ownBlock=some b→I+1≤b∧b < wr.heap.size∧∃ cur,wr.heap[b]?=some (.cells cur 67 (0,0)):=fun b hb=>⟨(World.ownsRow.lt h.own b hb).1,(World.ownsRow.lt h.own b hb).2,own_cells h.own hb⟩
 have k1:∀ b,b < wr.heap.size→b≠I→w6.heap[b]?=wr.heap[b]?:=fun b hb hn=>((h6.block b (by have:=h5.size;omega)).trans (h5.block b (by omega))).trans (Lib.iterAt_other wr I b (str l) (i+1) hn)
 have k2:∀ b cs t,b < w6.heap.size→w6.heap[b]?=some (.cells cs t (0,0))→t≠67→w7.heap[b]?=w6.heap[b]?:=fun b cs t hb he ht=>h7.block b hb fun e=>by
  obtain ⟨a1,a2,cur,a3⟩:=hob b e.symm
  have:=k1 b a2 (by omega)
  rw [he,a3] at this
  simp only [Option.some.injEq,Obj.cells.injEq] at this
  exact ht this.2.1
 have hsz6:wr.heap.size≤w6.heap.size:=by have:=h5.size;have:=h6.size;omega
 refine ⟨?_,⟨?_,fun f hf=>?_⟩,?_,?_,?_⟩
 ·have e1:w6.heap[I]?=some (.stringIter (str l) (i+1)):=by
   rw [h6.block I (by have:=h5.size;omega),h5.block I (by omega)]
   exact Lib.iterAt_heap wr I (str l) i (i+1) h.it
  rw [h7.block I (by omega) (fun e=>by have:=(hob I e.symm).1;omega)]
  exact e1
 ·rw [List.take_add_one,hc,List.map_append,List.map_append,h.fl.map]
  rfl
 ·rcases List.mem_append.1 hf with hf | hf
  ·exact (h.fl.sto f hf).kept fun b cs t hb _ he ht=>by
    have hn:b≠I:=fun e=>by rw [e,h.it] at he;cases he
    have e6:=k1 b hb hn
    rw [k2 b cs t (by omega) (e6.trans he) ht,e6]
  ·simp only [List.mem_singleton] at hf
   subst hf
   exact hs.kept fun b cs t hb _ he ht=>by
    have e6:=h6.block b hb
    rw [k2 b cs t (Nat.lt_of_lt_of_le hb h6.size) (e6.trans he) ht,e6]
 ·rw [List.length_append,h.len];rfl
 ·rw [flF_app]
  have:flF [⟨letK c.toNat,letX o c.toNat,fn,cp⟩]=cF ⟨letK c.toNat,letX o c.toNat,fn,cp⟩:=by simp [flF]
  rw [this]
  exact ho
 ·have l1:Below I w3 (wr.iterAt I (str l) (i+1)):=Lib.below_iterAt h.low (Nat.le_refl _) _ _
  have l2:=(l1.trans (h5.mono (by omega))).trans (h6.mono (by have:=h5.size;omega))
  exact l2.grown h7 (by omega) fun b hb=>by have:=(hob b hb).1;omega
theorem lett_ascii {k:Nat} {c:UInt8} (h:c∈lettersO k):c.toNat < 128:=by
 rcases let_cases h with ⟨rfl,_⟩ | ⟨rfl,_⟩ | ⟨rfl,_⟩ | rfl | rfl | rfl | rfl | rfl | rfl | rfl <;> decide
theorem lett_len (k:Nat):(lettersO k).length≤5:=by
 by_cases hk:1≤k∧k≤18
 ·rcases od.eighteen hk with rfl | rfl | rfl | rfl | rfl | rfl | rfl | rfl | rfl | rfl | rfl | rfl | rfl | rfl | rfl | rfl | rfl | rfl <;> decide
 ·rw [(no_word hk).2];decide
set_option maxRecDepth 100000 in
set_option maxHeartbeats 8000000 in
theorem ofields_any (bo:Nat) (o:Ord) (g:Gh) (w:World) (ho:OrdB w bo o g) (hw:OW o) (hL:LaidU w):Calls Tryz.prog 29 #[.pointer (some ⟨bo,0,none⟩)] w (FieldsT bo o g w):=by
 have HO:=Lib.hid ho
 have HOW:=Lib.hid hw
 have HL:=Lib.hid hL
 have hlt:=ho.lt
 have c0:w.cell? ⟨bo,0,none⟩=some (.int .u8 (o.kind:Nat)):=BoxA.cell ho 0 _
 have HF:=Lib.hid (ofind_any o.kind hw.kind w)
 obtain ⟨l,hl⟩:∃ l,lettersO o.kind=l:=⟨_,rfl⟩
 have HLL:=Lib.hid hl
 have hll:l.length≤5:=by rw [←hl];exact lett_len _
 have HAS:=Lib.hid (fun (c:UInt8) (hc:c∈l)=>lett_ascii (k:=o.kind) (by rw [hl];exact hc))
 unfold FindO rowV2 at HF
 rw [hl] at HF
 clear ho hw hL hl
 go_enter Tryz.func29,Tryz.ntmps29
 go_upto_region 2 with (first
  | (go_at_call 28;((with_reducible refine HF.out.mono ?_);rintro e w1 ⟨rfl,hb⟩);have HB:=Lib.hid hb;clear hb)
  | (refine wpList_store_row rfl _ _ _ rfl w1.heap.size #[.string (str (wordO o.kind)),.string (str l)] rfl rfl _ _ (BoxA.new w1 _ _) (by kernel_rfl) rfl (by kernel_rfl) ?_))
 obtain ⟨w2,hw2,hb2,hl2⟩:∃ W,(w1.alloc (.cells #[.string { data:=#[] },.string { data:=#[] }] 60)).setRow w1.heap.size #[.string (str (wordO o.kind)),.string (str l)]=W∧BoxA W w1.heap.size 60 #[.string (str (wordO o.kind)),.string (str l)]∧Below w1.heap.size w1 W :=
  ⟨_,rfl,setRow_heap _ _ _ _ _ _ (BoxA.new w1 _ _),below_setRow ((Below.refl _ w1).alloc (Nat.le_refl _) _) (Nat.le_refl _) _⟩
 rw [hw2]
 have HB2:=Lib.hid hb2
 have HLW2:=Lib.hid (HB.out.trans (hl2.mono HB.out.size))
 have hbx:=Lib.hid (fun (W:World) (hb:Below w2.heap.size w2 W)=>(show W.cell? ⟨w1.heap.size,1,none⟩=some (.string (str l)) from (hb2.next hb).cell 1 _))
 have hb1:=hb2.lt
 clear hw2 hl2 hb2 c0
 generalize w1.heap.size=R at *
 go_upto_region 3 with (go_at_call 50;((with_reducible refine (letters_any bo _).mono ?_);rintro e w3 ⟨b,c,rfl,hm,hbb,hcc,hb⟩);have HM:=Lib.hid hm;have HB3:=Lib.hid hb;clear hm hb hbb hcc)
 have c1:=hbx.out _ HB3.out
 have hR:=Nat.lt_of_lt_of_le hb1 HB3.out.size
 have HW3:=Lib.hid (HLW2.out.trans (HB3.out.mono HLW2.out.size))
 go_upto_region 5 with fail
 have FI0:=Lib.hid (show OFI w3 w3.heap.size bo o g l 0 (.slice none 0 0) [] (w3.alloc (.stringIter (str l) 0)) from
  ⟨World.iter_heap w3 (str l) 0,⟨rfl,fun f hf=>by cases hf⟩,rfl,World.ownsRow_nil _ _ _ _,(Below.refl _ w3).alloc (Nat.le_refl _) _⟩)
 have HLEN:=Lib.hid (str_size l)
 obtain ⟨I,hI⟩:∃ I,w3.heap.size=I:=⟨_,rfl⟩
 rw [hI] at FI0 ⊢
 have HI:=Lib.hid hI
 clear hI c1 hR hb1
 go_loopw [6] (fun s6 wr=>∃ (i:Nat) (v:Value) (L:List FE),s6=v∧i≤l.length∧Aside (OFI w3 I bo o g l i v L wr)) (fun _ wr=>(str l).size - wr.iterPos I)
 case atStart=>exact ⟨0,_,[],rfl,Nat.zero_le _,FI0.out⟩
 case round =>
  obtain ⟨i,v,L,h6,hil,hfi⟩:=hrel
  replace h6:=h6.symm
  subst h6
  have FR:=Lib.hid (show OFI w3 I bo o g l i v L wr from hfi)
  have hit:wr.heap[I]?=some (.stringIter (str l) i):=FR.out.it
  have hsz:I < wr.heap.size:=(Array.getElem?_eq_some_iff.1 hit).1
  clear hfi FI0
  by_cases hp:i < l.length
  ·obtain ⟨c1,hc1⟩:∃ c1,l[i]?=some c1:=⟨_,List.getElem?_eq_getElem hp⟩
   have hcm:c1∈l:=List.mem_of_getElem? hc1
   have hp2:i < (str l).size:=by rw [HLEN.out];exact hp
   have hg:=get_str l i hp2
   have hcg:l[i]'hp=c1:=(List.getElem?_eq_some_iff.1 hc1).2
   rw [hcg] at hg
   have ha:=HAS.out c1 hcm
   have hnx:∀ ty,(Instr.next (.pointer (some ⟨I,0,none⟩)) true ty).run Tryz.prog wr=.ok (.tuple #[.bool true,.int .i64 (i:Int),.int .i32 (c1.toNat:Int)]) (wr.iterAt I (str l) (i+1)):=fun ty=>by
    rw [Lib.run_next_ascii_at wr I (str l) i ty hit hp2 (by omega),hg]
   have hcl:c1∈lettersO o.kind:=by rw [HLL.out];exact hcm
   have hbi:Below I w3 (wr.iterAt I (str l) (i+1)):=Lib.below_iterAt FR.out.low (Nat.le_refl _) _ _
   have hbi2:Below w.heap.size w (wr.iterAt I (str l) (i+1)):=HW3.out.trans (hbi.mono (by have:=HW3.out.size;have:=HI.out;omega))
   have hM4:=HM.out.next (show Below w3.heap.size w3 (wr.iterAt I (str l) (i+1)) by rw [HI.out];exact hbi)
   have hlk:=hM4.look hcl
   have hen:=fun (x:Value) (W:World)=>let_enter hcl x W
   have HCALL:=Lib.hid (let_any c bo o g c1 hcl _ hM4.choose_spec.choose_spec.2.2 (HO.out.next hbi2) HOW.out (HL.out.next hbi2))
   have HC1:=Lib.hid hc1
   have HX4:=Lib.hid hsz
   have FRS:=Lib.hid (fun (w5 w6 w7:World) (v':Value) (fn:FuncId) (cp:Array Value) h1 h2 h3 h4 h5=>FR.out.step (v':=v') (w5:=w5) (w6:=w6) (w7:=w7) (fn:=fn) (cp:=cp) HC1.out (by have:=HI.out;omega) h1 h2 h3 h4 h5)
   have HSZ4:=Lib.hid (show (wr.iterAt I (str l) (i+1)).heap.size=wr.heap.size from Lib.iterAt_size _ _ _ _)
   have HO4:=Lib.hid (show (wr.iterAt I (str l) (i+1)).ownsRow (I+1) 67 3 v i (flF L) from own_same FR.out.own fun b hb=>Lib.iterAt_other _ _ _ _ _ (by have:=(World.ownsRow.lt FR.out.own b hb).1;omega))
   have HIT4:=Lib.hid hit
   have i5:i≤5:=by omega
   unfold clo1 at hlk
   generalize hfn:letN c1.toNat=fn at *
   generalize letK c1.toNat=key at *
   generalize letX o c1.toNat=tx at *
   generalize wr.iterAt I (str l) (i+1)=w4 at *
   unfold LetT FldT at HCALL
   clear hM4 hbi hbi2 hit hc1 hcm hg hcg hcl hfn
   go_wp2_with (first
    | (go_at_fn fn;((with_reducible refine HCALL.out.mono ?_);rintro e w5 ⟨f1,cp,rfl,hs,hb⟩);have HS5:=Lib.hid hs;have HB5:=Lib.hid hb;have HO5:=Lib.hid (show w5.ownsRow (I+1) 67 3 v i (flF L) from own_same HO4.out fun b hb2=>hb.block b (World.ownsRow.lt HO4.out b hb2).2);have HC5:=Lib.hid (show ∀ j u,(cF ⟨key,tx,f1,cp⟩)[j]?=some u→(w5.alloc (.cells #[.string (str key),.string (str tx),.func (.func f1) #[] cp] 67)).cell? ((⟨w5.heap.size,0,none⟩:Addr).add j)=some u from row_cells' w5 (cF ⟨key,tx,f1,cp⟩) 67);have HB6:=Lib.hid (show Below w5.heap.size w5 (w5.alloc (.cells #[.string (str key),.string (str tx),.func (.func f1) #[] cp] 67)) from (Below.refl _ _).alloc (Nat.le_refl _) _);have HO6:=Lib.hid (show (w5.alloc (.cells #[.string (str key),.string (str tx),.func (.func f1) #[] cp] 67)).ownsRow (I+1) 67 3 v i (flF L) from own_same HO5.out fun b hb2=>HB6.out.block b (World.ownsRow.lt HO5.out b hb2).2);have HZ6:=Lib.hid (show I+1≤(w5.alloc (.cells #[.string (str key),.string (str tx),.func (.func f1) #[] cp] 67)).heap.size by have h1:=HB6.out.size;have h2:=HB5.out.size;have h3:=HSZ4.out;have h4:=HX4.out;omega);clear hs hb)
    | (at_builtin;refine wpl_own3 eltF rfl _ _ rfl (base:=I+1) (n:=i) (cs:=flF L) (v:=v) rfl HO6.out ⟨w5.heap.size,0,none⟩ (cF ⟨key,tx,f1,cp⟩) rfl HC5.out rfl (cF_one _) (by omega) (by decide) HZ6.out ?_;intro gb cb w7 h1 h2;have F7:=Lib.hid (FRS.out w5 _ w7 _ f1 cp HB5.out HS5.out HB6.out h2 h1);clear h1 h2))
   go_roundw
   case rel=>exact ⟨i+1,_,_,rfl,by omega,F7.out⟩
   case measure =>
    simp only [World.iterPos,F7.out.it,HIT4.out]
    omega
  ·have hnx:∀ ty,(Instr.next (.pointer (some ⟨I,0,none⟩)) true ty).run Tryz.prog wr=_:=fun ty=>Lib.run_next_end_at wr I (str l) i ty hit (by rw [HLEN.out];exact hp)
   obtain rfl:i=l.length:=by omega
   clear hit
   go_wp2
   go_ret
   refine ⟨v,L,rfl,⟨?_,FR.out.fl.sto⟩,?_,HW3.out.trans (FR.out.low.mono (by have:=HW3.out.size;have:=HI.out;omega))⟩
   ·rw [FR.out.fl.map,List.take_length,← HLL.out,letters_fs]
   ·rw [FR.out.len]
    exact own_base2 FR.out.own (by have:=HW3.out.size;have:=HI.out;omega)
end Go.Proofs.YtekcjfdllclphaaGreatDoor.gn
end
section
set_option linter.unusedVariables false
set_option linter.unusedSimpArgs false
namespace Go.Proofs.YtekcjfdllclphaaGreatDoor.gn
open Go.RowKit
open Go.Proofs.YtekcjfdllclphaaGreatDoor.un
open Go.Proofs.YtekcjfdllclphaaGreatDoor.di
open Go.Proofs.YtekcjfdllclphaaGreatDoor.sp (Slip)
theorem box_end (w:World) (z cs:Array Value) (t:TypeId):∃ W,(w.alloc (.cells z t)).setRow w.heap.size cs=W∧BoxA W w.heap.size t cs∧Below w.heap.size w W :=
 ⟨_,rfl,setRow_heap _ _ _ _ _ _ (BoxA.new w t z),below_setRow ((Below.refl _ w).alloc (Nat.le_refl _) _) (Nat.le_refl _) _⟩
end Go.Proofs.YtekcjfdllclphaaGreatDoor.gn
end
section
set_option linter.unusedVariables false
namespace Go.Proofs.YtekcjfdllclphaaGreatDoor.sp
open Go.Proofs.YtekcjfdllclphaaGreatDoor.un
open Go.Proofs.YtekcjfdllclphaaGreatDoor.di
theorem mapM_snoc {α β:Type} (f:α→Option β):∀ (l:List α) (a:α),(l++[a]).mapM f=match l.mapM f,f a with
  | some A,some b=>some (A++[b])
  | _,_=>none
 | [],a=>by
  cases h:f a <;> simp [h]
 | x::l,a=>by
  rw [List.cons_append,List.mapM_cons,mapM_snoc f l a,List.mapM_cons]
  cases f x with
  | none=>rfl
  | some y =>
   cases l.mapM f with
   | none=>rfl
   | some A =>
    cases f a with
    | none=>rfl
    | some b=>rfl
end Go.Proofs.YtekcjfdllclphaaGreatDoor.sp
end
section
set_option linter.unusedVariables false
set_option linter.unusedSimpArgs false
namespace Go.Proofs.YtekcjfdllclphaaGreatDoor.gn
open Go.RowKit
open Go.Proofs.YtekcjfdllclphaaGreatDoor.un
open Go.Proofs.YtekcjfdllclphaaGreatDoor.di
open Go.Proofs.YtekcjfdllclphaaGreatDoor.sp (Slip)
def zz:Array Value:=#[.string { data:=#[] },.int .i64 0,.int .i64 0,.int .i64 0,.slice none 0 0,.int .i64 0,.int .i64 0,.int .i64 0,.string { data:=#[] },.slice none 0 0,.slice none 0 0,.slice none 0 0]
def gA (v:Value):Gh:=⟨v,.slice none 0 0,.slice none 0 0,.slice none 0 0⟩
structure FX (P:Nat) (w0:World) (gp:Nat) (PL:List Tx) (x:Slip) (v:Value) (W:World):Prop where
 pr:BoxA W P 27 zz
 bx:BoxA W (P+1) 27 (scs x (gA v))
 row:W.ownsRow (P+2) 88 2 v x.after.length (flA x.after)
 low:Below P w0 W
 hz:P+2≤W.heap.size
 em:x.make=[]∧x.drop=[]∧x.use=[]
 ps:Prts W gp 0 PL
 hg:gp≠P+1
 ho:v.ownBlock≠some gp
section
variable {P : Nat} {w0 : World} {gp : Nat} {PL : List Tx} {x y : Slip} {v : Value} {W W' : World}
theorem FX.put (h:FX P w0 gp PL x v W) (j:Nat) (u:Value) (hc:(scs x (gA v)).setIfInBounds j u=scs y (gA v)) (ha:y.after=x.after) (hm:y.make=x.make) (hd:y.drop=x.drop) (hu:y.use=x.use):FX P w0 gp PL y v (W.setCell ⟨P+1,j,none⟩ u):=by
 have hbut:But (P+1) W (W.setCell ⟨P+1,j,none⟩ u):=(But.refl _ _).setCell j u
 have hz:=h.hz
 refine ⟨h.pr.but hbut (by omega),?_,?_,h.low.trans (hbut.low (by omega) (by omega)),by rw [World.size_setCell];exact hz,?_,h.ps.but hbut h.hg,h.hg,h.ho⟩
 ·rw [←hc];exact h.bx.set j u
 ·rw [ha];exact own_same h.row fun b hb=>Below.heap_setCell _ _ _ _ (by have:=(World.ownsRow.lt h.row b hb).1;simp only;omega)
 ·rw [hm,hd,hu];exact h.em
end
end Go.Proofs.YtekcjfdllclphaaGreatDoor.gn
end
