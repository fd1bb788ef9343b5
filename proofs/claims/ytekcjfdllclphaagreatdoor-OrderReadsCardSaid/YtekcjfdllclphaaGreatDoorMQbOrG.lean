/- The contract of letters: the map of the closures; letters and fields. (Written by gen_orG.py.) -/
import Derived.Test.YtekcjfdllclphaaGreatDoorMQbOrE
import Derived.Test.YtekcjfdllclphaaGreatDoorMQbOrR
import Derived.Test.YtekcjfdllclphaaGreatDoorMQbSlJ
import Derived.Shelf.Abstract
import Derived.Deep.LoopGhost
import Derived.Test.YtekcjfdllclphaaGreatDoorMQbGenLoad
import Derived.Test.YtekcjfdllclphaaGreatDoorMQbSlAp
set_option linter.unusedVariables false
set_option linter.unusedSimpArgs false
section
namespace Go.Proofs.YtekcjfdllclphaaGreatDoor.gn
open Go.RowKit
open Go.Proofs.YtekcjfdllclphaaGreatDoor.un
open Go.Proofs.YtekcjfdllclphaaGreatDoor.di
open Go.Proofs.YtekcjfdllclphaaGreatDoor.sp (Slip within? okW jobW userK)
open Go.Proofs.YtekcjfdllclphaaGreatDoor.od (Ord okO stO numV sizV resK badW nK lo hi fsO keysO hasJ hasN hasU hasP)
def letN:Nat→FuncId
 | 116=>79
 | 113=>81
 | 109=>82
 | 106=>83
 | 114=>84
 | 97=>86
 | 117=>87
 | 110=>89
 | 112=>90
 | 99=>91
 | _=>0
def letK:Nat→Tx
 | 116=>nK
 | 113=>nK
 | 109=>nK
 | 106=>jobW
 | 114=>resK
 | 97=>accK
 | 117=>userK
 | 110=>nameK
 | 112=>poolK
 | 99=>capK
 | _=>[]
def letX (o:Ord):Nat→Tx
 | 116=>txt o.n
 | 113=>txt o.n
 | 109=>txt o.n
 | 106=>txt o.job
 | 114=>if o.yes then okW else badW
 | 97=>if o.yes then pubV else priV
 | 117=>o.user
 | 110=>o.name
 | 112=>o.pool
 | 99=>stxt o.size
 | _=>[]
def letF (o:Ord) (c:UInt8):Tx × Tx:=(letK c.toNat,letX o c.toNat)
theorem letters_fs (o:Ord):(lettersO o.kind).map (letF o)=fsO o:=by
 obtain ⟨k,job,n,name,pool,user,size,yes,slip⟩:=o
 show (lettersO k).map _=_
 by_cases h:1≤k∧k≤18
 ·rcases od.eighteen h with rfl | rfl | rfl | rfl | rfl | rfl | rfl | rfl | rfl | rfl | rfl | rfl | rfl | rfl | rfl | rfl | rfl | rfl <;> rfl
 ·rw [(no_word h).2]
  have h1:hasJ k=false:=by unfold hasJ;rw [decide_eq_false];omega
  have h2:hasN k=false:=by unfold hasN;rw [decide_eq_false];omega
  have h3:hasU k=false:=by unfold hasU;rw [decide_eq_false];omega
  have h4:hasP k=false:=by unfold hasP;rw [decide_eq_false];omega
  unfold fsO
  dsimp only
  rw [h1,h2,h3,h4,if_neg (show ¬ k=7 by omega),if_neg (show ¬ k=15 by omega),if_neg (show ¬ k=15 by omega)]
  rfl
theorem let_cases {k:Nat} {c:UInt8} (h:c∈lettersO k):(c=116∧k=1)∨(c=113∧k=6)∨(c=109∧9≤k∧k≤12)∨c=106∨c=114∨c=97∨c=117∨c=110∨c=112∨c=99:=by
 by_cases hk:1≤k∧k≤18
 ·rcases od.eighteen hk with rfl | rfl | rfl | rfl | rfl | rfl | rfl | rfl | rfl | rfl | rfl | rfl | rfl | rfl | rfl | rfl | rfl | rfl <;> simp [lettersO] at h <;> first | (subst h;simp;done) | (rcases h with rfl | rfl | rfl | rfl | rfl <;> simp;done) | (rcases h with rfl | rfl <;> simp;done)
 ·rw [(no_word hk).2] at h
  cases h
theorem let_any (c0 bo:Nat) (o:Ord) (g:Gh) (c:UInt8) (hc:c∈lettersO o.kind) (w:World) (hp:PtrO w c0 bo) (ho:OrdB w bo o g) (hw:OW o) (hL:LaidU w):Calls Tryz.prog (letN c.toNat) #[.pointer (some ⟨c0,0,none⟩)] w (LetT bo o.kind g (letK c.toNat) (letX o c.toNat) w):=by
 rcases let_cases hc with ⟨rfl,hk⟩ | ⟨rfl,hk⟩ | ⟨rfl,hk⟩ | rfl | rfl | rfl | rfl | rfl | rfl | rfl
 ·exact let_t c0 bo o.kind (by rw [hk];rfl) (by rw [hk];rfl) o g w hp ho hw hL
 ·exact let_q c0 bo o.kind (by rw [hk];rfl) (by rw [hk];rfl) o g w hp ho hw hL
 ·exact let_m c0 bo o.kind (by unfold lo;rw [if_neg (by omega)]) (by unfold hi;rw [if_neg (by omega),if_neg (by omega)]) o g w hp ho hw hL
 ·exact let_j c0 bo o.kind o g w hp ho hw hL
 ·exact let_r c0 bo o.kind o g w hp ho hw hL
 ·exact let_a c0 bo o.kind o g w hp ho hw hL
 ·exact let_u c0 bo o.kind o g w hp ho hw hL
 ·exact let_n c0 bo o.kind o g w hp ho hw hL
 ·exact let_p c0 bo o.kind o g w hp ho hw hL
 ·exact let_c c0 bo o.kind o g w hp ho hw hL
theorem let_enter {k:Nat} {c:UInt8} (hc:c∈lettersO k) (x:Value) (W:World):(callFunc (letN c.toNat) #[x]).run Tryz.prog W=.ok (.enter (letN c.toNat) #[x]) W:=by
 rcases let_cases hc with ⟨rfl,_⟩ | ⟨rfl,_⟩ | ⟨rfl,_⟩ | rfl | rfl | rfl | rfl | rfl | rfl | rfl <;> kernel_rfl
def clo1 (fn:FuncId) (c:Nat):Value:=.func (.func fn) #[] #[.pointer (some ⟨c,0,none⟩)]
def LetM (w:World) (b c bo:Nat):Prop:=∃ n f,MapR w b n f∧(∀ (k:Nat) (x:UInt8),x∈lettersO k→f (x.toNat:Int)=some (clo1 (letN x.toNat) c))∧PtrO w c bo
theorem LetM.next {w w':World} {b c bo:Nat} (h:LetM w b c bo) (hb:Below w.heap.size w w'):LetM w' b c bo:=by
 obtain ⟨n,f,h1,h2,h3⟩:=h
 exact ⟨n,f,h1.next hb,h2,h3.next hb⟩
theorem zeroLF (W:World):(zeroValue 95).run Tryz.prog W=.ok .nilFunc W:=by kernel_rfl
theorem LetM.look {w:World} {b c bo:Nat} (h:LetM w b c bo) {k:Nat} {x:UInt8} (hx:x∈lettersO k):(Instr.lookup 93 (.map (some b)) (.int .i32 (x.toNat:Int)) false).run Tryz.prog w=.ok (clo1 (letN x.toNat) c) w:=by
 obtain ⟨n,f,h1,h2,_⟩:=h
 have hw:(Lit.int .i32 (x.toNat:Int)).wf=true:=by
  rcases let_cases hx with ⟨rfl,_⟩ | ⟨rfl,_⟩ | ⟨rfl,_⟩ | rfl | rfl | rfl | rfl | rfl | rfl | rfl <;> decide
 rw [h1.look Tryz.underlying93 (zeroLF w) hw,h2 k x hx]
 rfl
set_option maxRecDepth 100000 in
set_option maxHeartbeats 3200000 in
theorem letters_any (bo:Nat) (w:World):Calls Tryz.prog 50 #[.pointer (some ⟨bo,0,none⟩)] w fun e w'=>∃ b c,e=.returned (.map (some b))∧LetM w' b c bo∧w.heap.size≤b∧w.heap.size≤c∧Below w.heap.size w w':=by
 have ht:=Tryz.underlying93
 have p0:PtrO (w.alloc (.cells #[.pointer (some ⟨bo,0,none⟩)] 65)) w.heap.size bo:=BoxA.new _ _ _
 have b0:Below w.heap.size w (w.alloc (.cells #[.pointer (some ⟨bo,0,none⟩)] 65)):=(Below.refl _ w).alloc (Nat.le_refl _) _
 obtain ⟨z,hz⟩:∃ z,w.alloc (.cells #[.pointer (some ⟨bo,0,none⟩)] 65)=z:=⟨_,rfl⟩
 have sz:z.heap.size=w.heap.size+1:=by rw [←hz];simp
 rw [hz] at p0 b0
 have y0:Below z.heap.size z (z.alloc (.map #[] 0)):=(Below.refl _ _).alloc (Nat.le_refl _) _
 have m0:=MapR.new z
 have P0:=p0.next y0
 have B0:Below w.heap.size w (z.alloc (.map #[] 0)):=b0.trans (y0.mono b0.size)
 obtain ⟨v1,r1,m1,g1⟩:=m0.put (x:=116) ht (by decide) (by decide) (clo1 79 w.heap.size)
 obtain ⟨v2,r2,m2,g2⟩:=m1.put (x:=113) ht (by decide) (by decide) (clo1 81 w.heap.size)
 obtain ⟨v3,r3,m3,g3⟩:=m2.put (x:=109) ht (by decide) (by decide) (clo1 82 w.heap.size)
 obtain ⟨v4,r4,m4,g4⟩:=m3.put (x:=106) ht (by decide) (by decide) (clo1 83 w.heap.size)
 obtain ⟨v5,r5,m5,g5⟩:=m4.put (x:=114) ht (by decide) (by decide) (clo1 84 w.heap.size)
 obtain ⟨v6,r6,m6,g6⟩:=m5.put (x:=97) ht (by decide) (by decide) (clo1 86 w.heap.size)
 obtain ⟨v7,r7,m7,g7⟩:=m6.put (x:=117) ht (by decide) (by decide) (clo1 87 w.heap.size)
 obtain ⟨v8,r8,m8,g8⟩:=m7.put (x:=110) ht (by decide) (by decide) (clo1 89 w.heap.size)
 obtain ⟨v9,r9,m9,g9⟩:=m8.put (x:=112) ht (by decide) (by decide) (clo1 90 w.heap.size)
 obtain ⟨v10,r10,m10,g10⟩:=m9.put (x:=99) ht (by decide) (by decide) (clo1 91 w.heap.size)
 have hg:But z.heap.size (z.alloc (.map #[] 0)) v10:=(((((((((g1.trans g2).trans g3).trans g4).trans g5).trans g6).trans g7).trans g8).trans g9).trans g10)
 have HB:=Lib.hid (B0.grown hg B0.size (fun j hj=>by cases hj;rw [sz];omega))
 have HS:=Lib.hid (show LetM v10 z.heap.size w.heap.size bo from
  ⟨_,_,m10,fun k x hx=>by rcases let_cases hx with ⟨rfl,_⟩ | ⟨rfl,_⟩ | ⟨rfl,_⟩ | rfl | rfl | rfl | rfl | rfl | rfl | rfl <;> rfl,BoxA.but P0 hg (by rw [sz];omega)⟩)
 have u1:(Instr.mapUpdate 93 (.map (some (w.heap.size+1))) (.int .i32 116) (.func (.func 79) #[] #[.pointer (some ⟨w.heap.size,0,none⟩)])).run Tryz.prog (z.alloc (.map #[] 0))=.ok () v1:=by rw [←sz];exact r1
 have u2:(Instr.mapUpdate 93 (.map (some (w.heap.size+1))) (.int .i32 113) (.func (.func 81) #[] #[.pointer (some ⟨w.heap.size,0,none⟩)])).run Tryz.prog v1=.ok () v2:=by rw [←sz];exact r2
 have u3:(Instr.mapUpdate 93 (.map (some (w.heap.size+1))) (.int .i32 109) (.func (.func 82) #[] #[.pointer (some ⟨w.heap.size,0,none⟩)])).run Tryz.prog v2=.ok () v3:=by rw [←sz];exact r3
 have u4:(Instr.mapUpdate 93 (.map (some (w.heap.size+1))) (.int .i32 106) (.func (.func 83) #[] #[.pointer (some ⟨w.heap.size,0,none⟩)])).run Tryz.prog v3=.ok () v4:=by rw [←sz];exact r4
 have u5:(Instr.mapUpdate 93 (.map (some (w.heap.size+1))) (.int .i32 114) (.func (.func 84) #[] #[.pointer (some ⟨w.heap.size,0,none⟩)])).run Tryz.prog v4=.ok () v5:=by rw [←sz];exact r5
 have u6:(Instr.mapUpdate 93 (.map (some (w.heap.size+1))) (.int .i32 97) (.func (.func 86) #[] #[.pointer (some ⟨w.heap.size,0,none⟩)])).run Tryz.prog v5=.ok () v6:=by rw [←sz];exact r6
 have u7:(Instr.mapUpdate 93 (.map (some (w.heap.size+1))) (.int .i32 117) (.func (.func 87) #[] #[.pointer (some ⟨w.heap.size,0,none⟩)])).run Tryz.prog v6=.ok () v7:=by rw [←sz];exact r7
 have u8:(Instr.mapUpdate 93 (.map (some (w.heap.size+1))) (.int .i32 110) (.func (.func 89) #[] #[.pointer (some ⟨w.heap.size,0,none⟩)])).run Tryz.prog v7=.ok () v8:=by rw [←sz];exact r8
 have u9:(Instr.mapUpdate 93 (.map (some (w.heap.size+1))) (.int .i32 112) (.func (.func 90) #[] #[.pointer (some ⟨w.heap.size,0,none⟩)])).run Tryz.prog v8=.ok () v9:=by rw [←sz];exact r9
 have u10:(Instr.mapUpdate 93 (.map (some (w.heap.size+1))) (.int .i32 99) (.func (.func 91) #[] #[.pointer (some ⟨w.heap.size,0,none⟩)])).run Tryz.prog v9=.ok () v10:=by rw [←sz];exact r10
 rw [←hz] at u1
 have SZ:=Lib.hid sz
 have hmm:=@run_makeMap Tryz.prog
 clear p0 b0 sz y0 m0 P0 B0 r1 r2 r3 r4 r5 r6 r7 r8 r9 r10 m1 m2 m3 m4 m5 m6 m7 m8 m9 m10 g1 g2 g3 g4 g5 g6 g7 g8 g9 g10 hg hz
 go_enter Tryz.func50,Tryz.ntmps50
 go_wp2
 go_ret
 exact ⟨z.heap.size,w.heap.size,by rw [SZ.out];rfl,HS.out,by rw [SZ.out];omega,Nat.le_refl _,HB.out⟩
end Go.Proofs.YtekcjfdllclphaaGreatDoor.gn
end
section
namespace Go.Proofs.YtekcjfdllclphaaGreatDoor.gn
open Go.RowKit
open Go.Proofs.YtekcjfdllclphaaGreatDoor.un
open Go.Proofs.YtekcjfdllclphaaGreatDoor.di
open Go.Proofs.YtekcjfdllclphaaGreatDoor.sp (Slip within? okW jobW userK)
open Go.Proofs.YtekcjfdllclphaaGreatDoor.od (Ord okO stO numV sizV resK badW nK lo hi fsO keysO wordO)
theorem wpl_own3 {t e:TypeId} {z:Value} {size bytes:Nat} (E:EltI t e z size bytes) {w:World} {ops:Array Oper} {rest:List Oper} {o:Oper} {a:Act} {Q:Exit→Act→World→Prop} (hgd:o.guard=none) (s x:Operand)
  (ho:o.op=.call { callee:=.builtin .append,args:=#[s,x],argTypes:=#[t,t] })
  {base n:Nat} {v:Value} {cs:List Value} (hs:a.eval s=v) (hown:w.ownsRow base e size v n cs) (ad:Addr) (ds:List Value) (hx:a.eval x=.slice (some ad) 1 1) (hc:∀ j u,ds[j]?=some u→w.cell? (ad.add j)=some u) (hd:ds.length=size)
  (h1:∀ u∈ds,u.oneCell'=true) (hlen:n≤1000000) (hby:bytes≤100) (hb:base≤w.heap.size)
  (hK:∀ g c w',w'.ownsRow base e size (.slice (some ⟨g,0,none⟩) (n+1) c) (n+1) (cs++ds)→w.grownBy w' v.ownBlock→wpList Tryz.prog ops Q rest (a.put o.dst (.slice (some ⟨g,0,none⟩) (n+1) c)) w') :
  wpList Tryz.prog ops Q (o::rest) a w:=by
 refine wpList_plain hgd fun K hK2=>?_
 obtain ⟨v',w',hrun,r1,r2,r4⟩:=run_own E o.type hown hc (by rw [hd,Nat.one_mul]) h1 (show n+1≤maxLen by unfold maxLen;omega) (by have:(n+1) * bytes≤1000001 * 100:=Nat.mul_le_mul (by omega) hby;omega) hb (show 0 < 1 by decide) (c:=1)
 have hform:∃ g c,v'=.slice (some ⟨g,0,none⟩) (n+1) c:=by
  rcases r1.2 with ⟨_,h0⟩ | ⟨g,cap,cur,e,_⟩
  ·omega
  ·exact ⟨_,_,e⟩
 obtain ⟨g,c,rfl⟩:=hform
 unfold Oper.wp
 simp [execOp,ho,resolve,invoke,builtin,hs,hx,hrun,Result.andThen]
 exact hK2 _ _ (hK g c w' r1 r2)
theorem own_base2 {B B':Nat} {e:TypeId} {size:Nat} {w:World} {v:Value} {n:Nat} {cs:List Value} (h:w.ownsRow B e size v n cs) (hb:B'≤B):w.ownsRow B' e size v n cs:=by
 refine ⟨h.1,?_⟩
 rcases h.2 with h2 | ⟨g,cap,cur,e,hg,r⟩
 ·exact .inl h2
 ·exact .inr ⟨g,cap,cur,e,Nat.le_trans hb hg,r⟩
structure FE where
 key:Tx
 text:Tx
 fn:FuncId
 cp:Array Value
def cF (f:FE):List Value:=[.string (str f.key),.string (str f.text),.func (.func f.fn) #[] f.cp]
def flF (L:List FE):List Value:=L.flatMap cF
theorem flF_app (a b:List FE):flF (a++b)=flF a++flF b:=List.flatMap_append
theorem eltF:EltI 63 67 (.agg #[.string ⟨#[]⟩,.string ⟨#[]⟩,.nilFunc]) 3 40:=elt_of Tryz.underlying63 (by kernel_rfl) rfl (by decide)
theorem cF_one (f:FE):∀ u∈cF f,u.oneCell'=true:=fun u hu=>by
 simp only [cF,List.mem_cons,List.not_mem_nil,or_false] at hu
 rcases hu with rfl | rfl | rfl <;> rfl
structure FlS (w:World) (bo k:Nat) (g:Gh) (fs:List (Tx × Tx)) (L:List FE):Prop where
 map:L.map (fun f=>(f.key,f.text))=fs
 sto:∀ f∈L,StoP w bo k g f.key f.fn f.cp
def FieldsT (bo:Nat) (o:Ord) (g:Gh) (w:World) (e:Ending) (w':World):Prop :=
 ∃ v L,e=.returned v∧FlS w' bo o.kind g (fsO o) L∧w'.ownsRow w.heap.size 67 3 v L.length (flF L)∧Below w.heap.size w w'
structure OFI (w3:World) (I bo:Nat) (o:Ord) (g:Gh) (l:Tx) (i:Nat) (v:Value) (L:List FE) (W:World):Prop where
 it:W.heap[I]?=some (.stringIter (str l) i)
 fl:FlS W bo o.kind g ((l.take i).map (letF o)) L
 len:L.length=i
 own:W.ownsRow (I+1) 67 3 v i (flF L)
 low:Below I w3 W
theorem OFI.step {w3 wr w5 w6 w7:World} {I bo:Nat} {o:Ord} {g:Gh} {l:Tx} {i:Nat} {v v':Value} {L:List FE} (h:OFI w3 I bo o g l i v L wr) {c:UInt8} (hc:l[i]?=some c) {fn:FuncId} {cp:Array Value} (hI:I≤w3.heap.size)
  (h5:Below (wr.iterAt I (str l) (i+1)).heap.size (wr.iterAt I (str l) (i+1)) w5) (hs:StoP w5 bo o.kind g (letK c.toNat) fn cp) (h6:Below w5.heap.size w5 w6) (h7:w6.grownBy w7 v.ownBlock)
  (ho:w7.ownsRow (I+1) 67 3 v' (i+1) (flF L++cF ⟨letK c.toNat,letX o c.toNat,fn,cp⟩)):OFI w3 I bo o g l (i+1) v' (L++[⟨letK c.toNat,letX o c.toNat,fn,cp⟩]) w7:=by
 have hsz:=Lib.iterAt_size wr I (str l) (i+1)
 have hIr:I < wr.heap.size:=(Array.getElem?_eq_some_iff.1 h.it).1
 have hob:∀ b,v.ownBlock=some b→I+1≤b∧b < wr.heap.size∧∃ cur,wr.heap[b]?=some (.cells cur 67 (0,0)):=fun b hb=>⟨(World.ownsRow.lt h.own b hb).1,(World.ownsRow.lt h.own b hb).2,own_cells h.own hb⟩
 have k1:∀ b,b < wr.heap.size→b≠I→w6.heap[b]?=wr.heap[b]?:=fun b hb hn=>((h6.block b (by have:=h5.size;omega)).trans (h5.block b (by omega))).trans (Lib.iterAt_other wr I b (str l) (i+1) hn)
 have k2:∀ b cs t,b < w6.heap.size→w6.heap[b]?=some (.cells cs t (0,0))→t≠67→w7.heap[b]?=w6.heap[b]?:=fun b cs t hb he ht=>h7.block b hb fun e=>by
  obtain ⟨a1,a2,cur,a3⟩:=hob b e.symm
  have:=k1 b a2 (by omega)
  rw [he,a3] at this
  simp only [Option.some.injEq,Obj.cells.injEq] at this
  exact ht this.2.1
 have hsz6:wr.heap.size≤w6.heap.size:=by have:=h5.size;have:=h6.size;omega
 refine ⟨?_,⟨?_,fun f hf=>?_⟩,?_,?_,?_⟩
 ·have e1:w6.heap[I]?=some (.stringIter (str l) (i+1)):=by
   rw [h6.block I (by have:=h5.size;omega),h5.block I (by omega)]
   exact Lib.iterAt_heap wr I (str l) i (i+1) h.it
  rw [h7.block I (by omega) (fun e=>by have:=(hob I e.symm).1;omega)]
  exact e1
 ·rw [List.take_add_one,hc,List.map_append,List.map_append,h.fl.map]
  rfl
 ·rcases List.mem_append.1 hf with hf | hf
  ·exact (h.fl.sto f hf).kept fun b cs t hb _ he ht=>by
    have hn:b≠I:=fun e=>by rw [e,h.it] at he;cases he
    have e6:=k1 b hb hn
    rw [k2 b cs t (by omega) (e6.trans he) ht,e6]
  ·simp only [List.mem_singleton] at hf
   subst hf
   exact hs.kept fun b cs t hb _ he ht=>by
    have e6:=h6.block b hb
    rw [k2 b cs t (Nat.lt_of_lt_of_le hb h6.size) (e6.trans he) ht,e6]
 ·rw [List.length_append,h.len];rfl
 ·rw [flF_app]
  have:flF [⟨letK c.toNat,letX o c.toNat,fn,cp⟩]=cF ⟨letK c.toNat,letX o c.toNat,fn,cp⟩:=by simp [flF]
  rw [this]
  exact ho
 ·have l1:Below I w3 (wr.iterAt I (str l) (i+1)):=Lib.below_iterAt h.low (Nat.le_refl _) _ _
  have l2:=(l1.trans (h5.mono (by omega))).trans (h6.mono (by have:=h5.size;omega))
  exact l2.grown h7 (by omega) fun b hb=>by have:=(hob b hb).1;omega
theorem lett_ascii {k:Nat} {c:UInt8} (h:c∈lettersO k):c.toNat < 128:=by
 rcases let_cases h with ⟨rfl,_⟩ | ⟨rfl,_⟩ | ⟨rfl,_⟩ | rfl | rfl | rfl | rfl | rfl | rfl | rfl <;> decide
theorem lett_len (k:Nat):(lettersO k).length≤5:=by
 by_cases hk:1≤k∧k≤18
 ·rcases od.eighteen hk with rfl | rfl | rfl | rfl | rfl | rfl | rfl | rfl | rfl | rfl | rfl | rfl | rfl | rfl | rfl | rfl | rfl | rfl <;> decide
 ·rw [(no_word hk).2];decide
set_option maxRecDepth 100000 in
set_option maxHeartbeats 8000000 in
theorem ofields_any (bo:Nat) (o:Ord) (g:Gh) (w:World) (ho:OrdB w bo o g) (hw:OW o) (hL:LaidU w):Calls Tryz.prog 29 #[.pointer (some ⟨bo,0,none⟩)] w (FieldsT bo o g w):=by
 have HO:=Lib.hid ho
 have HOW:=Lib.hid hw
 have HL:=Lib.hid hL
 have hlt:=ho.lt
 have c0:w.cell? ⟨bo,0,none⟩=some (.int .u8 (o.kind:Nat)):=BoxA.cell ho 0 _
 have HF:=Lib.hid (ofind_any o.kind hw.kind w)
 obtain ⟨l,hl⟩:∃ l,lettersO o.kind=l:=⟨_,rfl⟩
 have HLL:=Lib.hid hl
 have hll:l.length≤5:=by rw [←hl];exact lett_len _
 have HAS:=Lib.hid (fun (c:UInt8) (hc:c∈l)=>lett_ascii (k:=o.kind) (by rw [hl];exact hc))
 unfold FindO rowV2 at HF
 rw [hl] at HF
 clear ho hw hL hl
 go_enter Tryz.func29,Tryz.ntmps29
 go_upto_region 2 with (first
  | (go_at_call 28;((with_reducible refine HF.out.mono ?_);rintro e w1 ⟨rfl,hb⟩);have HB:=Lib.hid hb;clear hb)
  | (refine wpList_store_row rfl _ _ _ rfl w1.heap.size #[.string (str (wordO o.kind)),.string (str l)] rfl rfl _ _ (BoxA.new w1 _ _) (by kernel_rfl) rfl (by kernel_rfl) ?_))
 obtain ⟨w2,hw2,hb2,hl2⟩:∃ W,(w1.alloc (.cells #[.string { data:=#[] },.string { data:=#[] }] 60)).setRow w1.heap.size #[.string (str (wordO o.kind)),.string (str l)]=W∧BoxA W w1.heap.size 60 #[.string (str (wordO o.kind)),.string (str l)]∧Below w1.heap.size w1 W :=
  ⟨_,rfl,setRow_heap _ _ _ _ _ _ (BoxA.new w1 _ _),below_setRow ((Below.refl _ w1).alloc (Nat.le_refl _) _) (Nat.le_refl _) _⟩
 rw [hw2]
 have HB2:=Lib.hid hb2
 have HLW2:=Lib.hid (HB.out.trans (hl2.mono HB.out.size))
 have hbx:=Lib.hid (fun (W:World) (hb:Below w2.heap.size w2 W)=>(show W.cell? ⟨w1.heap.size,1,none⟩=some (.string (str l)) from (hb2.next hb).cell 1 _))
 have hb1:=hb2.lt
 clear hw2 hl2 hb2 c0
 generalize w1.heap.size=R at *
 go_upto_region 3 with (go_at_call 50;((with_reducible refine (letters_any bo _).mono ?_);rintro e w3 ⟨b,c,rfl,hm,hbb,hcc,hb⟩);have HM:=Lib.hid hm;have HB3:=Lib.hid hb;clear hm hb hbb hcc)
 have c1:=hbx.out _ HB3.out
 have hR:=Nat.lt_of_lt_of_le hb1 HB3.out.size
 have HW3:=Lib.hid (HLW2.out.trans (HB3.out.mono HLW2.out.size))
 go_upto_region 5 with fail
 have FI0:=Lib.hid (show OFI w3 w3.heap.size bo o g l 0 (.slice none 0 0) [] (w3.alloc (.stringIter (str l) 0)) from
  ⟨World.iter_heap w3 (str l) 0,⟨rfl,fun f hf=>by cases hf⟩,rfl,World.ownsRow_nil _ _ _ _,(Below.refl _ w3).alloc (Nat.le_refl _) _⟩)
 have HLEN:=Lib.hid (str_size l)
 obtain ⟨I,hI⟩:∃ I,w3.heap.size=I:=⟨_,rfl⟩
 rw [hI] at FI0 ⊢
 have HI:=Lib.hid hI
 clear hI c1 hR hb1
 go_loopw [6] (fun s6 wr=>∃ (i:Nat) (v:Value) (L:List FE),s6=v∧i≤l.length∧Aside (OFI w3 I bo o g l i v L wr)) (fun _ wr=>(str l).size - wr.iterPos I)
 case atStart=>exact ⟨0,_,[],rfl,Nat.zero_le _,FI0.out⟩
 case round =>
  obtain ⟨i,v,L,h6,hil,hfi⟩:=hrel
  replace h6:=h6.symm
  subst h6
  have FR:=Lib.hid (show OFI w3 I bo o g l i v L wr from hfi)
  have hit:wr.heap[I]?=some (.stringIter (str l) i):=FR.out.it
  have hsz:I < wr.heap.size:=(Array.getElem?_eq_some_iff.1 hit).1
  clear hfi FI0
  by_cases hp:i < l.length
  ·obtain ⟨c1,hc1⟩:∃ c1,l[i]?=some c1:=⟨_,List.getElem?_eq_getElem hp⟩
   have hcm:c1∈l:=List.mem_of_getElem? hc1
   have hp2:i < (str l).size:=by rw [HLEN.out];exact hp
   have hg:=get_str l i hp2
   have hcg:l[i]'hp=c1:=(List.getElem?_eq_some_iff.1 hc1).2
   rw [hcg] at hg
   have ha:=HAS.out c1 hcm
   have hnx:∀ ty,(Instr.next (.pointer (some ⟨I,0,none⟩)) true ty).run Tryz.prog wr=.ok (.tuple #[.bool true,.int .i64 (i:Int),.int .i32 (c1.toNat:Int)]) (wr.iterAt I (str l) (i+1)):=fun ty=>by
    rw [Lib.run_next_ascii_at wr I (str l) i ty hit hp2 (by omega),hg]
   have hcl:c1∈lettersO o.kind:=by rw [HLL.out];exact hcm
   have hbi:Below I w3 (wr.iterAt I (str l) (i+1)):=Lib.below_iterAt FR.out.low (Nat.le_refl _) _ _
   have hbi2:Below w.heap.size w (wr.iterAt I (str l) (i+1)):=HW3.out.trans (hbi.mono (by have:=HW3.out.size;have:=HI.out;omega))
   have hM4:=HM.out.next (show Below w3.heap.size w3 (wr.iterAt I (str l) (i+1)) by rw [HI.out];exact hbi)
   have hlk:=hM4.look hcl
   have hen:=fun (x:Value) (W:World)=>let_enter hcl x W
   have HCALL:=Lib.hid (let_any c bo o g c1 hcl _ hM4.choose_spec.choose_spec.2.2 (HO.out.next hbi2) HOW.out (HL.out.next hbi2))
   have HC1:=Lib.hid hc1
   have HX4:=Lib.hid hsz
   have FRS:=Lib.hid (fun (w5 w6 w7:World) (v':Value) (fn:FuncId) (cp:Array Value) h1 h2 h3 h4 h5=>FR.out.step (v':=v') (w5:=w5) (w6:=w6) (w7:=w7) (fn:=fn) (cp:=cp) HC1.out (by have:=HI.out;omega) h1 h2 h3 h4 h5)
   have HSZ4:=Lib.hid (show (wr.iterAt I (str l) (i+1)).heap.size=wr.heap.size from Lib.iterAt_size _ _ _ _)
   have HO4:=Lib.hid (show (wr.iterAt I (str l) (i+1)).ownsRow (I+1) 67 3 v i (flF L) from own_same FR.out.own fun b hb=>Lib.iterAt_other _ _ _ _ _ (by have:=(World.ownsRow.lt FR.out.own b hb).1;omega))
   have HIT4:=Lib.hid hit
   have i5:i≤5:=by omega
   unfold clo1 at hlk
   generalize hfn:letN c1.toNat=fn at *
   generalize letK c1.toNat=key at *
   generalize letX o c1.toNat=tx at *
   generalize wr.iterAt I (str l) (i+1)=w4 at *
   unfold LetT FldT at HCALL
   clear hM4 hbi hbi2 hit hc1 hcm hg hcg hcl hfn
   go_wp2_with (first
    | (go_at_fn fn;((with_reducible refine HCALL.out.mono ?_);rintro e w5 ⟨f1,cp,rfl,hs,hb⟩);have HS5:=Lib.hid hs;have HB5:=Lib.hid hb;have HO5:=Lib.hid (show w5.ownsRow (I+1) 67 3 v i (flF L) from own_same HO4.out fun b hb2=>hb.block b (World.ownsRow.lt HO4.out b hb2).2);have HC5:=Lib.hid (show ∀ j u,(cF ⟨key,tx,f1,cp⟩)[j]?=some u→(w5.alloc (.cells #[.string (str key),.string (str tx),.func (.func f1) #[] cp] 67)).cell? ((⟨w5.heap.size,0,none⟩:Addr).add j)=some u from row_cells' w5 (cF ⟨key,tx,f1,cp⟩) 67);have HB6:=Lib.hid (show Below w5.heap.size w5 (w5.alloc (.cells #[.string (str key),.string (str tx),.func (.func f1) #[] cp] 67)) from (Below.refl _ _).alloc (Nat.le_refl _) _);have HO6:=Lib.hid (show (w5.alloc (.cells #[.string (str key),.string (str tx),.func (.func f1) #[] cp] 67)).ownsRow (I+1) 67 3 v i (flF L) from own_same HO5.out fun b hb2=>HB6.out.block b (World.ownsRow.lt HO5.out b hb2).2);have HZ6:=Lib.hid (show I+1≤(w5.alloc (.cells #[.string (str key),.string (str tx),.func (.func f1) #[] cp] 67)).heap.size by have h1:=HB6.out.size;have h2:=HB5.out.size;have h3:=HSZ4.out;have h4:=HX4.out;omega);clear hs hb)
    | (at_builtin;refine wpl_own3 eltF rfl _ _ rfl (base:=I+1) (n:=i) (cs:=flF L) (v:=v) rfl HO6.out ⟨w5.heap.size,0,none⟩ (cF ⟨key,tx,f1,cp⟩) rfl HC5.out rfl (cF_one _) (by omega) (by decide) HZ6.out ?_;intro gb cb w7 h1 h2;have F7:=Lib.hid (FRS.out w5 _ w7 _ f1 cp HB5.out HS5.out HB6.out h2 h1);clear h1 h2))
   go_roundw
   case rel=>exact ⟨i+1,_,_,rfl,by omega,F7.out⟩
   case measure =>
    simp only [World.iterPos,F7.out.it,HIT4.out]
    omega
  ·have hnx:∀ ty,(Instr.next (.pointer (some ⟨I,0,none⟩)) true ty).run Tryz.prog wr=_:=fun ty=>Lib.run_next_end_at wr I (str l) i ty hit (by rw [HLEN.out];exact hp)
   obtain rfl:i=l.length:=by omega
   clear hit
   go_wp2
   go_ret
   refine ⟨v,L,rfl,⟨?_,FR.out.fl.sto⟩,?_,HW3.out.trans (FR.out.low.mono (by have:=HW3.out.size;have:=HI.out;omega))⟩
   ·rw [FR.out.fl.map,List.take_length,← HLL.out,letters_fs]
   ·rw [FR.out.len]
    exact own_base2 FR.out.own (by have:=HW3.out.size;have:=HI.out;omega)
end Go.Proofs.YtekcjfdllclphaaGreatDoor.gn
end
section
namespace Go.Proofs.YtekcjfdllclphaaGreatDoor.gn
open Go.RowKit
open Go.Proofs.YtekcjfdllclphaaGreatDoor.un
open Go.Proofs.YtekcjfdllclphaaGreatDoor.di
def wd (k:Nat):Tx:=if 1≤k∧k≤6 then kw k else []
set_option maxRecDepth 100000 in
set_option maxHeartbeats 1600000 in
theorem dword_any (k:Nat) (h:1≤k∧k≤6) (w:World):Calls Tryz.prog 75 #[.int .u8 (k:Nat)] w (Told (.string (str (kw k))) w):=by
 have HB:=Lib.hid (show Below w.heap.size w (w.alloc (.cells #[.string { data:=#[] },.string { data:=#[106,111,98,100,119] },.string { data:=#[115,116,97,103,101,95,105,110] },.string { data:=#[115,116,97,103,101,95,111,117,116] },.string { data:=#[99,114,101,97,116,101,95,112,101,114,115,105,115,116,101,110,116] },.string { data:=#[100,101,115,116,114,111,121,95,112,101,114,115,105,115,116,101,110,116] },.string { data:=#[117,115,101,95,112,101,114,115,105,115,116,101,110,116] }] 9)) from (Below.refl _ _).alloc (Nat.le_refl _) _)
 rcases six h with rfl | rfl | rfl | rfl | rfl | rfl
 all_goals
  go_enter Tryz.func75,Tryz.ntmps75
  go_wp2
  go_ret
  exact ⟨rfl,HB.out⟩
set_option maxRecDepth 100000 in
theorem dasks_any (k:Nat) (h:1≤k∧k≤6) (w:World):Calls Tryz.prog 76 #[.int .u8 (k:Nat)] w fun e w'=>e=.returned (.tuple #[.bool (hasSize k),.bool (hasName k),.bool (hasPool k)])∧w=w':=by
 rcases six h with rfl | rfl | rfl | rfl | rfl | rfl
 all_goals
  go_enter Tryz.func76,Tryz.ntmps76
  go_wp2
  go_ret3
  exact ⟨rfl,rfl⟩
structure WS (l:Tx) (i f:Nat) (S:List Tx):Prop where
 fi:f≤i
 il:i≤l.length
 sp:words l=S++words (l.drop f)
 no:(32:UInt8) ∉ (l.drop f).take (i - f)
theorem WS.start (l:Tx):WS l 0 0 []:=⟨Nat.le_refl _,Nat.zero_le _,rfl,by simp⟩
theorem WS.fin {l:Tx} {f:Nat} {S:List Tx} (h:WS l l.length f S):words l=S++[l.drop f]:=by
 have hn:=h.no
 rw [List.take_of_length_le (by rw [List.length_drop];exact Nat.le_refl _)] at hn
 rw [h.sp,words_one _ hn]
theorem WS.split {l:Tx} {i f:Nat} (hfi:f≤i) (hi:i < l.length):l.drop f=(l.drop f).take (i - f)++l[i]::l.drop (i+1):=by
 have h1:=List.take_append_drop (i - f) (l.drop f)
 rw [List.drop_drop,show f+(i - f)=i by omega,List.drop_eq_getElem_cons hi] at h1
 exact h1.symm
theorem WS.hit {l:Tx} {i f:Nat} {S:List Tx} (h:WS l i f S) (hi:i < l.length) (hb:l[i]=32):WS l (i+1) (i+1) (S++[(l.drop f).take (i - f)]):=by
 refine ⟨Nat.le_refl _,by omega,?_,by simp⟩
 have hs:=WS.split h.fi hi
 rw [hb] at hs
 rw [h.sp,hs,words_app _ _ h.no,List.append_assoc]
 rw [←hs]
 rfl
theorem WS.miss {l:Tx} {i f:Nat} {S:List Tx} (h:WS l i f S) (hi:i < l.length) (hb:l[i]≠32):WS l (i+1) f S:=by
 have hf:=h.fi
 refine ⟨by omega,by omega,h.sp,?_⟩
 have hs:=WS.split h.fi hi
 have ht:(l.drop f).take (i+1 - f)=(l.drop f).take (i - f)++[l[i]]:=by
  rw [show i+1 - f=(i - f)+1 by omega,List.take_add_one,List.getElem?_drop,show f+(i - f)=i by omega,List.getElem?_eq_getElem hi]
  rfl
 rw [ht]
 intro hm
 rcases List.mem_append.1 hm with hm | hm
 ·exact h.no hm
 ·simp only [List.mem_singleton] at hm
  exact hb hm.symm
def Wds (B:Nat) (w:World) (v:Value) (L:List Tx):Prop:=∃ g cap,v=.slice (some ⟨g,0,none⟩) L.length cap∧Prts w g 0 L∧L.length≤cap∧B≤g
theorem Ss.wds {w:World} {B:Nat} {v:Value} {L:List Tx} (h:Ss w B v L) (hL:L≠[]):Wds B w v L:=by
 have hc:=fun g=>World.ownsRow.cells h (g:=g)
 have hlt:=World.ownsRow.lt h
 rcases h.2 with ⟨rfl,hn⟩ | ⟨g,cap,cur,rfl,hB,_,h1,h2,_⟩
 ·exact absurd (List.eq_nil_of_length_eq_zero hn) hL
 ·refine ⟨g,cap,rfl,⟨(hlt g rfl).2,fun i x hx=>?_⟩,h1,hB⟩
  have hadd:(⟨g,0,none⟩:Addr).add i=⟨g,0+i,none⟩:=by unfold Addr.add;split <;> simp_all
  have:=hc g rfl i (.string (str x)) (by simp [hx])
  rwa [hadd] at this
set_option maxRecDepth 100000 in
set_option maxHeartbeats 6400000 in
theorem Words_any (l:Tx) (hl:l.length≤100000) (w:World):Calls Tryz.prog 74 #[.string (str l)] w fun e w'=>∃ v,e=.returned v∧Wds w.heap.size w' v (words l)∧Below w.heap.size w w':=by
 have hz:=str_size l
 have hz0:(str l).size≤100000:=by omega
 have HZ:=Lib.hid hz
 have HS0:=Lib.hid (WS.start l)
 clear hz
 go_enter Tryz.func74,Tryz.ntmps74
 go_wp2
 go_loopw [3,4,5] (fun s3 s4 s5 wr=>∃ (i f:Nat) (S:List Tx) (A:Option Addr) (c n:Nat),s3=.slice A n c∧s4=.int .i64 f∧s5=.int .i64 i∧i≤(str l).size+1∧f≤i∧n≤i∧Aside (Ss wr w.heap.size (.slice A n c) S∧n=S.length∧Below w.heap.size w wr∧(i≤l.length→WS l i f S)∧(l.length < i→S=words l))) (fun _ _ s5 _=>(str l).size+1 - (intOf s5).toNat)
 case atStart=>exact ⟨0,0,[],none,0,0,rfl,rfl,rfl,by omega,Nat.le_refl _,Nat.le_refl _,Ss_nil _ _,rfl,Below.refl _ _,fun _=>HS0.out,fun h=>by omega⟩
 case round =>
  obtain ⟨i,f,S,A,c,n,rfl,rfl,rfl,hi,hf,hn,hss,hnl,hbw,hr1,hr2⟩:=hrel
  have HSS:=Lib.hid hss
  have HNL:=Lib.hid hnl
  have HBW:=Lib.hid hbw
  have HR1:=Lib.hid hr1
  have HR2:=Lib.hid hr2
  clear hss hnl hbw hr1 hr2
  by_cases h1:i < (str l).size
  ·have hil:i < l.length:=by rw [←HZ.out];exact h1
   have HWS:=Lib.hid (HR1.out (by omega))
   have hge:=str_at l i h1
   by_cases hb:l[i]=32
   ·have q1:((((str l)[i]'h1).toNat:Int) == 32)=true:=by rw [hge,hb];rfl
    have HH:=Lib.hid (HWS.out.hit hil hb)
    have hsl:=sl_mid l (f:Int) (i:Int) f (i - f) rfl (by omega) (by omega)
    have HXL:=Lib.hid (show ((l.drop f).take (i - f)).length≤maxLen by rw [List.length_take,List.length_drop];unfold maxLen;omega)
    obtain ⟨x,hx⟩:∃ x,(l.drop f).take (i - f)=x:=⟨_,rfl⟩
    rw [hx] at hsl HH HXL
    clear hx hb hge
    go_wp2_with (at_builtin;refine wpList_append_strs rfl _ _ rfl w.heap.size _ _ S [x] rfl (HSS.out.kept ((Below.refl _ wr).alloc (Nat.le_refl _) (.cells #[.string (str x)] 9))) rfl ⟨strs_new wr x HXL.out,fun n c e=>by cases e⟩ (by have:=HNL.out;simp;omega) (by have:=HBW.out.size;simp;omega) ?_;intro A2 c2 n2 w2 hn2 hs2 hg2 ha2;have HS2:=Lib.hid hs2;have HN2:=Lib.hid hn2;have HG2:=Lib.hid hg2;clear hn2 hs2 hg2 ha2)
    go_roundw
    case rel =>
     refine ⟨i+1,i+1,S++[x],A2,c2,n2,rfl,by go_num,by go_num,by omega,Nat.le_refl _,by have:=HNL.out;have:=HN2.out;simp at this;omega,HS2.out,by rw [HN2.out,List.length_append],?_,fun _=>HH.out,fun h=>by omega⟩
     exact (HBW.out.alloc HBW.out.size _).grown HG2.out (Nat.le_trans HBW.out.size (by simp)) (fun j hj=>(World.ownsRow.lt HSS.out j hj).1)
    case measure=>simp [intOf];omega
   ·have q1:((((str l)[i]'h1).toNat:Int) == 32)=false:=by
     rw [hge,beq_eq_false_iff_ne]
     intro e
     exact hb (UInt8.toNat_inj.1 (by have:((l[i]'hil).toNat:Int)=((32:UInt8).toNat:Int):=e;omega))
    have HH:=Lib.hid (HWS.out.miss hil hb)
    clear hb hge
    go_wp2
    go_roundw
    case rel=>exact ⟨i+1,f,S,A,c,n,rfl,rfl,by go_num,by omega,by omega,by omega,HSS.out,HNL.out,HBW.out,fun _=>HH.out,fun h=>by omega⟩
    case measure=>simp [intOf];omega
  ·by_cases h2:i=(str l).size
   ·subst h2
    have hel:(str l).size=l.length:=HZ.out
    have HWS:=Lib.hid (show WS l l.length f S from by have:=HR1.out (by omega);rwa [hel] at this)
    have HFI:=Lib.hid HWS.out.fin
    have hfl:=HWS.out.fi
    have hsl:=sl_from l (f:Int) f rfl hfl
    have HXL:=Lib.hid (show (l.drop f).length≤maxLen by rw [List.length_drop];unfold maxLen;omega)
    obtain ⟨x,hx⟩:∃ x,l.drop f=x:=⟨_,rfl⟩
    rw [hx] at hsl HFI HXL
    clear hx hfl
    have HEL:=Lib.hid hel
    clear hel
    go_wp2_with (at_builtin;refine wpList_append_strs rfl _ _ rfl w.heap.size _ _ S [x] rfl (HSS.out.kept ((Below.refl _ wr).alloc (Nat.le_refl _) (.cells #[.string (str x)] 9))) rfl ⟨strs_new wr x HXL.out,fun n c e=>by cases e⟩ (by have:=HNL.out;simp;omega) (by have:=HBW.out.size;simp;omega) ?_;intro A2 c2 n2 w2 hn2 hs2 hg2 ha2;have HS2:=Lib.hid hs2;have HN2:=Lib.hid hn2;have HG2:=Lib.hid hg2;clear hn2 hs2 hg2 ha2)
    go_roundw
    case rel =>
     refine ⟨(str l).size+1,f,S++[x],A2,c2,n2,rfl,rfl,by go_num,Nat.le_refl _,by omega,by have:=HNL.out;have:=HN2.out;simp at this;omega,HS2.out,by rw [HN2.out,List.length_append],?_,fun h=>by have:=HEL.out;omega,fun _=>HFI.out.symm⟩
     exact (HBW.out.alloc HBW.out.size _).grown HG2.out (Nat.le_trans HBW.out.size (by simp)) (fun j hj=>(World.ownsRow.lt HSS.out j hj).1)
    case measure=>simp [intOf]
   ·obtain rfl:i=(str l).size+1:=by omega
    have HSW:=Lib.hid (HR2.out (by have:=HZ.out;omega))
    go_wp2
    go_ret
    refine ⟨_,rfl,?_,HBW.out⟩
    have hs:=HSS.out
    rw [HSW.out] at hs
    exact hs.wds (words_ne l)
end Go.Proofs.YtekcjfdllclphaaGreatDoor.gn
end
