/- For any seat: strings as lists of bytes, slices of bytes that are owned, worlds that are as they were but for one block. -/
import Derived.Test.YtekcjfdllclphaaGreatDoorRows
import Derived.WalkKit
import Derived.ProofKit
import Derived.OwnWalk
import Derived.OneCell
import Derived.Lib.VarintMem
import Derived.Lib.Hide
import Derived.Laws.AppendOwnNone
import Derived.Laws.BytesString
import Derived.Laws.Rows
import Derived.Test.YtekcjfdllclphaaGreatDoorMQaUnM
import Derived.Lib.OthersKept
import Derived.Laws.RangeAny
import Derived.Deep.LoopGhost
section
namespace Go.Proofs.YtekcjfdllclphaaGreatDoor.gn
open Go.RowKit
def str (l:List UInt8):ByteArray:=⟨l.toArray⟩
theorem str_size (l:List UInt8):(str l).size=l.length:=by simp [str,ByteArray.size]
theorem str_toList (l:List UInt8):(str l).toList=l:=by rw [ByteArray.toList_eq];rfl
theorem heap_setCell {w:World} {b j:Nat} {cs:Array Value} {t:TypeId} {fr:Nat × Nat} (h:w.heap[b]?=some (.cells cs t fr)) (u:Value) :
  (w.setCell ⟨b,j,none⟩ u).heap[b]?=some (.cells (cs.setIfInBounds j u) t fr):=by
 have hlt:=lt_of_block h
 have h':w.heap[b]=.cells cs t fr:=by simpa [Array.getElem?_eq_getElem hlt] using h
 show (w.heap.modify b _)[b]?=_
 rw [Array.getElem?_eq_getElem (by simpa using hlt),Array.getElem_modify_self,h']
 rfl
def But (R:Nat) (w w':World):Prop:=w.grownBy w' (some R)
theorem But.refl (R:Nat) (w:World):But R w w:=⟨rfl,rfl,rfl,Nat.le_refl _,fun _ _ _=>rfl⟩
theorem But.trans {R:Nat} {a b c:World} (h:But R a b) (k:But R b c):But R a c :=
 ⟨k.os.trans h.os,k.tape.trans h.tape,k.output.trans h.output,Nat.le_trans h.size k.size,fun i hi hr=>(k.block i (Nat.lt_of_lt_of_le hi h.size) hr).trans (h.block i hi hr)⟩
theorem But.setCell {R:Nat} {a b:World} (h:But R a b) (j:Nat) (u:Value):But R a (b.setCell ⟨R,j,none⟩ u) :=
 h.trans ⟨rfl,rfl,rfl,by simp [World.setCell],fun k _ hr=>Below.heap_setCell _ _ _ _ (fun e=>hr (by rw [e]))⟩
theorem But.cell {R:Nat} {a b:World} (h:But R a b) {p:Addr} {v:Value} (hc:a.cell? p=some v) (hne:p.block≠R):b.cell? p=some v :=
 World.grownBy.cell h hc (fun e=>hne (by simpa using e))
theorem Tryz.info5:(Tryz.prog.info? 5).map (fun i=>(i.zero,i.size,i.bytes))=some (some (.int .u8 0),1,1):=by kernel_rfl
theorem str_app (p q:List UInt8):str p++str q=str (p++q):=by
 apply ByteArray.ext
 simp [str]
theorem str_of (s:ByteArray):str s.data.toList=s:=by
 apply ByteArray.ext
 simp [str]
theorem str_at (l:List UInt8) (i:Nat) (h:i < (str l).size):(str l)[i]=l[i]'(by rw [str_size] at h;exact h):=by
 simp [str]
 rfl
end Go.Proofs.YtekcjfdllclphaaGreatDoor.gn
end
section
set_option linter.unusedVariables false
set_option linter.unusedSimpArgs false
namespace Go.Proofs.YtekcjfdllclphaaGreatDoor.gn
def pureVal (a:Act):Op→Option Value
 | .move x=>some (a.eval x)
 | .assign x=>some (a.eval x)
 | .pick c x y=>match a.eval c with
  | .bool true=>some (a.eval x)
  | .bool false=>some (a.eval y)
  | _=>none
 | _=>none
def tailOps (ops:Array Oper):List Oper→Act→Option Act
 | [],a=>some a
 | o::r,a=>match Region.wanted o (yielded ops a.tmps) with
  | true=>match pureVal a o.op with
   | some v=>tailOps ops r (a.put o.dst v)
   | none=>none
  | false=>tailOps ops r (a.put o.dst undef)
section
variable {P : Program} {ops : Array Oper} {Q : Exit → Act → World → Prop} {a : Act} {w : World}
theorem pure_wp {o:Oper} {v:Value} {K:Act→World→Prop} (h:pureVal a o.op=some v) (hK:K (a.put o.dst v) w):o.wp P a w K Q:=by
 have hr:(execOp a.eval o).run P w=.ok (.value v) w:=by
  obtain ⟨dst,op,ty,pos,after,guard⟩:=o
  cases op <;> simp only [pureVal] at h <;> first | (cases h;done) | skip
  case move=>cases h;simp [execOp,go_sem]
  case assign=>cases h;simp [execOp,go_sem]
  case pick =>
   generalize a.eval=ev at h ⊢
   split at h
   ·next he=>cases h;simp [execOp,go_sem,he]
   ·next he=>cases h;simp [execOp,go_sem,he]
   ·cases h
 unfold Oper.wp
 rw [hr]
 exact hK
theorem tail_wp:∀ (l:List Oper) (a a':Act),tailOps ops l a=some a'→Q .normal a' w→wpList P ops Q l a w
 | [],a,a',h,hq=>by cases h;exact hq
 | o::r,a,a',h,hq=>by
  unfold tailOps at h
  cases hw:Region.wanted o (yielded ops a.tmps) with
  | true =>
   rw [hw] at h
   dsimp only at h
   cases hv:pureVal a o.op with
   | none=>rw [hv] at h;cases h
   | some v =>
    rw [hv] at h
    refine wpList_step fun K hK=>?_
    rw [if_pos hw]
    exact pure_wp hv (hK _ _ (tail_wp r _ a' h hq))
  | false =>
   rw [hw] at h
   exact wpList_skip hw (tail_wp r _ a' h hq)
theorem tail_at {l:List Oper} (i:Nat) (v:Value) (h:(tailOps ops l a).map (fun a'=>(a'.tmps.getD i undef,a'.defers))=some (v,[])) (hQ:∀ tmps:Array Value,tmps.getD i undef=v→Q .normal ⟨tmps,[]⟩ w):wpList P ops Q l a w:=by
 cases ht:tailOps ops l a with
 | none=>rw [ht] at h;cases h
 | some a' =>
  rw [ht] at h
  obtain ⟨t,d⟩:=a'
  simp only [Option.map_some,Option.some.injEq,Prod.mk.injEq] at h
  obtain ⟨h1,rfl⟩:=h
  exact tail_wp l a _ ht (hQ t h1)
theorem guard_split {o:Oper} {r:List Oper} {g:Nat} {pol b:Bool} (_:o.guard=some (g,pol)) (_:yielded ops a.tmps g=some b)
  (h1:b=true→wpList P ops Q (o::r) a w) (h0:b=false→wpList P ops Q (o::r) a w):wpList P ops Q (o::r) a w:=by
 cases b
 ·exact h0 rfl
 ·exact h1 rfl
end
end Go.Proofs.YtekcjfdllclphaaGreatDoor.gn
end
section
set_option linter.unusedVariables false
namespace Go.Proofs.YtekcjfdllclphaaGreatDoor.di
open Go.Proofs.YtekcjfdllclphaaGreatDoor.un
open Go.Lib (decDigits)
def wtx (f:Fl):Tx:=f.1++61::f.2
theorem cut_wtx {f:Fl} (h:(61:UInt8) ∉ f.1):cut (wtx f)=some f:=cut_at f.1 f.2 h
theorem mapM_wtx:∀ {fs:List Fl},(∀ f∈fs,(61:UInt8) ∉ f.1)→(fs.map wtx).mapM cut=some fs
 | [],_=>rfl
 | f::fs,h=>by
  rw [List.map_cons,List.mapM_cons,cut_wtx (h f (by simp)),mapM_wtx fun g hg=>h g (by simp [hg])]
  rfl
theorem mapM_back:∀ {ws:List Tx} {fs:List Fl},ws.mapM cut=some fs→ws=fs.map wtx∧∀ f∈fs,(61:UInt8) ∉ f.1
 | [],fs,h=>by
  have:fs=[]:=(Option.some.inj h).symm
  subst this
  simp
 | w::ws,fs,h=>by
  rw [List.mapM_cons] at h
  cases hc:cut w with
  | none=>rw [hc] at h;cases h
  | some f =>
   rw [hc] at h
   cases hm:ws.mapM cut with
   | none=>rw [hm] at h;cases h
   | some gs =>
    rw [hm] at h
    have:fs=f::gs:=(Option.some.inj (show some (f::gs)=some fs from h)).symm
    subst this
    obtain ⟨e1,e2⟩:=mapM_back hm
    obtain ⟨k1,k2⟩:=cut_some w f.1 f.2 hc
    refine ⟨by rw [List.map_cons,← e1];rw [k1];rfl,?_⟩
    intro g hg
    rcases List.mem_cons.1 hg with rfl | hg
    ·exact k2
    ·exact e2 g hg
def lineOf (k:Nat) (fs:List Fl):Tx:=joinW (bbW::kw k::fs.map wtx)
theorem kind_kw {k:Nat} (h:1≤k∧k≤6):kind? (kw k)=some k:=by
 have hc:k=1∨k=2∨k=3∨k=4∨k=5∨k=6:=by omega
 rcases hc with rfl | rfl | rfl | rfl | rfl | rfl <;> decide
theorem kw_clean {k:Nat} (h:1≤k∧k≤6):(32:UInt8) ∉ kw k:=by
 have hc:k=1∨k=2∨k=3∨k=4∨k=5∨k=6:=by omega
 rcases hc with rfl | rfl | rfl | rfl | rfl | rfl <;> decide
theorem kind_some {w:Tx} {k:Nat} (h:kind? w=some k):w=kw k∧1≤k∧k≤6:=by
 unfold kind? at h
 cases hf:kindL.findIdx? (fun x=>x == w) with
 | none=>rw [hf] at h;cases h
 | some i =>
  rw [hf] at h
  have hk:i+1=k:=by simpa using h
  obtain ⟨hi,hp,_⟩:=List.findIdx?_eq_some_iff_getElem.1 hf
  have hl:kindL.length=6:=rfl
  refine ⟨?_,by omega,by omega⟩
  have:kindL[i]=w:=by simpa using hp
  rw [←this,← hk]
  unfold kw
  rw [Nat.add_sub_cancel,List.getD_eq_getElem?_getD,List.getElem?_eq_getElem hi]
  rfl
theorem words_line {k:Nat} (hk:1≤k∧k≤6) {fs:List Fl} (h:∀ f∈fs,(32:UInt8) ∉ wtx f):words (lineOf k fs)=bbW::kw k::fs.map wtx:=by
 unfold lineOf
 refine words_join _ (by simp) fun w hw=>?_
 rcases List.mem_cons.1 hw with rfl | hw
 ·decide
 rcases List.mem_cons.1 hw with rfl | hw
 ·exact kw_clean hk
 obtain ⟨f,hf,rfl⟩:=List.mem_map.1 hw
 exact h f hf
theorem line_line {k:Nat} (hk:1≤k∧k≤6) {fs:List Fl} (h:∀ f∈fs,(32:UInt8) ∉ wtx f) (h2:∀ f∈fs,(61:UInt8) ∉ f.1):line? (lineOf k fs)=if good k fs then some (dirOf k fs) else none:=by
 unfold line?
 rw [words_line hk h]
 dsimp only
 rw [if_pos rfl,kind_kw hk]
 dsimp only
 unfold fields?
 rw [mapM_wtx h2]
theorem line_some {l:Tx} {d:Dir} (h:line? l=some d):∃ k fs,(1≤k∧k≤6)∧l=lineOf k fs∧words l=bbW::kw k::fs.map wtx∧(∀ f∈fs,(32:UInt8) ∉ wtx f)∧(∀ f∈fs,(61:UInt8) ∉ f.1)∧good k fs∧d=dirOf k fs:=by
 unfold line? at h
 split at h
 ·rename_i b w ws hw
  split at h
  ·rename_i hb
   split at h
   ·rename_i k hk
    unfold fields? at h
    split at h
    ·rename_i fs hm
     split at h
     ·rename_i hg
      obtain ⟨e1,e2⟩:=mapM_back hm
      obtain ⟨e3,e4⟩:=kind_some hk
      subst hb;subst e3;subst e1
      refine ⟨k,fs,e4,?_,hw,?_,e2,hg,(Option.some.inj h).symm⟩
      ·unfold lineOf
       rw [←hw,join_words]
      ·intro f hf
       refine words_clean l _ ?_
       rw [hw]
       simp only [List.mem_cons]
       exact .inr (.inr (List.mem_map.2 ⟨f,hf,rfl⟩))
     ·cases h
    ·cases h
   ·cases h
  ·cases h
 ·cases h
def fsOf (d:Dir) (sv:Tx):List Fl:=(if hasName d.kind then [(nameK,d.name)] else [])++(if hasSize d.kind then [(szK d.kind,sv)] else [])++(if hasPool d.kind then [(poolK,d.pool)] else [])++(if d.opn then [(accK,pubV)] else [])
def dtx (d:Dir):Tx:=lineOf d.kind (fsOf d (stxt d.size))
theorem name_clean {v:Tx} (h:isName v=true):(32:UInt8) ∉ v:=by
 intro hm
 obtain ⟨j,hj,he⟩:=List.getElem_of_mem hm
 have:=(name_bytes h j hj).1
 rw [he] at this
 exact this (by decide)
theorem name_lf {v:Tx} (h:isName v=true):(10:UInt8) ∉ v:=by
 intro hm
 obtain ⟨j,hj,he⟩:=List.getElem_of_mem hm
 have:=(name_bytes h j hj).2.2.1
 rw [he] at this
 exact this (by decide)
theorem name_len {v:Tx} (h:isName v=true):v.length≤32:=(name_one h).2.1
def plain (v:Tx):Prop:=(32:UInt8) ∉ v∧(10:UInt8) ∉ v
theorem plain_app {a b:Tx} (ha:plain a) (hb:plain b):plain (a++b) :=
 ⟨fun h=>(List.mem_append.1 h).elim ha.1 hb.1,fun h=>(List.mem_append.1 h).elim ha.2 hb.2⟩
theorem plain_dec (n:Nat):plain (decDigits n):=by
 constructor
 ·intro h
  exact absurd (dec_dig n _ h) (by decide)
 ·intro h
  exact absurd (dec_dig n _ h) (by decide)
theorem plain_nm {k:Nat} (h:k < 8):plain (nm k):=by
 rcases lt8 h with rfl | rfl | rfl | rfl | rfl | rfl | rfl | rfl <;> (unfold plain;decide)
theorem plain_txt (n:Int):plain (txt n):=by
 unfold txt
 split
 ·exact plain_dec _
 ·exact ⟨by simp,by simp⟩
theorem plain_stxt (n:Int):plain (stxt n):=by
 by_cases h:0 < n∧n≤1099511627776
 ·obtain ⟨m,rfl⟩:∃ m:Nat,n=(m:Int):=⟨n.toNat,by omega⟩
  rcases stxt_cases (show 0 < m by omega) (show m≤top by unfold top;omega) with ⟨k,hk,_,e⟩ | e
  ·rw [e]
   exact plain_app (plain_dec _) (plain_nm (by omega))
  ·rw [e]
   exact plain_dec _
 ·rw [stxt_out h]
  exact plain_txt n
theorem plain_name {v:Tx} (h:isName v=true):plain v:=⟨name_clean h,name_lf h⟩
structure Made (d:Dir) (sv:Tx) (n:Nat):Prop where
 ok:chk d=true
 sv:hasSize d.kind=true→plain sv∧size? sv=some n∧0 < n∧sv.length≤20
theorem Made.mem {d:Dir} {sv:Tx} {n:Nat} {f:Fl} (hf:f∈fsOf d sv) :
  (hasName d.kind=true∧f=(nameK,d.name))∨(hasSize d.kind=true∧f=(szK d.kind,sv))∨(hasPool d.kind=true∧f=(poolK,d.pool))∨(d.opn=true∧f=(accK,pubV)):=by
 unfold fsOf at hf
 cases h1:hasName d.kind <;> cases h2:hasSize d.kind <;> cases h3:hasPool d.kind <;> cases h4:d.opn <;> simp [h1,h2,h3,h4] at hf <;> simp [hf]
theorem szK_plain (k:Nat):plain (szK k)∧(61:UInt8) ∉ szK k:=by
 rcases szK_cases k with h | h <;> rw [h] <;> (unfold plain;decide)
theorem Made.wtx {d:Dir} {sv:Tx} {n:Nat} (h:Made d sv n) {f:Fl} (hf:f∈fsOf d sv):plain (wtx f)∧(61:UInt8) ∉ f.1∧(di.wtx f).length≤50:=by
 obtain ⟨_,c1,_,c2,_,c4,_,_⟩:=(chk_iff d).1 h.ok
 have p61:plain [61]:=by unfold plain;decide
 have key:∀ (a b:Tx),plain a→plain b→plain (di.wtx (a,b)):=fun a b ha hb=>by
  show plain (a++([61]++b))
  exact plain_app ha (plain_app p61 hb)
 rcases Made.mem (n:=n) hf with ⟨e,rfl⟩ | ⟨e,rfl⟩ | ⟨e,rfl⟩ | ⟨e,rfl⟩
 ·have hn:=c2.1 e
  refine ⟨key _ _ (by unfold plain;decide) (plain_name hn),(show (61:UInt8) ∉ nameK by decide),?_⟩
  have:=name_len hn
  show (nameK++61::d.name).length≤50
  rw [List.length_append,List.length_cons,show nameK.length=4 from rfl]
  omega
 ·obtain ⟨s1,s2,s3,s4⟩:=h.sv e
  refine ⟨key _ _ (szK_plain _).1 s1,(szK_plain _).2,?_⟩
  show (szK d.kind++61::sv).length≤50
  have:(szK d.kind).length≤8:=by rcases szK_cases d.kind with h | h <;> rw [h] <;> decide
  rw [List.length_append,List.length_cons]
  omega
 ·have hn:=c4.1 e
  refine ⟨key _ _ (by unfold plain;decide) (plain_name hn),(show (61:UInt8) ∉ poolK by decide),?_⟩
  have:=name_len hn
  show (poolK++61::d.pool).length≤50
  rw [List.length_append,List.length_cons,show poolK.length=4 from rfl]
  omega
 ·exact ⟨key _ _ (by unfold plain;decide) (by unfold plain;decide),by decide,by decide⟩
theorem Made.good {d:Dir} {sv:Tx} {n:Nat} (h:Made d sv n):good d.kind (fsOf d sv)∧dirOf d.kind (fsOf d sv)={ d with size:=if hasSize d.kind then (n:Int) else d.size }:=by
 obtain ⟨c0,c1,cz,c2,c3,c4,c5,c6⟩:=(chk_iff d).1 h.ok
 obtain ⟨k,nm,pl,z,o⟩:=d
 dsimp only at c0 c1 cz c2 c3 c4 c5 c6 ⊢
 have hs:=h.sv
 dsimp only at hs
 have hk:k=1∨k=2∨k=3∨k=4∨k=5∨k=6:=by omega
 have vn:hasName k=true→okv nameK nm=true:=fun e=>by rw [okv_name];exact c2.1 e
 have vp:hasPool k=true→okv poolK pl=true:=fun e=>by rw [okv_pool];exact c4.1 e
 have vs:hasSize k=true→okv (szK k) sv=true:=fun e=>by
  rw [okv_sz,(hs e).2.1,decide_eq_true_eq]
  exact (hs e).2.2.1
 have vz:hasSize k=true→(size? sv).getD 0=n:=fun e=>by rw [(hs e).2.1];rfl
 have zz:hasSize k=false→z=0:=fun e=>by
  have:¬ 0 < z:=fun h0=>by rw [c1.2 h0] at e;cases e
  omega
 have nn:hasName k=false→nm=[]:=fun e=>by rcases c3 with c3 | c3;rw [c3] at e;cases e;exact c3
 have pp:hasPool k=false→pl=[]:=fun e=>by rcases c5 with c5 | c5;rw [c5] at e;cases e;exact c5
 have vo:okv accK pubV=true:=by decide
 have oo:k≠4→o=false:=fun e=>by rcases c6 with c6 | c6;exact c6;exact absurd c6 e
 unfold fsOf
 dsimp only
 rcases hk with rfl | rfl | rfl | rfl | rfl | rfl
 ·have e1:=nn (by decide);have e5:=oo (by decide);have a1:=vs (by decide);have a2:=vp (by decide);have a3:=vz (by decide)
  subst e1;subst e5
  constructor
  ·exact ⟨(show [capK,poolK].Nodup by decide),by
    intro f hf
    have hf':f=(capK,sv)∨f=(poolK,pl):=by simpa [hasName,hasSize,hasPool,szK] using hf
    rcases hf' with rfl | rfl
    ·exact ⟨(show allow 1 capK=true by decide),a1⟩
    ·exact ⟨(show allow 1 poolK=true by decide),a2⟩,by
    intro r hr
    have hr':r=capK∨r=poolK:=by simpa [req,hasName,hasSize,hasPool,szK] using hr
    rcases hr' with rfl | rfl
    ·exact (show capK∈[capK,poolK] by decide)
    ·exact (show poolK∈[capK,poolK] by decide)⟩
  ·show (⟨1,[],pl,(((size? sv).getD 0:Nat):Int),false⟩:Dir)=⟨1,[],pl,(n:Int),false⟩
   rw [a3]
 ·have e1:=nn (by decide);have e2:=pp (by decide);have e5:=oo (by decide);have a1:=vs (by decide);have a3:=vz (by decide)
  subst e1;subst e2;subst e5
  constructor
  ·exact ⟨(show [sizeK].Nodup by decide),by
    intro f hf
    have hf':f=(sizeK,sv):=by simpa [hasName,hasSize,hasPool,szK] using hf
    subst hf'
    exact ⟨(show allow 2 sizeK=true by decide),a1⟩,by
    intro r hr
    have hr':r=sizeK:=by simpa [req,hasName,hasSize,hasPool,szK] using hr
    subst hr'
    exact (show sizeK∈[sizeK] by decide)⟩
  ·show (⟨2,[],[],(((size? sv).getD 0:Nat):Int),false⟩:Dir)=⟨2,[],[],(n:Int),false⟩
   rw [a3]
 ·have e1:=nn (by decide);have e2:=pp (by decide);have e5:=oo (by decide);have a1:=vs (by decide);have a3:=vz (by decide)
  subst e1;subst e2;subst e5
  constructor
  ·exact ⟨(show [sizeK].Nodup by decide),by
    intro f hf
    have hf':f=(sizeK,sv):=by simpa [hasName,hasSize,hasPool,szK] using hf
    subst hf'
    exact ⟨(show allow 3 sizeK=true by decide),a1⟩,by
    intro r hr
    have hr':r=sizeK:=by simpa [req,hasName,hasSize,hasPool,szK] using hr
    subst hr'
    exact (show sizeK∈[sizeK] by decide)⟩
  ·show (⟨3,[],[],(((size? sv).getD 0:Nat):Int),false⟩:Dir)=⟨3,[],[],(n:Int),false⟩
   rw [a3]
 ·have a0:=vn (by decide);have a1:=vs (by decide);have a2:=vp (by decide);have a3:=vz (by decide)
  cases o with
  | false =>
   constructor
   ·exact ⟨(show [nameK,capK,poolK].Nodup by decide),by
     intro f hf
     have hf':f=(nameK,nm)∨f=(capK,sv)∨f=(poolK,pl):=by simpa [hasName,hasSize,hasPool,szK] using hf
     rcases hf' with rfl | rfl | rfl
     ·exact ⟨(show allow 4 nameK=true by decide),a0⟩
     ·exact ⟨(show allow 4 capK=true by decide),a1⟩
     ·exact ⟨(show allow 4 poolK=true by decide),a2⟩,by
     intro r hr
     have hr':r=nameK∨r=capK∨r=poolK:=by simpa [req,hasName,hasSize,hasPool,szK] using hr
     rcases hr' with rfl | rfl | rfl
     ·exact (show nameK∈[nameK,capK,poolK] by decide)
     ·exact (show capK∈[nameK,capK,poolK] by decide)
     ·exact (show poolK∈[nameK,capK,poolK] by decide)⟩
   ·show (⟨4,nm,pl,(((size? sv).getD 0:Nat):Int),false⟩:Dir)=⟨4,nm,pl,(n:Int),false⟩
    rw [a3]
  | true =>
   constructor
   ·exact ⟨(show [nameK,capK,poolK,accK].Nodup by decide),by
     intro f hf
     have hf':f=(nameK,nm)∨f=(capK,sv)∨f=(poolK,pl)∨f=(accK,pubV):=by simpa [hasName,hasSize,hasPool,szK] using hf
     rcases hf' with rfl | rfl | rfl | rfl
     ·exact ⟨(show allow 4 nameK=true by decide),a0⟩
     ·exact ⟨(show allow 4 capK=true by decide),a1⟩
     ·exact ⟨(show allow 4 poolK=true by decide),a2⟩
     ·exact ⟨(show allow 4 accK=true by decide),vo⟩,by
     intro r hr
     have hr':r=nameK∨r=capK∨r=poolK:=by simpa [req,hasName,hasSize,hasPool,szK] using hr
     rcases hr' with rfl | rfl | rfl
     ·exact (show nameK∈[nameK,capK,poolK,accK] by decide)
     ·exact (show capK∈[nameK,capK,poolK,accK] by decide)
     ·exact (show poolK∈[nameK,capK,poolK,accK] by decide)⟩
   ·show (⟨4,nm,pl,(((size? sv).getD 0:Nat):Int),true⟩:Dir)=⟨4,nm,pl,(n:Int),true⟩
    rw [a3]
 ·have e2:=pp (by decide);have e3:=zz (by decide);have e5:=oo (by decide);have a0:=vn (by decide)
  subst e2;subst e3;subst e5
  constructor
  ·exact ⟨(show [nameK].Nodup by decide),by
    intro f hf
    have hf':f=(nameK,nm):=by simpa [hasName,hasSize,hasPool,szK] using hf
    subst hf'
    exact ⟨(show allow 5 nameK=true by decide),a0⟩,by
    intro r hr
    have hr':r=nameK:=by simpa [req,hasName,hasSize,hasPool,szK] using hr
    subst hr'
    exact (show nameK∈[nameK] by decide)⟩
  ·rfl
 ·have e2:=pp (by decide);have e3:=zz (by decide);have e5:=oo (by decide);have a0:=vn (by decide)
  subst e2;subst e3;subst e5
  constructor
  ·exact ⟨(show [nameK].Nodup by decide),by
    intro f hf
    have hf':f=(nameK,nm):=by simpa [hasName,hasSize,hasPool,szK] using hf
    subst hf'
    exact ⟨(show allow 6 nameK=true by decide),a0⟩,by
    intro r hr
    have hr':r=nameK:=by simpa [req,hasName,hasSize,hasPool,szK] using hr
    subst hr'
    exact (show nameK∈[nameK] by decide)⟩
  ·rfl
end Go.Proofs.YtekcjfdllclphaaGreatDoor.di
end
section
set_option linter.unusedVariables false
namespace Go.Proofs.YtekcjfdllclphaaGreatDoor.di
open Go.Proofs.YtekcjfdllclphaaGreatDoor.un
open Go.Lib (decDigits)
theorem joinW_snoc:∀ (L:List Tx) (x:Tx),L≠[]→joinW (L++[x])=joinW L++32::x
 | [],_,h=>absurd rfl h
 | [a],x,_=>rfl
 | a::b::r,x,_=>by
  rw [List.cons_append,joinW_cons a (by simp),joinW_snoc (b::r) x (by simp),joinW_cons a (by simp),List.append_assoc]
  rfl
theorem words_two:∀ (a r:Tx),words (a++32::r)=words a++words r
 | [],r=>words_bl r
 | b::a,r=>by
  have ih:=words_two a r
  by_cases hb:b=32
  ·subst hb
   show words (32::(a++32::r))=words (32::a)++words r
   rw [words_bl,words_bl,ih]
   rfl
  ·show words (b::(a++32::r))=words (b::a)++words r
   rw [words_nb hb,words_nb hb,ih]
   cases hw:words a with
   | nil=>exact absurd hw (words_ne a)
   | cons h t=>rfl
theorem mapM_snoc:∀ (ws:List Tx) (x:Tx),(ws++[x]).mapM cut=match ws.mapM cut,cut x with
  | some fs,some f=>some (fs++[f])
  | _,_=>none
 | [],x=>by
  rw [List.nil_append,List.mapM_cons]
  cases cut x <;> rfl
 | w::ws,x=>by
  rw [List.cons_append,List.mapM_cons,mapM_snoc ws x,List.mapM_cons]
  cases cut w with
  | none=>rfl
  | some f =>
   cases ws.mapM cut with
   | none=>rfl
   | some fs=>cases cut x <;> rfl
theorem Made.line {d:Dir} {sv:Tx} {n:Nat} (h:Made d sv n):line? (lineOf d.kind (fsOf d sv))=some { d with size:=if hasSize d.kind then (n:Int) else d.size }:=by
 obtain ⟨c0,_⟩:=(chk_iff d).1 h.ok
 rw [line_line c0 (fun f hf=>(h.wtx hf).1.1) (fun f hf=>(h.wtx hf).2.1),if_pos h.good.1,h.good.2]
theorem made_text {d:Dir} (h:chk d=true):Made d (stxt d.size) d.size.toNat:=by
 refine ⟨h,fun hs=>?_⟩
 obtain ⟨c0,c1,cz,_⟩:=(chk_iff d).1 h
 have hp:=c1.1 hs
 obtain ⟨m,hm⟩:∃ m:Nat,d.size=(m:Int):=⟨d.size.toNat,by omega⟩
 rw [hm]
 refine ⟨plain_stxt _,?_,by simp;omega,Nat.le_trans (stxt_len _) (by decide)⟩
 rw [Int.toNat_natCast]
 exact size_stxt (by unfold top;omega)
theorem text_read {d:Dir} (h:chk d=true):line? (dtx d)=some d:=by
 have hl:=(made_text h).line
 unfold dtx
 rw [hl]
 obtain ⟨c0,c1,cz,_⟩:=(chk_iff d).1 h
 cases hs:hasSize d.kind with
 | false=>simp
 | true=>simp;cases d;simp at cz ⊢;omega
theorem joinW_len:∀ (L:List Tx) (m:Nat),(∀ w∈L,w.length≤m)→(joinW L).length≤L.length * (m+1)
 | [],m,_=>by simp [joinW]
 | [a],m,h=>by
  have:=h a (by simp)
  show a.length≤1 * (m+1)
  omega
 | a::b::r,m,h=>by
  have h1:=h a (by simp)
  have h2:=joinW_len (b::r) m fun w hw=>h w (by simp [hw])
  rw [joinW_cons a (by simp),List.length_append,List.length_cons,List.length_cons (a:=a),Nat.add_mul]
  omega
theorem kw_len {k:Nat} (h:1≤k∧k≤6):(kw k).length≤50:=by
 have hc:k=1∨k=2∨k=3∨k=4∨k=5∨k=6:=by omega
 rcases hc with rfl | rfl | rfl | rfl | rfl | rfl <;> decide
theorem Made.len {d:Dir} {sv:Tx} {n:Nat} (h:Made d sv n):(lineOf d.kind (fsOf d sv)).length≤306:=by
 obtain ⟨c0,_⟩:=(chk_iff d).1 h.ok
 unfold lineOf
 have hl:=joinW_len (bbW::kw d.kind::(fsOf d sv).map di.wtx) 50 fun w hw=>by
  rcases List.mem_cons.1 hw with rfl | hw
  ·decide
  rcases List.mem_cons.1 hw with rfl | hw
  ·exact kw_len c0
  obtain ⟨f,hf,rfl⟩:=List.mem_map.1 hw
  exact (h.wtx hf).2.2
 have h4:(fsOf d sv).length≤4:=by
  unfold fsOf
  cases hasName d.kind <;> cases hasSize d.kind <;> cases hasPool d.kind <;> cases d.opn <;> simp
 rw [List.length_cons,List.length_cons,List.length_map] at hl
 have:((fsOf d sv).length+1+1) * (50+1)≤6 * 51:=Nat.mul_le_mul_right _ (by omega)
 omega
def neat:UInt8→Tx→Bool
 | _,[]=>true
 | p,b::r=>decide (b≠10) && !(decide (b=32) && decide (p=32)) && neat b r
theorem neat_plain:∀ (a:Tx) (p:UInt8) (r:Tx),plain a→a≠[]→neat p (a++32::r)=neat 32 r
 | [],_,_,_,h=>absurd rfl h
 | [b],p,r,h,_=>by
  have h1:b≠32:=fun e=>h.1 (by simp [e])
  have h2:b≠10:=fun e=>h.2 (by simp [e])
  show neat p (b::32::r)=_
  simp [neat,h1,h2]
 | b::c::a,p,r,h,_=>by
  have h1:b≠32:=fun e=>h.1 (by simp [e])
  have h2:b≠10:=fun e=>h.2 (by simp [e])
  have hp:plain (c::a):=⟨fun e=>h.1 (List.mem_cons_of_mem _ e),fun e=>h.2 (List.mem_cons_of_mem _ e)⟩
  have ih:=neat_plain (c::a) b r hp (by simp)
  show neat p (b::(c::a++32::r))=_
  rw [neat,ih]
  simp [h1,h2]
theorem neat_end:∀ (a:Tx) (p:UInt8),plain a→neat p a=true
 | [],_,_=>rfl
 | b::a,p,h=>by
  have h1:b≠32:=fun e=>h.1 (by simp [e])
  have h2:b≠10:=fun e=>h.2 (by simp [e])
  have ih:=neat_end a b ⟨fun e=>h.1 (List.mem_cons_of_mem _ e),fun e=>h.2 (List.mem_cons_of_mem _ e)⟩
  rw [neat,ih]
  simp [h1,h2]
theorem neat_join:∀ (L:List Tx) (p:UInt8),(∀ w∈L,plain w∧w≠[])→neat p (joinW L)=true
 | [],_,_=>rfl
 | [a],p,h=>neat_end a p (h a (by simp)).1
 | a::b::r,p,h=>by
  rw [joinW_cons a (by simp),neat_plain a p _ (h a (by simp)).1 (h a (by simp)).2]
  exact neat_join (b::r) 32 fun w hw=>h w (by simp [hw])
theorem kw_plain {k:Nat} (h:1≤k∧k≤6):plain (kw k)∧kw k≠[]:=by
 have hc:k=1∨k=2∨k=3∨k=4∨k=5∨k=6:=by omega
 rcases hc with rfl | rfl | rfl | rfl | rfl | rfl <;> (unfold plain;decide)
theorem text_neat {d:Dir} (h:chk d=true) (p:UInt8):neat p (dtx d)=true:=by
 obtain ⟨c0,_⟩:=(chk_iff d).1 h
 unfold dtx lineOf
 refine neat_join _ _ fun w hw=>?_
 rcases List.mem_cons.1 hw with rfl | hw
 ·unfold plain;decide
 rcases List.mem_cons.1 hw with rfl | hw
 ·exact kw_plain c0
 obtain ⟨f,hf,rfl⟩:=List.mem_map.1 hw
 refine ⟨((made_text h).wtx hf).1,?_⟩
 unfold wtx
 simp
theorem line_twice {l:Tx} {k:Nat} {fs:List Fl} {f:Fl} (hw:words l=bbW::kw k::fs.map wtx) (hk:1≤k∧k≤6) (h1:∀ g∈fs,(32:UInt8) ∉ wtx g) (h2:∀ g∈fs,(61:UInt8) ∉ g.1) (hf:f∈fs):line? (l++32::wtx f)=none:=by
 unfold line?
 rw [words_two,hw,words_one _ (h1 f hf)]
 show (match bbW::kw k::(fs.map wtx++[wtx f]) with
  | b::w::ws=>if b=bbW then match kind? w with
   | some k=>fields? k ws
   | none=>none
   else none
  | _=>none)=none
 dsimp only
 rw [if_pos rfl,kind_kw hk]
 dsimp only
 unfold fields?
 rw [mapM_snoc,mapM_wtx h2,cut_wtx (h2 f hf)]
 dsimp only
 rw [if_neg]
 rintro ⟨g1,_⟩
 rw [keys_snoc,List.nodup_append] at g1
 exact g1.2.2 f.1 (List.mem_map.2 ⟨f,hf,rfl⟩) f.1 (by simp) rfl
end Go.Proofs.YtekcjfdllclphaaGreatDoor.di
end
section
set_option linter.unusedVariables false
namespace Go.Proofs.YtekcjfdllclphaaGreatDoor.gn
open Go.RowKit
open Go.Proofs.YtekcjfdllclphaaGreatDoor.un
def win (r:Int):Bool:=decide (97≤r∧r≤122) || decide (65≤r∧r≤90) || decide (48≤r∧r≤57) || decide (r=95) || decide (r=45) || decide (r=46)
theorem win_yes {r:Int} (h:(97≤r∧r≤122)∨(65≤r∧r≤90)∨(48≤r∧r≤57)∨r=95∨r=45∨r=46):win r=true:=by
 unfold win
 simp only [Bool.or_eq_true,decide_eq_true_eq]
 omega
theorem win_no {r:Int} (h:¬ ((97≤r∧r≤122)∨(65≤r∧r≤90)∨(48≤r∧r≤57)∨r=95∨r=45∨r=46)):win r=false:=by
 cases hw:win r with
 | false=>rfl
 | true =>
  unfold win at hw
  simp only [Bool.or_eq_true,decide_eq_true_eq] at hw
  exact absurd (by omega) h
set_option maxRecDepth 100000 in
set_option maxHeartbeats 1600000 in
theorem within_any (r:Int) (w:World):Calls Tryz.prog 125 #[.int .i32 r] w fun e w'=>e=.returned (.bool (win r))∧w=w':=by
 rcases byte_cases r with h | h | h | h | h | h | h | h | h | h | h | h
 case' inl=>have hw:=win_no (r:=r) (by omega)
 case' inr.inl=>have hw:=win_yes (r:=r) (by omega)
 case' inr.inr.inl=>have hw:=win_yes (r:=r) (by omega)
 case' inr.inr.inr.inl=>have hw:=win_no (r:=r) (by omega)
 case' inr.inr.inr.inr.inl=>have hw:=win_yes (r:=r) (by omega)
 case' inr.inr.inr.inr.inr.inl=>have hw:=win_no (r:=r) (by omega)
 case' inr.inr.inr.inr.inr.inr.inl=>have hw:=win_yes (r:=r) (by omega)
 case' inr.inr.inr.inr.inr.inr.inr.inl=>have hw:=win_no (r:=r) (by omega)
 case' inr.inr.inr.inr.inr.inr.inr.inr.inl=>have hw:=win_yes (r:=r) (by omega)
 case' inr.inr.inr.inr.inr.inr.inr.inr.inr.inl=>have hw:=win_no (r:=r) (by omega)
 case' inr.inr.inr.inr.inr.inr.inr.inr.inr.inr.inl=>have hw:=win_yes (r:=r) (by omega)
 case' inr.inr.inr.inr.inr.inr.inr.inr.inr.inr.inr=>have hw:=win_no (r:=r) (by omega)
 all_goals
  rw [hw]
  clear hw
  try subst h
  try obtain ⟨h1,h2⟩:=h
  try have e95:(r == 95)=false:=by rw [beq_eq_false_iff_ne];omega
  try have e45:(r == 45)=false:=by rw [beq_eq_false_iff_ne];omega
  try have e46:(r == 46)=false:=by rw [beq_eq_false_iff_ne];omega
  go_enter Tryz.func125,Tryz.ntmps125
  go_wp2
  go_ret
  exact ⟨rfl,rfl⟩
theorem nm_win {i:Nat} {b:UInt8}:nmAt i b=(win (b.toNat:Int) && !(decide (i=0) && (decide (b.toNat=45) || decide (b.toNat=46)))):=by
 rw [Bool.eq_iff_iff]
 unfold nmAt wordb win
 simp only [Bool.or_eq_true,Bool.and_eq_true,Bool.not_eq_true',Bool.and_eq_false_iff,Bool.or_eq_false_iff,decide_eq_true_eq,decide_eq_false_iff_not]
 omega
theorem get_str (l:List UInt8) (pos:Nat) (h:pos < (str l).size):((str l)[pos]'h).toNat=(l[pos]'(by rw [str_size] at h;exact h)).toNat:=by rw [str_at]
set_option maxRecDepth 100000 in
set_option maxHeartbeats 3200000 in
theorem name_any (l:List UInt8) (hl:l.length≤140737488355328) (w:World):Calls Tryz.prog 98 #[.string (str l)] w fun e w'=>e=.returned (.bool (isName l))∧Below w.heap.size w w':=by
 have hz:=str_size l
 by_cases h0:l.length=0
 ·have hn:isName l=false:=by
   unfold isName
   rw [show decide (1≤l.length)=false from decide_eq_false (by omega)]
   rfl
  rw [hn]
  have hz0:(str l).size=0:=by omega
  clear hn h0 hz hl
  go_enter Tryz.func98,Tryz.ntmps98
  go_wp2
  go_ret
  exact ⟨rfl,Below.refl _ _⟩
 ·by_cases h1:32 < l.length
  ·have hn:isName l=false:=by
    unfold isName
    rw [show decide (l.length≤32)=false from decide_eq_false (by omega)]
    simp
   rw [hn]
   have hz0:32 < (str l).size:=by omega
   have hz1:(str l).size≤140737488355328:=by omega
   have hz2:(((str l).size:Int) == 0)=false:=by rw [beq_eq_false_iff_ne];omega
   have hz3:decide (32 < ((str l).size:Int))=true:=decide_eq_true (by omega)
   clear hn h0 h1 hz hl
   go_enter Tryz.func98,Tryz.ntmps98
   go_wp2
   go_ret
   exact ⟨rfl,Below.refl _ _⟩
  ·have hn:isName l=okFrom 0 l:=by
    unfold isName
    rw [show decide (1≤l.length)=true from decide_eq_true (by omega),show decide (l.length≤32)=true from decide_eq_true (by omega)]
    rfl
   rw [hn]
   have HN:=Lib.hid (show okFrom 0 (l.drop 0)=okFrom 0 l by simp)
   generalize okFrom 0 l=ans at *
   have hz0:0 < (str l).size:=by omega
   have hz1:(str l).size≤32:=by omega
   have hz2:(((str l).size:Int) == 0)=false:=by rw [beq_eq_false_iff_ne];omega
   have hz3:decide (32 < ((str l).size:Int))=false:=decide_eq_false (by omega)
   have HZ:=Lib.hid hz
   clear hn h0 h1 hz hl
   go_enter Tryz.func98,Tryz.ntmps98
   go_wp2
   go_loopw [15] (fun _ wr=>∃ pos:Nat,wr.heap[w.heap.size]?=some (.stringIter (str l) pos)∧Aside (Below w.heap.size w wr)∧Aside (okFrom pos (l.drop pos)=ans)) (fun _ wr=>(str l).size - wr.iterPos w.heap.size)
   case atStart=>exact ⟨0,World.iter_heap w (str l) 0,(Below.refl _ w).alloc (Nat.le_refl _) _,HN.out⟩
   case round =>
    obtain ⟨pos,hit,hbw,hok⟩:=hrel
    have hsz:w.heap.size < wr.heap.size:=(Array.getElem?_eq_some_iff.1 hit).1
    by_cases hp:pos < (str l).size
    ·have hpl:pos < l.length:=by rw [←HZ.out];exact hp
     rw [okFrom_drop hpl] at hok
     have HOK:=Lib.hid (show (nmAt pos (l[pos]'hpl) && okFrom (pos+1) (l.drop (pos+1)))=ans from hok)
     have HB:=Lib.hid hbw
     have hg:=get_str l pos hp
     clear hok hbw
     generalize hc:l[pos]'hpl=c at *
     by_cases ha:c.toNat < 128
     ·have hnx:∀ ty,(Instr.next (.pointer (some ⟨w.heap.size,0,none⟩)) true ty).run Tryz.prog wr=.ok (.tuple #[.bool true,.int .i64 (pos:Int),.int .i32 (c.toNat:Int)]) (wr.iterAt w.heap.size (str l) (pos+1)):=fun ty=>by
       rw [Lib.run_next_ascii_at wr w.heap.size (str l) pos ty hit hp (by omega),hg]
      have HI2:=Lib.hid (Lib.iterAt_heap wr w.heap.size (str l) pos (pos+1) hit)
      have HB2:=Lib.hid (Lib.below_iterAt HB.out (k:=w.heap.size) (Nat.le_refl _) (str l) (pos+1))
      have HIT:=Lib.hid hit
      have hnm:=nm_win (i:=pos) (b:=c)
      rw [hnm] at HOK
      clear hit hnm hg hc hpl
      have hc2:((c.toNat:Nat):Int) < 128:=by omega
      cases hw:win (c.toNat:Int) with
      | false =>
       have HW:=Lib.hid hw
       have hans:ans=false:=by rw [←HOK.out,hw];rfl
       subst hans
       clear hw HOK
       go_wp2_with (go_at_call 125;refine (within_any _ _).mono ?_;rintro e w1 ⟨rfl,rfl⟩;rw [HW.out])
       go_ret
       exact ⟨rfl,HB2.out⟩
      | true =>
       have HW:=Lib.hid hw
       rw [hw] at HOK
       clear hw
       by_cases h0:pos=0
       ·subst h0
        have k0:(((0:Nat):Int) == 0)=true:=rfl
        by_cases h45:c.toNat=45
        ·have hans:ans=false:=by rw [←HOK.out,h45];rfl
         have k45:(((c.toNat:Nat):Int) == 45)=true:=by rw [beq_iff_eq];omega
         subst hans
         clear HOK h45
         go_wp2_with (go_at_call 125;refine (within_any _ _).mono ?_;rintro e w1 ⟨rfl,rfl⟩;rw [HW.out])
         go_ret
         exact ⟨rfl,HB2.out⟩
        ·have k45:(((c.toNat:Nat):Int) == 45)=false:=by rw [beq_eq_false_iff_ne];omega
         by_cases h46:c.toNat=46
         ·have hans:ans=false:=by rw [←HOK.out,h46];rfl
          have k46:(((c.toNat:Nat):Int) == 46)=true:=by rw [beq_iff_eq];omega
          subst hans
          clear HOK h45 h46
          go_wp2_with (go_at_call 125;refine (within_any _ _).mono ?_;rintro e w1 ⟨rfl,rfl⟩;rw [HW.out])
          go_ret
          exact ⟨rfl,HB2.out⟩
         ·have k46:(((c.toNat:Nat):Int) == 46)=false:=by rw [beq_eq_false_iff_ne];omega
          have HO2:=Lib.hid (show okFrom (0+1) (l.drop (0+1))=ans by
           have:=HOK.out
           rw [show decide (c.toNat=45)=false from decide_eq_false h45,show decide (c.toNat=46)=false from decide_eq_false h46] at this
           simpa using this)
          clear HOK h45 h46
          go_wp2_with (go_at_call 125;refine (within_any _ _).mono ?_;rintro e w1 ⟨rfl,rfl⟩;rw [HW.out])
          go_roundw
          case rel=>exact ⟨0+1,HI2.out,HB2.out,HO2.out⟩
          case measure =>
           simp only [World.iterPos,HI2.out,HIT.out]
           omega
       ·have k0:(((pos:Nat):Int) == 0)=false:=by rw [beq_eq_false_iff_ne];omega
        have HO2:=Lib.hid (show okFrom (pos+1) (l.drop (pos+1))=ans by
         have:=HOK.out
         rw [show decide (pos=0)=false from decide_eq_false h0] at this
         simpa using this)
        clear HOK
        go_wp2_with (go_at_call 125;refine (within_any _ _).mono ?_;rintro e w1 ⟨rfl,rfl⟩;rw [HW.out])
        go_roundw
        case rel=>exact ⟨pos+1,HI2.out,HB2.out,HO2.out⟩
        case measure =>
         simp only [World.iterPos,HI2.out,HIT.out]
         omega
     ·obtain ⟨hr,hd⟩:=decode_high (str l) pos hp (by omega)
      have hle:=decode_le (str l) pos
      have hnx:∀ ty,(Instr.next (.pointer (some ⟨w.heap.size,0,none⟩)) true ty).run Tryz.prog wr=_:=fun ty=>Lib.run_next_any_at wr w.heap.size (str l) pos ty hit hp
      have HB2:=Lib.hid (Lib.below_iterAt HB.out (k:=w.heap.size) (Nat.le_refl _) (str l) (pos+(Utf8.decode (str l) pos).2))
      have hans:ans=false:=by rw [←HOK.out,name_high (l:=l) (by omega)];rfl
      have hw:win ((Utf8.decode (str l) pos).1:Int)=false:=win_no (by omega)
      have HW:=Lib.hid hw
      subst hans
      clear hw HOK hit hg hc hpl
      go_wp2_with (go_at_call 125;refine (within_any _ _).mono ?_;rintro e w1 ⟨rfl,rfl⟩;rw [HW.out])
      go_ret
      exact ⟨rfl,HB2.out⟩
    ·have hnx:∀ ty,(Instr.next (.pointer (some ⟨w.heap.size,0,none⟩)) true ty).run Tryz.prog wr=_:=fun ty=>Lib.run_next_end_at wr w.heap.size (str l) pos ty hit hp
     have ha:ans=true:=by rw [←hok];exact okFrom_end l (by rw [←HZ.out];omega)
     have HB:=Lib.hid hbw
     subst ha
     clear hok hbw hit
     go_wp2
     go_ret
     exact ⟨rfl,HB.out⟩
end Go.Proofs.YtekcjfdllclphaaGreatDoor.gn
end
