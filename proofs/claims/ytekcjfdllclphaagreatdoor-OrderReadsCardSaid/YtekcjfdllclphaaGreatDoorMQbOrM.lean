/- Orders, plain: the kinds' words and fields, what a text denotes, an order's text, by the document. (Written ahead of the code.) -/
import Derived.Test.YtekcjfdllclphaaGreatDoorMQbGenLoad
import Derived.Test.YtekcjfdllclphaaGreatDoorMQbDiL
import Derived.Deep.RegionHeld3
import Derived.BigFrame
import Derived.Test.YtekcjfdllclphaaGreatDoorMQbGen
import Derived.Deep.LoopGhost
set_option linter.unusedVariables false
set_option linter.unusedSimpArgs false
section
namespace Go.Proofs.YtekcjfdllclphaaGreatDoor.od
open Go.Proofs.YtekcjfdllclphaaGreatDoor.un
open Go.Proofs.YtekcjfdllclphaaGreatDoor.di
open Go.Proofs.YtekcjfdllclphaaGreatDoor.sp
structure Ord where
 kind:Nat
 job:Int
 n:Int
 name:Tx
 pool:Tx
 user:Tx
 size:Int
 yes:Bool
 slip:Slip
deriving DecidableEq
def Ord.zero:Ord:=⟨0,0,0,[],[],[],0,false,Slip.zero⟩
def Ord.at (k:Nat):Ord:=⟨k,0,0,[],[],[],0,false,Slip.zero⟩
def wordO:Nat→Tx
 | 1=>[116,105,99,107]
 | 2=>[115,117,98,109,105,116]
 | 3=>[99,97,110,99,101,108]
 | 4=>[104,111,108,100]
 | 5=>[114,101,108,101,97,115,101]
 | 6=>[113,111,115]
 | 7=>[101,110,100]
 | 8=>[102,97,117,108,116]
 | 9=>[102,97,105,108]
 | 10=>[117,112]
 | 11=>[100,114,97,105,110]
 | 12=>[114,101,115,117,109,101]
 | 13=>[99,108,111,115,101]
 | 14=>[111,112,101,110]
 | 15=>[109,97,107,101]
 | 16=>[100,114,111,112]
 | 17=>[115,116,97,116,117,115]
 | 18=>[112,111,111,108]
 | _=>[]
def nK:Tx:=[110]
def resK:Tx:=[114,101,115,117,108,116]
def badW:Tx:=[98,97,100]
def subL:Tx:=[115,117,98,109,105,116,10]
def hasJ (k:Nat):Bool:=decide ((3≤k∧k≤8)∨k=17)
def hasN (k:Nat):Bool:=decide (k=1∨k=6∨(9≤k∧k≤12))
def hasU (k:Nat):Bool:=decide (k=15∨k=16)
def hasP (k:Nat):Bool:=decide ((13≤k∧k≤15)∨k=18)
def lo (k:Nat):Nat:=if k=1 then 1 else 0
def hi (k:Nat):Nat:=if k=1 then 1000 else if k=6 then 9 else 63
def keysO (k:Nat):List Tx:=(if hasJ k then [jobW] else [])++(if hasN k then [nK] else [])++(if k=7 then [resK] else [])++(if hasU k then [userK,nameK] else [])++(if k=15 then [capK] else [])++(if hasP k then [poolK] else [])++(if k=15 then [accK] else [])
def fsO (o:Ord):List Fl:=(if hasJ o.kind then [(jobW,txt o.job)] else [])++(if hasN o.kind then [(nK,txt o.n)] else [])++(if o.kind=7 then [(resK,if o.yes then okW else badW)] else [])++(if hasU o.kind then [(userK,o.user),(nameK,o.name)] else [])++(if o.kind=15 then [(capK,stxt o.size)] else [])++(if hasP o.kind then [(poolK,o.pool)] else [])++(if o.kind=15 then [(accK,if o.yes then pubV else priV)] else [])
theorem keys_fs (o:Ord):(fsO o).map (·.1)=keysO o.kind:=by
 unfold fsO keysO
 simp only [List.map_append]
 repeat' split
 all_goals rfl
def txtO (o:Ord):Tx:=if o.kind=2 then subL++txtS o.slip else joinC 32 (wordO o.kind::(fsO o).map wtx)
structure OkO (o:Ord):Prop where
 kind:1≤o.kind∧o.kind≤18
 slip1:o.kind=2→Ok o.slip
 slip0:o.kind≠2→o.slip=Slip.zero
 n1:hasN o.kind=true→(lo o.kind:Int)≤o.n∧o.n≤hi o.kind
 n0:hasN o.kind=false→o.n=0
 job1:hasJ o.kind=true→1≤o.job∧o.job≤1073741824
 job0:hasJ o.kind=false→o.job=0
 name1:hasU o.kind=true→isName o.name=true∧isName o.user=true
 name0:hasU o.kind=false→o.name=[]∧o.user=[]
 pool1:hasP o.kind=true→isName o.pool=true
 pool0:hasP o.kind=false→o.pool=[]
 size1:o.kind=15→1≤o.size∧o.size≤1099511627776
 size0:o.kind≠15→o.size=0
 yes0:o.kind≠7→o.kind≠15→o.yes=false
def chkO (o:Ord):Bool:=decide ((1≤o.kind∧o.kind≤18)∧(o.kind=2→chkS o.slip=true)∧(o.kind≠2→o.slip=Slip.zero)∧(hasN o.kind=true→(lo o.kind:Int)≤o.n∧o.n≤hi o.kind)∧(hasN o.kind=false→o.n=0)
 ∧ (hasJ o.kind=true→1≤o.job∧o.job≤1073741824)∧(hasJ o.kind=false→o.job=0)∧(hasU o.kind=true→isName o.name=true∧isName o.user=true)∧(hasU o.kind=false→o.name=[]∧o.user=[])
 ∧ (hasP o.kind=true→isName o.pool=true)∧(hasP o.kind=false→o.pool=[])∧(o.kind=15→1≤o.size∧o.size≤1099511627776)∧(o.kind≠15→o.size=0)∧(o.kind≠7→o.kind≠15→o.yes=false))
theorem chkO_iff (o:Ord):chkO o=true↔OkO o:=by
 unfold chkO
 rw [decide_eq_true_eq,chkS_iff]
 exact ⟨fun ⟨a,b,c,d,e,f,g,h,i,j,k,l,m,n⟩=>⟨a,b,c,d,e,f,g,h,i,j,k,l,m,n⟩,fun ⟨a,b,c,d,e,f,g,h,i,j,k,l,m,n⟩=>⟨a,b,c,d,e,f,g,h,i,j,k,l,m,n⟩⟩
def ostep (k:Nat) (o:Ord) (f:Fl):Option Ord :=
 if f.1=jobW then (within? f.2 1 1073741824).map fun n=>{ o with job:=(n:Int) }
 else if f.1=nK then (within? f.2 (lo k) (hi k)).map fun n=>{ o with n:=(n:Int) }
 else if f.1=resK then (if f.2=okW then some { o with yes:=true } else if f.2=badW then some { o with yes:=false } else none)
 else if f.1=userK then (if isName f.2=true then some { o with user:=f.2 } else none)
 else if f.1=nameK then (if isName f.2=true then some { o with name:=f.2 } else none)
 else if f.1=capK then (match size? f.2 with
  | some n=>if 0 < n then some { o with size:=(n:Int) } else none
  | none=>none)
 else if f.1=poolK then (if isName f.2=true then some { o with pool:=f.2 } else none)
 else if f.1=accK then (if f.2=pubV then some { o with yes:=true } else if f.2=priV then some { o with yes:=false } else none)
 else none
def orun (k:Nat):Ord→List Tx→List Tx→Option Ord
 | o,[],[]=>some o
 | o,key::ks,w::ws=>match cut w with
  | some f=>if f.1=key then match ostep k o f with
   | some o'=>orun k o' ks ws
   | none=>none
   else none
  | none=>none
 | _,_,_=>none
def kindO? (w:Tx):Option Nat:=((List.range 19).filter fun k=>decide (k≠0∧k≠2∧wordO k=w)).head?
def oread (s:Tx):Ord × Int × Nat:=if subL.isPrefixOf s=true then (match sread (s.drop 7) with
  | (x,e,i)=>if e=0 then ({ Ord.at 2 with slip:=x },0,0) else (Ord.zero,e,i+1))
 else match cuts 32 s with
  | w::ws=>(match kindO? w with
   | some k=>(match orun k (Ord.at k) (keysO k) ws with
    | some o=>(o,0,0)
    | none=>(Ord.zero,160,1))
   | none=>(Ord.zero,160,1))
  | []=>(Ord.zero,160,1)
end Go.Proofs.YtekcjfdllclphaaGreatDoor.od
end
section
namespace Go.Proofs.YtekcjfdllclphaaGreatDoor.od
open Go.Proofs.YtekcjfdllclphaaGreatDoor.un
open Go.Proofs.YtekcjfdllclphaaGreatDoor.di
open Go.Proofs.YtekcjfdllclphaaGreatDoor.sp
open Go.Lib (decDigits)
theorem eighteen {k:Nat} (h:1≤k∧k≤18):k=1∨k=2∨k=3∨k=4∨k=5∨k=6∨k=7∨k=8∨k=9∨k=10∨k=11∨k=12∨k=13∨k=14∨k=15∨k=16∨k=17∨k=18:=by omega
theorem kindO_word {k:Nat} (h:1≤k∧k≤18) (h2:k≠2):kindO? (wordO k)=some k:=by
 rcases eighteen h with rfl | rfl | rfl | rfl | rfl | rfl | rfl | rfl | rfl | rfl | rfl | rfl | rfl | rfl | rfl | rfl | rfl | rfl <;> first | (exfalso;exact h2 rfl) | decide +kernel
theorem kindO_some {w:Tx} {k:Nat} (h:kindO? w=some k):(1≤k∧k≤18)∧k≠2∧w=wordO k:=by
 unfold kindO? at h
 have hm:=List.mem_of_mem_head? h
 simp only [List.mem_filter,List.mem_range,decide_eq_true_eq] at hm
 exact ⟨⟨by omega,by omega⟩,hm.2.2.1,hm.2.2.2.symm⟩
theorem word_plain {k:Nat} (h:1≤k∧k≤18):plain (wordO k)∧wordO k≠[]∧(wordO k).length≤7:=by
 rcases eighteen h with rfl | rfl | rfl | rfl | rfl | rfl | rfl | rfl | rfl | rfl | rfl | rfl | rfl | rfl | rfl | rfl | rfl | rfl <;> (unfold plain;decide)
theorem no_sub {k:Nat} (h:1≤k∧k≤18) (r:Tx):subL.isPrefixOf (wordO k)=false∧subL.isPrefixOf (wordO k++32::r)=false:=by
 rcases eighteen h with rfl | rfl | rfl | rfl | rfl | rfl | rfl | rfl | rfl | rfl | rfl | rfl | rfl | rfl | rfl | rfl | rfl | rfl <;> exact ⟨by decide,by simp [subL,wordO,List.isPrefixOf]⟩
theorem ostep_job (k:Nat) (o:Ord) {n:Int} (h0:1≤n) (h1:n≤1073741824):ostep k o (jobW,txt n)=some { o with job:=n }:=by
 unfold ostep
 rw [if_pos rfl,within_txt (a:=1) (b:=1073741824) h0 h1 (by decide)]
 show some { o with job:=((n.toNat:Nat):Int) }=_
 rw [toNat_back (by omega)]
theorem hi_top (k:Nat):hi k≤1099511627776:=by
 unfold hi
 repeat' split
 all_goals decide
theorem ostep_n (k:Nat) (o:Ord) {n:Int} (h0:(lo k:Int)≤n) (h1:n≤hi k):ostep k o (nK,txt n)=some { o with n:=n }:=by
 unfold ostep
 rw [if_neg (show ¬ nK=jobW by decide),if_pos rfl,within_txt (a:=lo k) (b:=hi k) h0 h1 (hi_top k)]
 show some { o with n:=((n.toNat:Nat):Int) }=_
 rw [toNat_back (by omega)]
theorem ostep_res (k:Nat) (o:Ord) (b:Bool):ostep k o (resK,if b then okW else badW)=some { o with yes:=b }:=by
 cases b <;> rfl
theorem ostep_user (k:Nat) (o:Ord) {v:Tx} (h:isName v=true):ostep k o (userK,v)=some { o with user:=v }:=by
 show (if isName v=true then _ else _)=_
 rw [if_pos h]
theorem ostep_name (k:Nat) (o:Ord) {v:Tx} (h:isName v=true):ostep k o (nameK,v)=some { o with name:=v }:=by
 show (if isName v=true then _ else _)=_
 rw [if_pos h]
theorem ostep_pool (k:Nat) (o:Ord) {v:Tx} (h:isName v=true):ostep k o (poolK,v)=some { o with pool:=v }:=by
 show (if isName v=true then _ else _)=_
 rw [if_pos h]
theorem ostep_cap (k:Nat) (o:Ord) {v:Tx} {n:Nat} (h:size? v=some n) (h0:0 < n):ostep k o (capK,v)=some { o with size:=(n:Int) }:=by
 show (match size? v with
  | some n=>if 0 < n then some { o with size:=(n:Int) } else none
  | none=>none)=_
 rw [h]
 dsimp only
 rw [if_pos h0]
theorem ostep_acc (k:Nat) (o:Ord) (b:Bool):ostep k o (accK,if b then pubV else priV)=some { o with yes:=b }:=by
 cases b <;> rfl
theorem cap_stxt {n:Int} (h:1≤n∧n≤1099511627776):∃ m:Nat,size? (stxt n)=some m∧0 < m∧(m:Int)=n:=by
 obtain ⟨m,rfl⟩:∃ m:Nat,n=(m:Int):=⟨n.toNat,by omega⟩
 exact ⟨m,size_stxt (by unfold top;omega),by omega,rfl⟩
theorem orun_cons (k:Nat) (o:Ord) (f:Fl) (ks ws:List Tx) (h:(61:UInt8) ∉ f.1):orun k o (f.1::ks) (wtx f::ws)=match ostep k o f with
  | some o'=>orun k o' ks ws
  | none=>none:=by
 rw [orun,cut_wtx h]
 dsimp only
 rw [if_pos rfl]
 all_goals (cases ostep k o f <;> rfl)
theorem orun_fs (k:Nat):∀ (fs:List Fl) (o:Ord),(∀ f∈fs,(61:UInt8) ∉ f.1)→orun k o (fs.map (·.1)) (fs.map wtx)=fs.foldlM (ostep k) o
 | [],o,_=>rfl
 | f::fs,o,h=>by
  rw [List.map_cons,List.map_cons,orun_cons k o f _ _ (h f (by simp)),List.foldlM_cons]
  cases hs:ostep k o f with
  | none=>rfl
  | some o'=>exact orun_fs k fs o' fun g hg=>h g (by simp [hg])
theorem orun_inv (k:Nat):∀ (ks ws:List Tx) (o o':Ord),orun k o ks ws=some o'→∃ fs:List Fl,ws=fs.map wtx∧fs.map (·.1)=ks∧fs.foldlM (ostep k) o=some o'∧∀ f∈fs,(61:UInt8) ∉ f.1
 | [],[],o,o',h=>⟨[],rfl,rfl,h,by simp⟩
 | [],_::_,o,o',h=>by cases h
 | _::_,[],o,o',h=>by cases h
 | key::ks,w::ws,o,o',h=>by
  rw [orun] at h
  cases hc:cut w with
  | none=>rw [hc] at h;cases h
  | some f =>
   rw [hc] at h
   dsimp only at h
   by_cases hk:f.1=key
   ·rw [if_pos hk] at h
    cases hs:ostep k o f with
    | none=>rw [hs] at h;cases h
    | some o1 =>
     rw [hs] at h
     obtain ⟨fs,h1,h2,h3,h4⟩:=orun_inv k ks ws o1 o' h
     have hw:=cut_some w f.1 f.2 hc
     refine ⟨f::fs,by rw [h1,hw.1];rfl,by rw [List.map_cons,h2,hk],by rw [List.foldlM_cons,hs];exact h3,?_⟩
     intro g hg
     rcases List.mem_cons.1 hg with rfl | hg
     ·exact hw.2
     ·exact h4 g hg
   ·rw [if_neg hk] at h
    cases h
theorem key_clean {k:Nat} {key:Tx} (h:key∈keysO k):(61:UInt8) ∉ key∧plain key:=by
 unfold keysO at h
 have:key=jobW∨key=nK∨key=resK∨key=userK∨key=nameK∨key=capK∨key=poolK∨key=accK:=by
  simp only [List.mem_append] at h
  rcases h with ((((((h | h) | h) | h) | h) | h) | h) <;> split at h <;> simp at h <;> first | (rcases h with h | h <;> simp [h]) | simp [h]
 rcases this with rfl | rfl | rfl | rfl | rfl | rfl | rfl | rfl <;> (unfold plain;decide)
theorem fs_key {o:Ord} {f:Fl} (h:f∈fsO o):(61:UInt8) ∉ f.1∧plain f.1:=key_clean (k:=o.kind) (by
 rw [←keys_fs]
 exact List.mem_map.2 ⟨f,h,rfl⟩)
end Go.Proofs.YtekcjfdllclphaaGreatDoor.od
end
section
namespace Go.Proofs.YtekcjfdllclphaaGreatDoor.sp
open Go.Proofs.YtekcjfdllclphaaGreatDoor.un
open Go.Proofs.YtekcjfdllclphaaGreatDoor.di
open Go.Proofs.YtekcjfdllclphaaGreatDoor.gn (str str_size)
theorem cuts_spec (c:UInt8):∀ (n:Nat) (l:Tx),l.length≤n→Lib.splitK [c] 0 (Lib.count l [c]) l=cuts c l∧Lib.count l [c]+1=(cuts c l).length
 | n,l,hn=>by
  by_cases hm:c∈l
  ·obtain ⟨a,r,rfl,ha⟩:=List.eq_append_cons_of_mem hm
   have hi:=idx_app a r ha
   have hd:(a++c::r).drop (a.length+1)=r:=by
    rw [List.drop_append]
    simp
   have hc:Lib.count (a++c::r) [c]=1+Lib.count r [c]:=by
    have:=Lib.count_hit (s:=a++c::r) (sub:=[c]) (by simp) hi
    rw [this]
    congr 2
   rw [hc,cuts_app c a r ha]
   cases n with
   | zero=>simp at hn
   | succ n =>
    obtain ⟨i1,i2⟩:=cuts_spec c n r (by simp at hn;omega)
    constructor
    ·rw [Nat.add_comm 1]
     unfold Lib.splitK
     have hne:¬ ((((a.length:Nat):Int) == -1)=true):=by simp
     rw [hi,if_neg hne]
     congr 1
     ·simp
     ·rw [Int.toNat_natCast,show ([c]:Tx).length=1 from rfl,hd]
      exact i1
    ·rw [List.length_cons,← i2]
     omega
  ·have hi:=idx_none hm
   have hc:Lib.count l [c]=0:=Lib.count_miss hi
   rw [hc,cuts_one c l hm]
   exact ⟨rfl,rfl⟩
theorem countB_cuts (c:UInt8) (l:Tx):Lib.countB (str l) (str [c])+1=(cuts c l).length:=by
 have h:=(cuts_spec c l.length l (Nat.le_refl _)).2
 rw [←h]
 unfold Lib.countB
 congr 1
theorem splitB_cuts (c:UInt8) (l:Tx):Lib.splitB (str [c]) 0 (Lib.countB (str l) (str [c])) (str l)=(cuts c l).map str:=by
 have h:=(cuts_spec c l.length l (Nat.le_refl _)).1
 apply map_str
 rw [Lib.splitB_data,← h]
 have e1:(str [c]).data.toList=[c]:=rfl
 have e2:(str l).data.toList=l:=by simp [str]
 rw [e1,e2]
 unfold Lib.countB
 rw [e1,e2]
theorem cutB_mem (c:UInt8):∀ {l:Tx},cutB c l=none↔c ∉ l
 | []=>by simp [cutB]
 | b::l=>by
  unfold cutB
  by_cases hb:b=c
  ·simp [hb]
  ·rw [if_neg hb]
   have:=cutB_mem c (l:=l)
   simp only [Option.map_eq_none_iff,this,List.mem_cons,not_or]
   exact ⟨fun h=>⟨fun e=>hb e.symm,h⟩,fun h=>h.2⟩
theorem cutB_some (c:UInt8):∀ (l a r:Tx),cutB c l=some (a,r)→l=a++c::r∧c ∉ a
 | [],a,r,h=>by cases h
 | b::l,a,r,h=>by
  unfold cutB at h
  by_cases hb:b=c
  ·rw [if_pos hb] at h
   cases h
   exact ⟨by rw [hb];rfl,by simp⟩
  ·rw [if_neg hb] at h
   obtain ⟨p,hp,e⟩:=Option.map_eq_some_iff.1 h
   cases e
   obtain ⟨h1,h2⟩:=cutB_some c l p.1 p.2 hp
   refine ⟨by rw [List.cons_append,← h1],?_⟩
   simp only [List.mem_cons,not_or]
   exact ⟨fun e=>hb e.symm,h2⟩
def fldB (c:UInt8) (w:Tx):Tx × Tx:=(cutB c w).getD (w,[])
theorem cutB_lib (c:UInt8) (w:Tx):Lib.cut w [c]=((fldB c w).1,(fldB c w).2,(cutB c w).isSome):=by
 unfold Lib.cut fldB
 cases hc:cutB c w with
 | none =>
  rw [idx_none ((cutB_mem c).1 hc),if_neg (by decide)]
  rfl
 | some f =>
  obtain ⟨e,hn⟩:=cutB_some c w f.1 f.2 hc
  have hi:=idx_app f.1 f.2 hn
  rw [←e] at hi
  rw [hi,if_pos (by omega)]
  simp only [Int.toNat_natCast,Option.getD_some,Option.isSome_some]
  have h1:w.take f.1.length=f.1:=by rw [e];simp
  have h2:w.drop (f.1.length+([c]:Tx).length)=f.2:=by
   rw [e,List.drop_append]
   simp
  rw [h1,h2]
theorem fldB_len (c:UInt8) (x:Tx):(fldB c x).1.length≤x.length∧(fldB c x).2.length≤x.length:=by
 unfold fldB
 cases hc:cutB c x with
 | none=>simp
 | some f =>
  obtain ⟨e,_⟩:=cutB_some c x f.1 f.2 hc
  simp only [Option.getD_some]
  rw [e]
  simp
  omega
theorem cuts_len (c:UInt8):∀ l:Tx,(cuts c l).length≤l.length+1
 | []=>by simp [cuts]
 | b::r=>by
  have ih:=cuts_len c r
  by_cases hb:b=c
  ·subst hb
   rw [cuts_bl,List.length_cons,List.length_cons]
   omega
  ·rw [cuts_nb hb]
   cases hc:cuts c r with
   | nil=>exact absurd hc (cuts_ne c r)
   | cons h t=>rw [hc] at ih;simp only [List.length_cons] at ih ⊢;omega
theorem cuts_mem_len (c:UInt8):∀ (l w:Tx),w∈cuts c l→w.length≤l.length
 | [],w,h=>by simp [cuts] at h;subst h;simp
 | b::r,w,h=>by
  have ih:=cuts_mem_len c r
  by_cases hb:b=c
  ·subst hb
   rw [cuts_bl] at h
   rcases List.mem_cons.1 h with rfl | h
   ·simp
   ·have:=ih w h;simp only [List.length_cons];omega
  ·rw [cuts_nb hb] at h
   cases hc:cuts c r with
   | nil=>exact absurd hc (cuts_ne c r)
   | cons x t =>
    rw [hc] at h ih
    rcases List.mem_cons.1 h with rfl | h
    ·have:=ih x (by simp);simp only [List.length_cons];omega
    ·have:=ih w (by simp [h]);simp only [List.length_cons];omega
end Go.Proofs.YtekcjfdllclphaaGreatDoor.sp
namespace Go.Proofs.YtekcjfdllclphaaGreatDoor.gn
open Go.RowKit
open Go.Proofs.YtekcjfdllclphaaGreatDoor.un
open Go.Proofs.YtekcjfdllclphaaGreatDoor.di
open Go.Proofs.YtekcjfdllclphaaGreatDoor.sp (Slip cuts cutB within? dep? fput frun first? userK nodesK wallK qosK afterK okW anyW jobW pput pline pread chkS Ok shortP soundP waitsP storedP apartP dirsP dropD useD capD innD outD txtS line1 dirsS sread fldB fldB_len cutB_lib cuts_len cuts_mem_len countB_cuts splitB_cuts)
theorem cut_c (c:UInt8) (x:Tx) (hx:x.length≤100000) (w:World) (hL:LaidD w) :
  Calls Tryz.prog 16 #[.string (str x),.string { data:=#[c] }] w (Told (.tuple #[.string (str (fldB c x).1),.string (str (fldB c x).2),.bool (cutB c x).isSome]) w):=by
 obtain ⟨m,hm⟩:=hL.max
 refine (Any.strings_Cut layCut (str x) (str [c]) m w (by rw [str_size];omega) hm).mono ?_
 rintro e w' ⟨he,n,hw⟩
 have e1:(str x).data.toList=x:=by simp [str]
 have e2:(str [c]).data.toList=[c]:=rfl
 rw [e1,e2,cutB_lib] at he
 exact ⟨he,by rw [hw];exact Joins.below_draws _ _ _⟩
theorem split_c (c:UInt8) (l:Tx) (hl:l.length≤100000) (w:World) (hL:LaidD w) :
  Calls Tryz.prog 107 #[.string (str l),.string { data:=#[c] }] w fun e w'=>e=.returned (.slice (some ⟨w.heap.size,0,none⟩) (cuts c l).length (cuts c l).length)∧Prts w' w.heap.size 0 (cuts c l)∧Below w.heap.size w w':=by
 obtain ⟨m,hm⟩:=hL.max
 refine (Any.strings_Split laySplit (by kernel_rfl) (str l) (str [c]) m w (by rw [str_size];omega) hm (by rw [str_size];simp)).mono ?_
 rintro e w' ⟨he,hw⟩
 rw [countB_cuts] at he
 rw [splitB_cuts] at hw
 refine ⟨he,⟨by rw [hw];simp,fun i x hx=>?_⟩,by rw [hw];exact (Below.refl _ _).alloc (Nat.le_refl _) _⟩
 rw [hw,World.cell?_alloc_mark]
 simp [hx]
theorem step_app {t e:TypeId} {z:Value} {size bytes:Nat} (E:EltI t e z size bytes) {ops:Array Oper} {o:Oper} {a:Act} {w:World} {K:Act→World→Prop} {Q:Exit→Act→World→Prop} {EE:Prop} (hgd:o.guard=none) (s x:Operand)
  (ho:o.op=.call { callee:=.builtin .append,args:=#[s,x],argTypes:=#[t,t] })
  {base n:Nat} {v:Value} {cs:List Value} (hs:a.eval s=v) (hown:w.ownsRow base e size v n cs) (ad:Addr) (ds:List Value) (hx:a.eval x=.slice (some ad) 1 1) (hc:∀ j u,ds[j]?=some u→w.cell? (ad.add j)=some u) (hd:ds.length=size)
  (h1:∀ u∈ds,u.oneCell'=true) (hlen:n≤1000000) (hby:bytes≤100) (hb:base≤w.heap.size)
  (hK:∀ g c w',w'.ownsRow base e size (.slice (some ⟨g,0,none⟩) (n+1) c) (n+1) (cs++ds)→w.grownBy w' v.ownBlock→(some g=v.ownBlock∨g=w.heap.size)→K (a.put o.dst (.slice (some ⟨g,0,none⟩) (n+1) c)) w') :
  if Region.wanted o (yielded ops a.tmps)=true then Oper.wp Tryz.prog o a w K Q else EE:=by
 have hw:Region.wanted o (yielded ops a.tmps)=true:=by simp [Region.wanted,hgd]
 rw [if_pos hw]
 obtain ⟨v',w',hrun,r1,r2,r4⟩:=run_own E o.type hown hc (by rw [hd,Nat.one_mul]) h1 (show n+1≤maxLen by unfold maxLen;omega) (by have:(n+1) * bytes≤1000001 * 100:=Nat.mul_le_mul (by omega) hby;omega) hb (show 0 < 1 by decide) (c:=1)
 have hform:∃ g c,v'=.slice (some ⟨g,0,none⟩) (n+1) c:=by
  rcases r1.2 with ⟨_,h0⟩ | ⟨g,cap,cur,e,_⟩
  ·omega
  ·exact ⟨_,_,e⟩
 obtain ⟨g,c,rfl⟩:=hform
 unfold Oper.wp
 simp [execOp,ho,resolve,invoke,builtin,hs,hx,hrun,Result.andThen]
 refine hK g c w' r1 r2 ?_
 rcases r4 with e | e
 ·exact .inl e
 ·exact .inr (Option.some.inj e)
section
variable {w W1 w6 : World} {R : Nat} {x : Slip} {line : Int} {g : Gh}
theorem Rdr.mid_a (h:Rdr w R x line g) (hW:Below w.heap.size w W1) (h2:W1.grownBy w6 g.a.ownBlock):BoxA w6 R 107 (rcs x g line):=by
 have h1:BoxA W1 R 107 (rcs x g line):=BoxA.next h.box hW
 exact (h2.block R h1.lt (fun e=>by have:=(World.ownsRow.lt h.a R e.symm).1;omega)).trans h1
theorem Rdr.push_a (h:Rdr w R x line g) (hW:Below w.heap.size w W1) (d:Dep) {v':Value} (h1:w6.ownsRow (R+1) 88 2 v' (x.after.length+1) (flA x.after++cA d)) (h2:W1.grownBy w6 g.a.ownBlock) (h3:v'.ownBlock=g.a.ownBlock∨v'.ownBlock=some W1.heap.size) :
  Rdr (w6.setCell ⟨R,4,none⟩ v') R { x with after:=x.after++[d] } line { g with a:=v' }∧Kp R g { g with a:=v' } w (w6.setCell ⟨R,4,none⟩ v'):=by
 have hbx:=h.mid_a hW h2
 have hR:=h.box.lt
 have hset:∀ b,b≠R→(w6.setCell ⟨R,4,none⟩ v').heap[b]?=w6.heap[b]?:=fun b hb=>Below.heap_setCell _ _ _ _ hb
 have hold:∀ b,b < w.heap.size→b≠R→g.a.ownBlock≠some b→(w6.setCell ⟨R,4,none⟩ v').heap[b]?=w.heap[b]?:=fun b hb hne hn =>
  (hset b hne).trans ((h2.block b (Nat.lt_of_lt_of_le hb hW.size) (fun e=>hn e.symm)).trans (hW.block b hb))
 have hrow:∀ {e:TypeId} {size:Nat} {v:Value} {n:Nat} {cs:List Value},w.ownsRow (R+1) e size v n cs→(∀ b,v.ownBlock=some b→g.a.ownBlock≠some b)→(w6.setCell ⟨R,4,none⟩ v').ownsRow (R+1) e size v n cs:=fun ho hn =>
  own_same ho fun b hb=>hold b (World.ownsRow.lt ho b hb).2 (by have:=(World.ownsRow.lt ho b hb).1;omega) (hn b hb)
 have hnew:(w6.setCell ⟨R,4,none⟩ v').ownsRow (R+1) 88 2 v' (x.after++[d]).length (flA (x.after++[d])):=by
  rw [List.length_append,flA_app]
  exact own_same h1 fun b hb=>hset b (by have:=(World.ownsRow.lt h1 b hb).1;omega)
 refine ⟨⟨?_,hnew,hrow h.m (fun b hb e=>own_apart h.m h.a (by decide) hb e),hrow h.d (fun b hb e=>own_apart h.d h.a (by decide) hb e),hrow h.u (fun b hb e=>own_apart h.u h.a (by decide) hb e),h.du⟩,⟨?_,fun b hb hm=>hold b hb (fun e=>hm (.inl e)) (fun e=>hm (.inr (.inl e))),fun b hb=>?_⟩⟩
 ·exact hbx.set 4 v'
 ·have hlow:Below R w W1:=hW.mono (Nat.le_of_lt hR)
  refine (hlow.grown h2 (Nat.le_trans (Nat.le_of_lt hR) hW.size) (fun b e=>by have:=(World.ownsRow.lt h.a b e).1;omega)).setCell (p:=⟨R,4,none⟩) (Nat.le_refl _) v'
 ·rcases hb with hb | hb | hb | hb | hb
  ·exact .inl (.inl hb)
  ·rcases h3 with h4 | h4
   ·exact .inl (.inr (.inl (h4.symm.trans hb)))
   ·have h5:b=W1.heap.size:=Option.some.inj (hb.symm.trans h4)
    exact .inr (by rw [h5];exact hW.size)
  ·exact .inl (.inr (.inr (.inl hb)))
  ·exact .inl (.inr (.inr (.inr (.inl hb))))
  ·exact .inl (.inr (.inr (.inr (.inr hb))))
theorem Rdr.mid_m (h:Rdr w R x line g) (hW:Below w.heap.size w W1) (h2:W1.grownBy w6 g.m.ownBlock):BoxA w6 R 107 (rcs x g line):=by
 have h1:BoxA W1 R 107 (rcs x g line):=BoxA.next h.box hW
 exact (h2.block R h1.lt (fun e=>by have:=(World.ownsRow.lt h.m R e.symm).1;omega)).trans h1
theorem Rdr.push_m (h:Rdr w R x line g) (hW:Below w.heap.size w W1) (d:Dir) {v':Value} (h1:w6.ownsRow (R+1) 80 5 v' (x.make.length+1) (flM x.make++cM d)) (h2:W1.grownBy w6 g.m.ownBlock) (h3:v'.ownBlock=g.m.ownBlock∨v'.ownBlock=some W1.heap.size) :
  Rdr (w6.setCell ⟨R,9,none⟩ v') R { x with make:=x.make++[d] } line { g with m:=v' }∧Kp R g { g with m:=v' } w (w6.setCell ⟨R,9,none⟩ v'):=by
 have hbx:=h.mid_m hW h2
 have hR:=h.box.lt
 have hset:∀ b,b≠R→(w6.setCell ⟨R,9,none⟩ v').heap[b]?=w6.heap[b]?:=fun b hb=>Below.heap_setCell _ _ _ _ hb
 have hold:∀ b,b < w.heap.size→b≠R→g.m.ownBlock≠some b→(w6.setCell ⟨R,9,none⟩ v').heap[b]?=w.heap[b]?:=fun b hb hne hn =>
  (hset b hne).trans ((h2.block b (Nat.lt_of_lt_of_le hb hW.size) (fun e=>hn e.symm)).trans (hW.block b hb))
 have hrow:∀ {e:TypeId} {size:Nat} {v:Value} {n:Nat} {cs:List Value},w.ownsRow (R+1) e size v n cs→(∀ b,v.ownBlock=some b→g.m.ownBlock≠some b)→(w6.setCell ⟨R,9,none⟩ v').ownsRow (R+1) e size v n cs:=fun ho hn =>
  own_same ho fun b hb=>hold b (World.ownsRow.lt ho b hb).2 (by have:=(World.ownsRow.lt ho b hb).1;omega) (hn b hb)
 have hnew:(w6.setCell ⟨R,9,none⟩ v').ownsRow (R+1) 80 5 v' (x.make++[d]).length (flM (x.make++[d])):=by
  rw [List.length_append,flM_app]
  exact own_same h1 fun b hb=>hset b (by have:=(World.ownsRow.lt h1 b hb).1;omega)
 refine ⟨⟨?_,hrow h.a (fun b hb e=>own_apart h.a h.m (by decide) hb e),hnew,hrow h.d (fun b hb e=>own_apart h.d h.m (by decide) hb e),hrow h.u (fun b hb e=>own_apart h.u h.m (by decide) hb e),h.du⟩,⟨?_,fun b hb hm=>hold b hb (fun e=>hm (.inl e)) (fun e=>hm (.inr (.inr (.inl e)))),fun b hb=>?_⟩⟩
 ·exact hbx.set 9 v'
 ·have hlow:Below R w W1:=hW.mono (Nat.le_of_lt hR)
  refine (hlow.grown h2 (Nat.le_trans (Nat.le_of_lt hR) hW.size) (fun b e=>by have:=(World.ownsRow.lt h.m b e).1;omega)).setCell (p:=⟨R,9,none⟩) (Nat.le_refl _) v'
 ·rcases hb with hb | hb | hb | hb | hb
  ·exact .inl (.inl hb)
  ·exact .inl (.inr (.inl hb))
  ·rcases h3 with h4 | h4
   ·exact .inl (.inr (.inr (.inl (h4.symm.trans hb))))
   ·have h5:b=W1.heap.size:=Option.some.inj (hb.symm.trans h4)
    exact .inr (by rw [h5];exact hW.size)
  ·exact .inl (.inr (.inr (.inr (.inl hb))))
  ·exact .inl (.inr (.inr (.inr (.inr hb))))
theorem Rdr.mid_d (h:Rdr w R x line g) (hW:Below w.heap.size w W1) (h2:W1.grownBy w6 g.d.ownBlock):BoxA w6 R 107 (rcs x g line):=by
 have h1:BoxA W1 R 107 (rcs x g line):=BoxA.next h.box hW
 exact (h2.block R h1.lt (fun e=>by have:=(World.ownsRow.lt h.d R e.symm).1;omega)).trans h1
theorem Rdr.push_d (h:Rdr w R x line g) (hW:Below w.heap.size w W1) (d:Tx) {v':Value} (h1:w6.ownsRow (R+1) 9 1 v' (x.drop.length+1) (flS x.drop++cS d)) (h2:W1.grownBy w6 g.d.ownBlock) (h3:v'.ownBlock=g.d.ownBlock∨v'.ownBlock=some W1.heap.size) :
  Rdr (w6.setCell ⟨R,10,none⟩ v') R { x with drop:=x.drop++[d] } line { g with d:=v' }∧Kp R g { g with d:=v' } w (w6.setCell ⟨R,10,none⟩ v'):=by
 have hbx:=h.mid_d hW h2
 have hR:=h.box.lt
 have hset:∀ b,b≠R→(w6.setCell ⟨R,10,none⟩ v').heap[b]?=w6.heap[b]?:=fun b hb=>Below.heap_setCell _ _ _ _ hb
 have hold:∀ b,b < w.heap.size→b≠R→g.d.ownBlock≠some b→(w6.setCell ⟨R,10,none⟩ v').heap[b]?=w.heap[b]?:=fun b hb hne hn =>
  (hset b hne).trans ((h2.block b (Nat.lt_of_lt_of_le hb hW.size) (fun e=>hn e.symm)).trans (hW.block b hb))
 have hrow:∀ {e:TypeId} {size:Nat} {v:Value} {n:Nat} {cs:List Value},w.ownsRow (R+1) e size v n cs→(∀ b,v.ownBlock=some b→g.d.ownBlock≠some b)→(w6.setCell ⟨R,10,none⟩ v').ownsRow (R+1) e size v n cs:=fun ho hn =>
  own_same ho fun b hb=>hold b (World.ownsRow.lt ho b hb).2 (by have:=(World.ownsRow.lt ho b hb).1;omega) (hn b hb)
 have hnew:(w6.setCell ⟨R,10,none⟩ v').ownsRow (R+1) 9 1 v' (x.drop++[d]).length (flS (x.drop++[d])):=by
  rw [List.length_append,flS_app]
  exact own_same h1 fun b hb=>hset b (by have:=(World.ownsRow.lt h1 b hb).1;omega)
 refine ⟨⟨?_,hrow h.a (fun b hb e=>own_apart h.a h.d (by decide) hb e),hrow h.m (fun b hb e=>own_apart h.m h.d (by decide) hb e),hnew,hrow h.u (fun b hb e=>h.du b e hb),fun b hb e=>(h3.elim (fun h4=>h.du b (h4.symm.trans hb) e) (fun h4=>by
  have h5:b=W1.heap.size:=Option.some.inj (hb.symm.trans h4)
  have:=(World.ownsRow.lt h.u b e).2
  have:=hW.size
  omega))⟩,⟨?_,fun b hb hm=>hold b hb (fun e=>hm (.inl e)) (fun e=>hm (.inr (.inr (.inr (.inl e))))),fun b hb=>?_⟩⟩
 ·exact hbx.set 10 v'
 ·have hlow:Below R w W1:=hW.mono (Nat.le_of_lt hR)
  refine (hlow.grown h2 (Nat.le_trans (Nat.le_of_lt hR) hW.size) (fun b e=>by have:=(World.ownsRow.lt h.d b e).1;omega)).setCell (p:=⟨R,10,none⟩) (Nat.le_refl _) v'
 ·rcases hb with hb | hb | hb | hb | hb
  ·exact .inl (.inl hb)
  ·exact .inl (.inr (.inl hb))
  ·exact .inl (.inr (.inr (.inl hb)))
  ·rcases h3 with h4 | h4
   ·exact .inl (.inr (.inr (.inr (.inl (h4.symm.trans hb)))))
   ·have h5:b=W1.heap.size:=Option.some.inj (hb.symm.trans h4)
    exact .inr (by rw [h5];exact hW.size)
  ·exact .inl (.inr (.inr (.inr (.inr hb))))
theorem Rdr.mid_u (h:Rdr w R x line g) (hW:Below w.heap.size w W1) (h2:W1.grownBy w6 g.u.ownBlock):BoxA w6 R 107 (rcs x g line):=by
 have h1:BoxA W1 R 107 (rcs x g line):=BoxA.next h.box hW
 exact (h2.block R h1.lt (fun e=>by have:=(World.ownsRow.lt h.u R e.symm).1;omega)).trans h1
theorem Rdr.push_u (h:Rdr w R x line g) (hW:Below w.heap.size w W1) (d:Tx) {v':Value} (h1:w6.ownsRow (R+1) 9 1 v' (x.use.length+1) (flS x.use++cS d)) (h2:W1.grownBy w6 g.u.ownBlock) (h3:v'.ownBlock=g.u.ownBlock∨v'.ownBlock=some W1.heap.size) :
  Rdr (w6.setCell ⟨R,11,none⟩ v') R { x with use:=x.use++[d] } line { g with u:=v' }∧Kp R g { g with u:=v' } w (w6.setCell ⟨R,11,none⟩ v'):=by
 have hbx:=h.mid_u hW h2
 have hR:=h.box.lt
 have hset:∀ b,b≠R→(w6.setCell ⟨R,11,none⟩ v').heap[b]?=w6.heap[b]?:=fun b hb=>Below.heap_setCell _ _ _ _ hb
 have hold:∀ b,b < w.heap.size→b≠R→g.u.ownBlock≠some b→(w6.setCell ⟨R,11,none⟩ v').heap[b]?=w.heap[b]?:=fun b hb hne hn =>
  (hset b hne).trans ((h2.block b (Nat.lt_of_lt_of_le hb hW.size) (fun e=>hn e.symm)).trans (hW.block b hb))
 have hrow:∀ {e:TypeId} {size:Nat} {v:Value} {n:Nat} {cs:List Value},w.ownsRow (R+1) e size v n cs→(∀ b,v.ownBlock=some b→g.u.ownBlock≠some b)→(w6.setCell ⟨R,11,none⟩ v').ownsRow (R+1) e size v n cs:=fun ho hn =>
  own_same ho fun b hb=>hold b (World.ownsRow.lt ho b hb).2 (by have:=(World.ownsRow.lt ho b hb).1;omega) (hn b hb)
 have hnew:(w6.setCell ⟨R,11,none⟩ v').ownsRow (R+1) 9 1 v' (x.use++[d]).length (flS (x.use++[d])):=by
  rw [List.length_append,flS_app]
  exact own_same h1 fun b hb=>hset b (by have:=(World.ownsRow.lt h1 b hb).1;omega)
 refine ⟨⟨?_,hrow h.a (fun b hb e=>own_apart h.a h.u (by decide) hb e),hrow h.m (fun b hb e=>own_apart h.m h.u (by decide) hb e),hrow h.d (fun b hb e=>h.du b hb e),hnew,fun b hb e=>(h3.elim (fun h4=>h.du b hb (h4.symm.trans e)) (fun h4=>by
  have h5:b=W1.heap.size:=Option.some.inj (e.symm.trans h4)
  have:=(World.ownsRow.lt h.d b hb).2
  have:=hW.size
  omega))⟩,⟨?_,fun b hb hm=>hold b hb (fun e=>hm (.inl e)) (fun e=>hm (.inr (.inr (.inr (.inr e))))),fun b hb=>?_⟩⟩
 ·exact hbx.set 11 v'
 ·have hlow:Below R w W1:=hW.mono (Nat.le_of_lt hR)
  refine (hlow.grown h2 (Nat.le_trans (Nat.le_of_lt hR) hW.size) (fun b e=>by have:=(World.ownsRow.lt h.u b e).1;omega)).setCell (p:=⟨R,11,none⟩) (Nat.le_refl _) v'
 ·rcases hb with hb | hb | hb | hb | hb
  ·exact .inl (.inl hb)
  ·exact .inl (.inr (.inl hb))
  ·exact .inl (.inr (.inr (.inl hb)))
  ·exact .inl (.inr (.inr (.inr (.inl hb))))
  ·rcases h3 with h4 | h4
   ·exact .inl (.inr (.inr (.inr (.inr (h4.symm.trans hb)))))
   ·have h5:b=W1.heap.size:=Option.some.inj (hb.symm.trans h4)
    exact .inr (by rw [h5];exact hW.size)
end
set_option maxRecDepth 100000 in
theorem nodes_any {w:World} {R:Nat} {x:Slip} {line:Int} {g:Gh} (h:Rdr w R x line g) (v:Tx) (hv:v.length≤140737488355328) (hL:LaidU w) :
  Calls Tryz.prog 132 #[.pointer (some ⟨R,0,none⟩),.string (str v)] w (StoT2 R g ((within? v 1 64).map fun n=>{ x with nodes:=(n:Int) }) line w):=by
 have HR:=Lib.hid h
 have HN:=Lib.hid (show Calls Tryz.prog 154 #[.pointer (some ⟨R,0,none⟩),.string (str v),.int .i64 1,.int .i64 64] w (NumT (within? v 1 64) line w) from number_any h v hv 1 64 hL)
 clear h hv hL
 cases hn:within? v 1 64 with
 | none =>
  rw [hn] at HN
  clear hn
  go_enter Tryz.func132,Tryz.ntmps132
  go_wp2_with (go_at_call 154;((with_reducible refine HN.out.mono ?_);rintro e w1 ⟨rfl,hb⟩);have HB:=Lib.hid hb;clear hb)
  exact ⟨rfl,rfl,Lk.of g HB.out (Nat.le_of_lt HR.out.box.lt)⟩
 | some n =>
  rw [hn] at HN
  clear hn
  go_enter Tryz.func132,Tryz.ntmps132
  go_wp2_with (go_at_call 154;((with_reducible refine HN.out.mono ?_);rintro e w1 ⟨rfl,hb⟩);have HB:=Lib.hid hb;have c0:=(HR.out.next hb).box.cell 1 _;have f0:=(HR.out.next hb).box.free 1;have l0:=(HR.out.next hb).box.lt;clear hb)
  go_end0
  have h1:=HR.out.next HB.out
  exact ⟨rfl,g,h1.put 1 _ rfl rfl rfl rfl rfl,(Kp.of g HB.out (Nat.le_of_lt HR.out.box.lt)).trans (Kp.set g _ R 1 _)⟩
set_option maxRecDepth 100000 in
theorem wall_any {w:World} {R:Nat} {x:Slip} {line:Int} {g:Gh} (h:Rdr w R x line g) (v:Tx) (hv:v.length≤140737488355328) (hL:LaidU w) :
  Calls Tryz.prog 133 #[.pointer (some ⟨R,0,none⟩),.string (str v)] w (StoT2 R g ((within? v 1 1048576).map fun n=>{ x with wall:=(n:Int) }) line w):=by
 have HR:=Lib.hid h
 have HN:=Lib.hid (show Calls Tryz.prog 154 #[.pointer (some ⟨R,0,none⟩),.string (str v),.int .i64 1,.int .i64 1048576] w (NumT (within? v 1 1048576) line w) from number_any h v hv 1 1048576 hL)
 clear h hv hL
 cases hn:within? v 1 1048576 with
 | none =>
  rw [hn] at HN
  clear hn
  go_enter Tryz.func133,Tryz.ntmps133
  go_wp2_with (go_at_call 154;((with_reducible refine HN.out.mono ?_);rintro e w1 ⟨rfl,hb⟩);have HB:=Lib.hid hb;clear hb)
  exact ⟨rfl,rfl,Lk.of g HB.out (Nat.le_of_lt HR.out.box.lt)⟩
 | some n =>
  rw [hn] at HN
  clear hn
  go_enter Tryz.func133,Tryz.ntmps133
  go_wp2_with (go_at_call 154;((with_reducible refine HN.out.mono ?_);rintro e w1 ⟨rfl,hb⟩);have HB:=Lib.hid hb;have c0:=(HR.out.next hb).box.cell 2 _;have f0:=(HR.out.next hb).box.free 2;have l0:=(HR.out.next hb).box.lt;clear hb)
  go_end0
  have h1:=HR.out.next HB.out
  exact ⟨rfl,g,h1.put 2 _ rfl rfl rfl rfl rfl,(Kp.of g HB.out (Nat.le_of_lt HR.out.box.lt)).trans (Kp.set g _ R 2 _)⟩
set_option maxRecDepth 100000 in
theorem qos_any {w:World} {R:Nat} {x:Slip} {line:Int} {g:Gh} (h:Rdr w R x line g) (v:Tx) (hv:v.length≤140737488355328) (hL:LaidU w) :
  Calls Tryz.prog 134 #[.pointer (some ⟨R,0,none⟩),.string (str v)] w (StoT2 R g ((within? v 0 9).map fun n=>{ x with qos:=(n:Int) }) line w):=by
 have HR:=Lib.hid h
 have HN:=Lib.hid (show Calls Tryz.prog 154 #[.pointer (some ⟨R,0,none⟩),.string (str v),.int .i64 0,.int .i64 9] w (NumT (within? v 0 9) line w) from number_any h v hv 0 9 hL)
 clear h hv hL
 cases hn:within? v 0 9 with
 | none =>
  rw [hn] at HN
  clear hn
  go_enter Tryz.func134,Tryz.ntmps134
  go_wp2_with (go_at_call 154;((with_reducible refine HN.out.mono ?_);rintro e w1 ⟨rfl,hb⟩);have HB:=Lib.hid hb;clear hb)
  exact ⟨rfl,rfl,Lk.of g HB.out (Nat.le_of_lt HR.out.box.lt)⟩
 | some n =>
  rw [hn] at HN
  clear hn
  go_enter Tryz.func134,Tryz.ntmps134
  go_wp2_with (go_at_call 154;((with_reducible refine HN.out.mono ?_);rintro e w1 ⟨rfl,hb⟩);have HB:=Lib.hid hb;have c0:=(HR.out.next hb).box.cell 3 _;have f0:=(HR.out.next hb).box.free 3;have l0:=(HR.out.next hb).box.lt;clear hb)
  go_end0
  have h1:=HR.out.next HB.out
  exact ⟨rfl,g,h1.put 3 _ rfl rfl rfl rfl rfl,(Kp.of g HB.out (Nat.le_of_lt HR.out.box.lt)).trans (Kp.set g _ R 3 _)⟩
end Go.Proofs.YtekcjfdllclphaaGreatDoor.gn
end
section
namespace Go.Proofs.YtekcjfdllclphaaGreatDoor.gn
open Go.RowKit
open Go.Proofs.YtekcjfdllclphaaGreatDoor.un
open Go.Proofs.YtekcjfdllclphaaGreatDoor.di
open Go.Proofs.YtekcjfdllclphaaGreatDoor.sp (Slip shortP soundP waitsP storedP apartP dirsP dropD useD capD innD outD chkS chkS_P)
theorem own_low {w w':World} {base:Nat} {e:TypeId} {size:Nat} {v:Value} {n:Nat} {cs:List Value} (h:w.ownsRow base e size v n cs) (hg:w.grownBy w' v.ownBlock) (hb:base≤w.heap.size):Below base w w' :=
 (Below.refl _ _).grown hg hb fun k hk=>(World.ownsRow.lt h k hk).1
theorem wpl_app {t e:TypeId} {z:Value} {size bytes:Nat} (E:EltI t e z size bytes) {ops:Array Oper} {rest:List Oper} {o:Oper} {a:Act} {w:World} {Q:Exit→Act→World→Prop} (hgd:o.guard=none) (s x:Operand)
  (ho:o.op=.call { callee:=.builtin .append,args:=#[s,x],argTypes:=#[t,t] })
  {base n:Nat} {v:Value} {cs:List Value} (hs:a.eval s=v) (hown:w.ownsRow base e size v n cs) (ad:Addr) (ds:List Value) (hx:a.eval x=.slice (some ad) 1 1) (hc:∀ j u,ds[j]?=some u→w.cell? (ad.add j)=some u) (hd:ds.length=size)
  (h1:∀ u∈ds,u.oneCell'=true) (hlen:n≤1000000) (hby:bytes≤100) (hb:base≤w.heap.size)
  (hK:∀ g c w',w'.ownsRow base e size (.slice (some ⟨g,0,none⟩) (n+1) c) (n+1) (cs++ds)→Below base w w'→wpList Tryz.prog ops Q rest (a.put o.dst (.slice (some ⟨g,0,none⟩) (n+1) c)) w') :
  wpList Tryz.prog ops Q (o::rest) a w:=by
 refine wpList_plain hgd fun K hK'=>?_
 obtain ⟨v',w',hrun,r1,r2,r4⟩:=run_own E o.type hown hc (by rw [hd,Nat.one_mul]) h1 (show n+1≤maxLen by unfold maxLen;omega) (by have:(n+1) * bytes≤1000001 * 100:=Nat.mul_le_mul (by omega) hby;omega) hb (show 0 < 1 by decide) (c:=1)
 have hform:∃ g c,v'=.slice (some ⟨g,0,none⟩) (n+1) c:=by
  rcases r1.2 with ⟨_,h0⟩ | ⟨g,cap,cur,e,_⟩
  ·omega
  ·exact ⟨_,_,e⟩
 obtain ⟨g,c,rfl⟩:=hform
 unfold Oper.wp
 simp [execOp,ho,resolve,invoke,builtin,hs,hx,hrun,Result.andThen]
 exact hK' _ _ (hK g c w' r1 (own_low hown r2 hb))
theorem wpl_ow {t e:TypeId} {z:Value} {size bytes:Nat} (E:EltI t e z size bytes) {ops:Array Oper} {rest:List Oper} {o:Oper} {a:Act} {w:World} {Q:Exit→Act→World→Prop} (hgd:o.guard=none) (s x:Operand)
  (ho:o.op=.call { callee:=.builtin .append,args:=#[s,x],argTypes:=#[t,t] })
  {base n m:Nat} {v u:Value} {cs ds:List Value} (hs:a.eval s=v) (hown:w.ownsRow base e size v n cs) (hx:a.eval x=u) (hr:RdC w u m ds) (hd:ds.length=m * size)
  (h1:∀ u∈ds,u.oneCell'=true) (hlen:n+m≤1000000) (hby:bytes≤100) (hb:base≤w.heap.size)
  (hK:∀ p c w',w'.ownsRow base e size (.slice p (n+m) c) (n+m) (cs++ds)→Below base w w'→wpList Tryz.prog ops Q rest (a.put o.dst (.slice p (n+m) c)) w') :
  wpList Tryz.prog ops Q (o::rest) a w:=by
 refine wpList_plain hgd fun K hK'=>?_
 obtain ⟨v',w',hrun,r1,r2⟩:=run_ow E o.type hown hr hd h1 (show n+m≤maxLen by unfold maxLen;omega) (by have:(n+m) * bytes≤1000000 * 100:=Nat.mul_le_mul hlen hby;omega) hb
 have hform:∃ p c,v'=.slice p (n+m) c:=by
  rcases r1.2 with ⟨rfl,h0⟩ | ⟨g,cap,cur,e,_⟩
  ·rw [h0];exact ⟨_,_,rfl⟩
  ·exact ⟨_,_,e⟩
 obtain ⟨p,c,rfl⟩:=hform
 unfold Oper.wp
 simp [execOp,ho,resolve,invoke,builtin,hs,hx,hrun,Result.andThen]
 exact hK' _ _ (hK p c w' r1 r2)
structure SW (x:Slip):Prop where
 user:x.user.length≤9223372036854775807
 pool:x.pool.length≤9223372036854775807
 nodes:-9223372036854775808≤x.nodes∧x.nodes≤9223372036854775807
 wall:-9223372036854775808≤x.wall∧x.wall≤9223372036854775807
 qos:-9223372036854775808≤x.qos∧x.qos≤9223372036854775807
 cap:-9223372036854775808≤x.cap∧x.cap≤9223372036854775807
 inn:-9223372036854775808≤x.inn∧x.inn≤9223372036854775807
 out:-9223372036854775808≤x.out∧x.out≤9223372036854775807
 after:∀ d∈x.after,-9223372036854775808≤d.1∧d.1≤9223372036854775807
 make:∀ d∈x.make,DW d
 drop:∀ n∈x.drop,n.length≤9223372036854775807
 use:∀ n∈x.use,n.length≤9223372036854775807
set_option maxRecDepth 100000 in
set_option maxHeartbeats 4000000 in
theorem short_any (x:Slip) (g:Gh) (w:World) (h:SR w x g):Calls Tryz.prog 57 #[sV x g] w (Told (.bool (shortP x)) w):=by
 obtain ⟨va,vm,vd,vu⟩:=g
 obtain ⟨pa,ca,ea,la1,la2⟩:=h.ca
 obtain ⟨pm,cm,em,lm1,lm2⟩:=h.cm
 obtain ⟨pd,cd,ed,ld1,ld2⟩:=h.cd
 obtain ⟨pu,cu,eu,lu1,lu2⟩:=h.cu
 dsimp only at ea em ed eu
 subst ea em ed eu
 have HP:=Lib.hid (show shortP x=(decide (x.after.length≤8) && (decide (x.make.length≤4) && (decide (x.drop.length≤4) && decide (x.use.length≤4)))) by
  unfold shortP
  rw [Bool.eq_iff_iff]
  simp)
 clear h la1 la2 lm1 lm2 ld1 ld2 lu1 lu2
 unfold sV scs
 dsimp only
 generalize x.after.length=na at *
 generalize x.make.length=nm at *
 generalize x.drop.length=nd at *
 generalize x.use.length=nu at *
 generalize str x.user=su at *
 generalize str x.pool=sp at *
 by_cases h1:na≤8
 ·have q1:decide ((na:Int)≤8)=true:=decide_eq_true (by omega)
  by_cases h2:nm≤4
  ·have q2:decide ((nm:Int)≤4)=true:=decide_eq_true (by omega)
   by_cases h3:nd≤4
   ·have q3:decide ((nd:Int)≤4)=true:=decide_eq_true (by omega)
    have HR:=Lib.hid (show shortP x=decide (nu≤4) by rw [HP.out,decide_eq_true h1,decide_eq_true h2,decide_eq_true h3];rfl)
    clear h1 h2 h3
    go_enter Tryz.func57,Tryz.ntmps57
    go_wp2
    go_ret
    exact ⟨by rw [HR.out];show Ending.returned (.bool (decide ((nu:Int)≤4)))=_;congr 2;rw [Bool.eq_iff_iff];simp;omega,(Below.refl _ _).alloc (Nat.le_refl _) _⟩
   ·have q3:decide ((nd:Int)≤4)=false:=decide_eq_false (by omega)
    have HR:=Lib.hid (show shortP x=false by rw [HP.out,decide_eq_false h3];simp)
    clear h1 h2 h3
    go_enter Tryz.func57,Tryz.ntmps57
    go_wp2
    go_ret
    exact ⟨by rw [HR.out];rfl,(Below.refl _ _).alloc (Nat.le_refl _) _⟩
  ·have q2:decide ((nm:Int)≤4)=false:=decide_eq_false (by omega)
   have HR:=Lib.hid (show shortP x=false by rw [HP.out,decide_eq_false h2];simp)
   clear h1 h2
   go_enter Tryz.func57,Tryz.ntmps57
   go_wp2
   go_ret
   exact ⟨by rw [HR.out];rfl,(Below.refl _ _).alloc (Nat.le_refl _) _⟩
 ·have q1:decide ((na:Int)≤8)=false:=decide_eq_false (by omega)
  have HR:=Lib.hid (show shortP x=false by rw [HP.out,decide_eq_false h1];simp)
  clear h1
  go_enter Tryz.func57,Tryz.ntmps57
  go_wp2
  go_ret
  exact ⟨by rw [HR.out];rfl,(Below.refl _ _).alloc (Nat.le_refl _) _⟩
end Go.Proofs.YtekcjfdllclphaaGreatDoor.gn
end
section
namespace Go.Proofs.YtekcjfdllclphaaGreatDoor.gn
open Go.RowKit
open Go.Proofs.YtekcjfdllclphaaGreatDoor.un
open Go.Lib (decFrom)
def quant (n:Int):Bool:=decide (0≤n∧n≤1099511627776)
theorem dquant_any (n:Int) (w:World):Calls Tryz.prog 46 #[.int .i64 n] w fun e w'=>e=.returned (.bool (quant n))∧w=w':=by
 by_cases h0:0≤n
 ·by_cases h1:n≤1099511627776
  ·have H:=Lib.hid (show quant n=true from decide_eq_true ⟨h0,h1⟩)
   have h2:decide (n≤1099511627776)=true:=decide_eq_true h1
   go_enter Tryz.func46,Tryz.ntmps46
   go_wp2
   go_ret
   exact ⟨by rw [H.out];rfl,rfl⟩
  ·have H:=Lib.hid (show quant n=false from decide_eq_false (by omega))
   have h2:decide (n≤1099511627776)=false:=decide_eq_false h1
   go_enter Tryz.func46,Tryz.ntmps46
   go_wp2
   go_ret
   exact ⟨by rw [H.out];rfl,rfl⟩
 ·have H:=Lib.hid (show quant n=false from decide_eq_false (by omega))
  go_enter Tryz.func46,Tryz.ntmps46
  go_wp2
  go_ret
  exact ⟨by rw [H.out];rfl,rfl⟩
theorem digit_any (c:UInt8) (w:World):Calls Tryz.prog 44 #[.int .u8 (c.toNat:Int)] w fun e w'=>e=.returned (.bool (dig c))∧w=w':=by
 by_cases h0:48≤c.toNat
 ·by_cases h1:c.toNat≤57
  ·have H:=Lib.hid (show dig c=true from decide_eq_true ⟨h0,h1⟩)
   have h2:decide ((c.toNat:Int)≤57)=true:=decide_eq_true (by omega)
   go_enter Tryz.func44,Tryz.ntmps44
   go_wp2
   go_ret
   exact ⟨by rw [H.out];rfl,rfl⟩
  ·have H:=Lib.hid (show dig c=false from decide_eq_false (by omega))
   have h2:decide ((c.toNat:Int)≤57)=false:=decide_eq_false (by omega)
   go_enter Tryz.func44,Tryz.ntmps44
   go_wp2
   go_ret
   exact ⟨by rw [H.out];rfl,rfl⟩
 ·have H:=Lib.hid (show dig c=false from decide_eq_false (by omega))
  go_enter Tryz.func44,Tryz.ntmps44
  go_wp2
  go_ret
  exact ⟨by rw [H.out];rfl,rfl⟩
theorem decFrom_step {l:List UInt8} {k acc:Nat} (h:k < l.length) (hd:dig (l[k]'h)=true):decFrom acc (l.drop k)=decFrom (10 * acc+((l[k]'h).toNat - 48)) (l.drop (k+1)):=by
 rw [List.drop_eq_getElem_cons h,Lib.decFrom,digitVal_dig,if_pos hd]
 show decFrom (acc * 10+_) _=_
 rw [Nat.mul_comm]
theorem decFrom_stop {l:List UInt8} {k acc:Nat} (h:k < l.length) (hd:dig (l[k]'h)=false):decFrom acc (l.drop k)=none:=by
 rw [List.drop_eq_getElem_cons h,Lib.decFrom,digitVal_dig,if_neg (by rw [hd];decide)]
theorem num_empty:num? []=none:=rfl
theorem num_lead {l:List UInt8} (h:1 < l.length) (h0:l.head?=some 48):num? l=none:=by
 unfold num?
 rw [if_pos (.inr (.inr ⟨h,h0⟩))]
theorem num_from {l:List UInt8} (h1:l≠[]) (h2:l.length≤13) (h3:1 < l.length→l.head?≠some 48):num? l=match decFrom 0 l with
  | some n=>if n≤top then some n else none
  | none=>none:=by
 unfold num?
 rw [if_neg]
 ·rfl
 ·rintro (h | h | ⟨h,h'⟩)
  ·exact h1 h
  ·omega
  ·exact h3 h h'
set_option maxRecDepth 100000 in
set_option maxHeartbeats 3200000 in
theorem dnumber_go (l:List UInt8) (h1:l≠[]) (h2:l.length≤13) (h3:1 < l.length→l.head?≠some 48) (w:World) :
  Calls Tryz.prog 23 #[.string (str l)] w fun e w'=>e=.returned (.tuple #[.int .i64 (qv (num? l)),.int .i64 (qe (num? l))])∧w=w':=by
 have hnum:=num_from h1 h2 h3
 obtain ⟨ans,hans⟩:∃ ans,decFrom 0 l=ans:=⟨_,rfl⟩
 rw [hans] at hnum
 have HN:=Lib.hid hnum
 have HA:=Lib.hid (show decFrom 0 (l.drop 0)=ans by simpa using hans)
 have hz:=str_size l
 have hz1:(str l).size≤13:=by omega
 have hz0:0 < (str l).size:=by
  cases l with
  | nil=>exact absurd rfl h1
  | cons b r=>rw [hz];simp
 have hz2:(((str l).size:Int) == 0)=false:=by rw [beq_eq_false_iff_ne];omega
 have hz3:decide (13 < ((str l).size:Int))=false:=decide_eq_false (by omega)
 have hlead:(1 < (str l).size∧((((str l)[0]'hz0).toNat:Int) == 48)=false)∨((str l).size≤1):=by
  rcases Nat.lt_or_ge 1 (str l).size with h | h
  ·left
   refine ⟨h,?_⟩
   rw [beq_eq_false_iff_ne,str_at]
   intro he
   apply h3 (by omega)
   cases l with
   | nil=>exact absurd rfl h1
   | cons b r =>
    have:b.toNat=48:=by
     have:(b.toNat:Int)=48:=he
     omega
    have:b=48:=UInt8.toNat_inj.1 this
    rw [this]
    rfl
  ·exact .inr h
 have HZ:=Lib.hid hz
 clear hz hnum hans h1 h2 h3
 rcases hlead with ⟨hl1,hl2⟩ | hl1
 case' inr=>have hl3:decide (1 < ((str l).size:Int))=false:=decide_eq_false (by omega)
 case' inl=>have hl3:decide (1 < ((str l).size:Int))=true:=decide_eq_true (by omega)
 all_goals
  go_enter Tryz.func23,Tryz.ntmps23
  go_wp2
  go_loopw [4,5] (fun s4 s5 wr=>∃ k acc:Nat,s5=.int .i64 k∧s4=.int .i64 acc∧k≤(str l).size∧Aside (acc < 10 ^ k)∧Aside (decFrom acc (l.drop k)=ans)∧wr=w) (fun _ s5 _=>(str l).size - (intOf s5).toNat)
  case atStart=>exact ⟨0,0,rfl,rfl,Nat.zero_le _,(by decide:(0:Nat) < 10 ^ 0),HA.out,rfl⟩
  case round =>
   obtain ⟨k,acc,rfl,rfl,hk,hacc,hok,rfl⟩:=hrel
   by_cases hlt:k < (str l).size
   ·have hk2:k < l.length:=by have:=HZ.out;omega
    have hp:acc < 10 ^ 12:=Nat.lt_of_lt_of_le hacc (Nat.pow_le_pow_right (by decide) (by omega))
    have hp2:acc < 1000000000000:=hp
    have hpk:10 * acc+9 < 10 ^ (k+1):=by
     have:acc < 10 ^ k:=hacc
     rw [Nat.pow_succ];omega
    have HP:=Lib.hid hpk
    have hb:=UInt8.toNat_lt ((str l)[k]'hlt)
    have hge:=str_at l k hlt
    cases hd:dig ((str l)[k]'hlt) with
    | true =>
     have hd2:=hd
     unfold dig at hd2
     have hd3:48≤((str l)[k]'hlt).toNat∧((str l)[k]'hlt).toNat≤57:=by simpa using hd2
     obtain ⟨d1,d2⟩:=hd3
     have hok2:decFrom (10 * acc+(((str l)[k]'hlt).toNat - 48)) (l.drop (k+1))=ans:=by
      rw [hge,← decFrom_step hk2 (by rw [←hge];exact hd)]
      exact hok
     have HO:=Lib.hid hok2
     have HD:=Lib.hid hd
     clear hok2 hok hd2 hp hpk hacc hge hd
     go_wp2_with (go_at_call 44;refine (digit_any ((str l)[k]'hlt) _).mono ?_;rintro e w2 ⟨rfl,rfl⟩;rw [HD.out])
     go_roundw
     case rel=>exact ⟨k+1,10 * acc+(((str l)[k]'hlt).toNat - 48),by go_num,by go_num,by omega,(show _ < _ by have:=HP.out;omega),HO.out,trivial⟩
     case measure=>simp [intOf];omega
    | false =>
     have hans:ans=none:=by
      rw [←(show decFrom acc (l.drop k)=ans from hok)]
      exact decFrom_stop hk2 (by rw [←hge];exact hd)
     subst hans
     have HD:=Lib.hid hd
     clear hok hp hpk hacc hge hd
     go_wp2_with (go_at_call 44;refine (digit_any ((str l)[k]'hlt) _).mono ?_;rintro e w2 ⟨rfl,rfl⟩;rw [HD.out])
     go_ret2
     rw [HN.out]
     exact ⟨rfl,rfl⟩
   ·have hkl:k=l.length:=by have:=HZ.out;omega
    have hans:ans=some acc:=by
     rw [←(show decFrom acc (l.drop k)=ans from hok),hkl,List.drop_length]
     rfl
    have hp:acc < 10 ^ 13:=Nat.lt_of_lt_of_le hacc (Nat.pow_le_pow_right (by decide) (by omega))
    have hp2:acc < 10000000000000:=hp
    have hn:=HN.out
    rw [hans] at hn
    dsimp only at hn
    clear hok hp hacc hans hkl HN HA
    by_cases ht:acc≤top
    ·rw [if_pos ht] at hn
     unfold top at ht
     have HNN:=Lib.hid hn
     clear hn
     go_wp2
     go_ret2
     rw [HNN.out]
     exact ⟨rfl,rfl⟩
    ·rw [if_neg ht] at hn
     unfold top at ht
     have HNN:=Lib.hid hn
     clear hn
     go_wp2
     go_ret2
     rw [HNN.out]
     exact ⟨rfl,rfl⟩
end Go.Proofs.YtekcjfdllclphaaGreatDoor.gn
end
