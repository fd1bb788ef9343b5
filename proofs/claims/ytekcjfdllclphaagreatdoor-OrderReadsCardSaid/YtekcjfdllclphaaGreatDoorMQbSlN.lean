/- Slips, plain: a text is read again. (Written ahead of the code.) -/
import Derived.Test.YtekcjfdllclphaaGreatDoorMQbGenTail
import Derived.Test.YtekcjfdllclphaaGreatDoorMQbDiO
import Derived.Test.YtekcjfdllclphaaGreatDoorMQbGen
import Derived.Lib.Split
import Derived.Deep.LoopGhost
import Derived.BigQuiet
import Derived.Deep.DeepCutAuto
import Derived.Deep.CutBlock
set_option linter.unusedVariables false
set_option linter.unusedSimpArgs false
section
namespace Go.Proofs.YtekcjfdllclphaaGreatDoor.sp
open Go.Proofs.YtekcjfdllclphaaGreatDoor.un
open Go.Proofs.YtekcjfdllclphaaGreatDoor.di
open Go.Lib (decDigits)
theorem within_txt {n:Int} {a b:Nat} (h0:(a:Int)≤n) (h1:n≤b) (hb:b≤1099511627776):within? (txt n) a b=some n.toNat:=by
 obtain ⟨m,rfl⟩:∃ m:Nat,n=(m:Int):=⟨n.toNat,by omega⟩
 unfold within?
 rw [txt_in (show m≤top by unfold top;omega),num_dec (show m≤top by unfold top;omega)]
 dsimp only
 rw [if_pos ⟨by omega,by omega⟩]
 rfl
theorem toNat_back {n:Int} (h:0≤n):((n.toNat:Nat):Int)=n:=by omega
structure Ok (x:Slip):Prop where
 user:isName x.user=true
 nodes:1≤x.nodes∧x.nodes≤64
 wall:1≤x.wall∧x.wall≤1048576
 qos:0≤x.qos∧x.qos≤9
 after:x.after.length≤8∧(x.after.map (·.1)).Nodup∧∀ d∈x.after,1≤d.1∧d.1≤1073741824
 cap:0≤x.cap∧x.cap≤1099511627776
 pool0:x.cap=0→x.pool=[]
 pool1:x.cap≠0→isName x.pool=true
 inn:0≤x.inn∧x.inn≤x.cap
 out:0≤x.out∧x.out≤x.cap
 make:∀ d∈x.make,d.kind=4∧chk d=true
 makeN:nameL (x.make.map (·.name))
 drop:nameL x.drop
 use:nameL x.use
 apart:∀ d∈x.make,d.name ∉ x.use
theorem chkS_iff (x:Slip):chkS x=true↔Ok x:=by
 unfold chkS
 rw [decide_eq_true_eq]
 exact ⟨fun ⟨a,b,c,d,e,f,g,h,i,j,k,l,m,n,o⟩=>⟨a,b,c,d,e,f,g,h,i,j,k,l,m,n,o⟩,fun ⟨a,b,c,d,e,f,g,h,i,j,k,l,m,n,o⟩=>⟨a,b,c,d,e,f,g,h,i,j,k,l,m,n,o⟩⟩
end Go.Proofs.YtekcjfdllclphaaGreatDoor.sp
end
section
namespace Go.Proofs.YtekcjfdllclphaaGreatDoor.sp
open Go.Proofs.YtekcjfdllclphaaGreatDoor.un
open Go.Proofs.YtekcjfdllclphaaGreatDoor.di
def Once:List Nat→List Dir→Prop
 | _,[]=>True
 | s,d::r=>¬ (d.kind≤3∧d.kind∈s)∧Once (d.kind::s) r
theorem once_of:∀ (L:List Dir) (s:List Nat),((L.filter fun d=>decide (d.kind≤3)).map (·.kind)).Nodup→(∀ d∈L,d.kind≤3→d.kind ∉ s)→Once s L
 | [],_,_,_=>trivial
 | d::r,s,hn,hs=>by
  refine ⟨fun hk=>hs d (by simp) hk.1 hk.2,once_of r _ ?_ ?_⟩
  ·by_cases hd:d.kind≤3
   ·rw [List.filter_cons_of_pos (by simpa using hd),List.map_cons,List.nodup_cons] at hn
    exact hn.2
   ·rwa [List.filter_cons_of_neg (by simpa using hd)] at hn
  ·intro e he hk
   simp only [List.mem_cons,not_or]
   refine ⟨fun hee=>?_,hs e (by simp [he]) hk⟩
   rw [List.filter_cons_of_pos (by simpa using (by omega:d.kind≤3)),List.map_cons,List.nodup_cons] at hn
   exact hn.1 (List.mem_map.2 ⟨e,List.mem_filter.2 ⟨he,by simpa using hk⟩,hee⟩)
theorem dirs_mem {x:Slip} (h:Ok x) {d:Dir} (hd:d∈dirsS x):chk d=true:=by
 have hc:=h.cap
 have hi:=h.inn
 have ho:=h.out
 unfold dirsS at hd
 simp only [List.mem_append] at hd
 rcases hd with ((((hd | hd) | hd) | hd) | hd) | hd
 ·split at hd
  ·rename_i h0
   simp only [List.mem_cons,List.not_mem_nil,or_false] at hd
   subst hd
   rw [chk_iff]
   have:=h.pool1 (by omega)
   simp [hasSize,hasName,hasPool,h0,this]
   exact ⟨⟨hc.1,hc.2⟩,by decide⟩
  ·simp at hd
 ·split at hd
  ·rename_i h0
   simp only [List.mem_cons,List.not_mem_nil,or_false] at hd
   subst hd
   rw [chk_iff]
   simp [hasSize,hasName,hasPool,h0]
   exact ⟨⟨hi.1,by omega⟩,by decide⟩
  ·simp at hd
 ·split at hd
  ·rename_i h0
   simp only [List.mem_cons,List.not_mem_nil,or_false] at hd
   subst hd
   rw [chk_iff]
   simp [hasSize,hasName,hasPool,h0]
   exact ⟨⟨ho.1,by omega⟩,by decide⟩
  ·simp at hd
 ·exact (h.make d hd).2
 ·obtain ⟨n,hn,rfl⟩:=List.mem_map.1 hd
  have:=h.drop.2.2 n hn
  rw [chk_iff]
  simp [hasSize,hasName,hasPool,this]
  decide
 ·obtain ⟨n,hn,rfl⟩:=List.mem_map.1 hd
  have:=h.use.2.2 n hn
  rw [chk_iff]
  simp [hasSize,hasName,hasPool,this]
  decide
end Go.Proofs.YtekcjfdllclphaaGreatDoor.sp
end
section
namespace Go.Proofs.YtekcjfdllclphaaGreatDoor.di
open Go.Proofs.YtekcjfdllclphaaGreatDoor.un
theorem idx_cons (b c:UInt8) (l:Tx):Lib.index (b::l) [c]=if c=b then 0 else if Lib.index l [c]=-1 then -1 else Lib.index l [c]+1:=by
 show (if ([c]:Tx).isPrefixOf (b::l)=true then 0 else if (Lib.index l [c] == -1)=true then -1 else Lib.index l [c]+1)=_
 simp [List.isPrefixOf]
theorem idx_none {c:UInt8}:∀ {l:Tx},c ∉ l→Lib.index l [c]=-1
 | [],_=>rfl
 | b::l,h=>by
  simp only [List.mem_cons,not_or] at h
  rw [idx_cons,if_neg h.1,idx_none h.2,if_pos rfl]
theorem idx_app {c:UInt8}:∀ (a r:Tx),c ∉ a→Lib.index (a++c::r) [c]=(a.length:Int)
 | [],r,_=>by
  rw [List.nil_append,idx_cons,if_pos rfl]
  rfl
 | b::a,r,h=>by
  simp only [List.mem_cons,not_or] at h
  rw [List.cons_append,idx_cons,if_neg h.1,idx_app a r h.2,if_neg (by omega),List.length_cons]
  omega
theorem split_spec:∀ (n:Nat) (l:Tx),l.length≤n→Lib.splitK [32] 0 (Lib.count l [32]) l=words l∧Lib.count l [32]+1=(words l).length
 | n,l,hn=>by
  by_cases hm:(32:UInt8)∈l
  ·obtain ⟨a,r,rfl,ha⟩:=List.eq_append_cons_of_mem hm
   have hi:=idx_app a r ha
   have hd:(a++32::r).drop (a.length+1)=r:=by
    rw [List.drop_append]
    simp
   have hc:Lib.count (a++32::r) [32]=1+Lib.count r [32]:=by
    have:=Lib.count_hit (s:=a++32::r) (sub:=[32]) (by simp) hi
    rw [this]
    congr 2
   rw [hc,words_app a r ha]
   cases n with
   | zero=>simp at hn
   | succ n =>
    obtain ⟨i1,i2⟩:=split_spec n r (by simp at hn;omega)
    constructor
    ·rw [Nat.add_comm 1]
     unfold Lib.splitK
     have hne:¬ ((((a.length:Nat):Int) == -1)=true):=by simp
     rw [hi,if_neg hne]
     congr 1
     ·simp
     ·rw [Int.toNat_natCast,show ([32]:Tx).length=1 from rfl,hd]
      exact i1
    ·rw [List.length_cons,← i2]
     omega
  ·have hi:=idx_none hm
   have hc:Lib.count l [32]=0:=Lib.count_miss hi
   rw [hc,words_one l hm]
   exact ⟨rfl,rfl⟩
open Go.Proofs.YtekcjfdllclphaaGreatDoor.gn (str str_size)
theorem map_str:∀ (A:List ByteArray) (B:List Tx),A.map (·.data.toList)=B→A=B.map str
 | [],B,h=>by subst h;rfl
 | a::A,B,h=>by
  subst h
  rw [List.map_cons,List.map_cons,← map_str A _ rfl]
  congr 1
theorem countB_words (l:Tx):Lib.countB (str l) (str [32])+1=(words l).length:=by
 have h:=(split_spec l.length l (Nat.le_refl _)).2
 rw [←h]
 unfold Lib.countB
 congr 1
theorem splitB_words (l:Tx):Lib.splitB (str [32]) 0 (Lib.countB (str l) (str [32])) (str l)=(words l).map str:=by
 have h:=(split_spec l.length l (Nat.le_refl _)).1
 apply map_str
 rw [Lib.splitB_data,← h]
 have e1:(str [32]).data.toList=[32]:=rfl
 have e2:(str l).data.toList=l:=by simp [str]
 rw [e1,e2]
 unfold Lib.countB
 rw [e1,e2]
theorem cut_mem:∀ {l:Tx},cut l=none↔(61:UInt8) ∉ l
 | []=>by simp [cut]
 | b::l=>by
  unfold cut
  by_cases hb:b=61
  ·simp [hb]
  ·rw [if_neg hb]
   have:=cut_mem (l:=l)
   simp only [Option.map_eq_none_iff,this,List.mem_cons,not_or]
   exact ⟨fun h=>⟨fun e=>hb e.symm,h⟩,fun h=>h.2⟩
def fld (w:Tx):Fl:=(cut w).getD (w,[])
theorem cut_lib (w:Tx):Lib.cut w [61]=((fld w).1,(fld w).2,(cut w).isSome):=by
 unfold Lib.cut fld
 cases hc:cut w with
 | none =>
  rw [idx_none (cut_mem.1 hc),if_neg (by decide)]
  rfl
 | some f =>
  obtain ⟨e,hn⟩:=cut_some w f.1 f.2 hc
  have hi:=idx_app f.1 f.2 hn
  rw [←e] at hi
  rw [hi,if_pos (by omega)]
  simp only [Int.toNat_natCast,Option.getD_some,Option.isSome_some]
  have h1:w.take f.1.length=f.1:=by rw [e];simp
  have h2:w.drop (f.1.length+([61]:Tx).length)=f.2:=by
   rw [e,List.drop_append]
   simp
  rw [h1,h2]
def fldL (k:Nat):List (Tx × Bool) :=
 match k with
 | 1=>[(capK,false),(poolK,false)]
 | 2=>[(sizeK,false)]
 | 3=>[(sizeK,false)]
 | 4=>[(nameK,false),(capK,false),(poolK,false),(accK,true)]
 | 5=>[(nameK,false)]
 | 6=>[(nameK,false)]
 | _=>[]
theorem fld_len (k:Nat):(fldL k).length≤4:=by
 unfold fldL
 split <;> decide
theorem six {k:Nat} (h:1≤k∧k≤6):k=1∨k=2∨k=3∨k=4∨k=5∨k=6:=by omega
def has (k:Nat) (key:Tx):Bool:=((fldL k).map (·.1)).contains key
theorem has_allow {k:Nat} (h:1≤k∧k≤6) (key:Tx):allow k key=has k key:=by
 rw [Bool.eq_iff_iff]
 rcases six h with rfl | rfl | rfl | rfl | rfl | rfl <;> simp [allow,has,fldL,hasSize,hasName,hasPool,szK] <;> grind
theorem key_five {k:Nat} {key:Tx} (h:has k key=true):key=nameK∨key=poolK∨key=capK∨key=sizeK∨key=accK:=by
 unfold has fldL at h
 split at h <;> simp at h
 ·rcases h with h | h <;> simp [h]
 ·simp [h]
 ·simp [h]
 ·rcases h with h | h | h | h <;> simp [h]
 ·simp [h]
 ·simp [h]
def sto (key v:Tx) (d:Dir):Dir :=
 if key=nameK then (if isName v=true then { d with name:=v } else d)
 else if key=poolK then (if isName v=true then { d with pool:=v } else d)
 else if key=accK then { d with opn:=v == pubV }
 else { d with size:=(((size? v).getD 0:Nat):Int) }
def val (d:Dir) (key:Tx):Tx :=
 if key=nameK then d.name else if key=poolK then d.pool else if key=accK then (if d.opn=true then pubV else []) else stxt d.size
structure Took (k:Nat) (fs:List Fl):Prop where
 nd:(keys fs).Nodup
 ok:∀ f∈fs,has k f.1=true∧okv f.1 f.2=true
theorem Took.nil (k:Nat):Took k []:=⟨by simp [keys],by simp⟩
theorem Took.snoc {k:Nat} {fs:List Fl} (h:Took k fs) {f:Fl} (hn:f.1 ∉ keys fs) (ha:has k f.1=true) (ho:okv f.1 f.2=true):Took k (fs++[f]):=by
 refine ⟨?_,?_⟩
 ·rw [keys_snoc,List.nodup_append]
  refine ⟨h.nd,by simp,?_⟩
  intro a ha b hb e
  simp only [List.mem_singleton] at hb
  subst hb;subst e
  exact hn ha
 ·intro g hg
  rcases List.mem_append.1 hg with hg | hg
  ·exact h.ok g hg
  ·simp only [List.mem_singleton] at hg
   subst hg
   exact ⟨ha,ho⟩
theorem sz_has {k:Nat} (hk:1≤k∧k≤6) {key:Tx} (h:has k key=true) (h1:key≠nameK) (h2:key≠poolK) (h3:key≠accK):key=szK k:=by
 rw [←has_allow hk] at h
 rcases allow_al h with h | h | h | h
 ·exact h
 ·exact absurd h h1
 ·exact absurd h h2
 ·exact absurd h.1 h3
theorem sto_dir {k:Nat} (hk:1≤k∧k≤6) {fs:List Fl} {f:Fl} (hn:f.1 ∉ keys fs) (ha:has k f.1=true) (ho:okv f.1 f.2=true):sto f.1 f.2 (dirOf k fs)=dirOf k (fs++[f]):=by
 obtain ⟨n1,n2,n3⟩:=sz_ne k
 have m1:nameK≠poolK:=by decide
 have m2:nameK≠accK:=by decide
 have m3:poolK≠accK:=by decide
 unfold dirOf sto
 rw [look_snoc hn,look_snoc hn,look_snoc hn,look_snoc hn]
 by_cases e1:f.1=nameK
 ·rw [e1,okv_name] at ho
  rw [if_pos e1,if_pos ho,e1,if_pos rfl,if_neg m1,if_neg (Ne.symm n1),if_neg m2]
 ·rw [if_neg e1]
  by_cases e2:f.1=poolK
  ·rw [e2,okv_pool] at ho
   rw [if_pos e2,if_pos ho,e2,if_neg (Ne.symm m1),if_pos rfl,if_neg (Ne.symm n2),if_neg m3]
  ·rw [if_neg e2]
   by_cases e3:f.1=accK
   ·rw [if_pos e3,e3,if_neg (Ne.symm m2),if_neg (Ne.symm m3),if_neg (Ne.symm n3),if_pos rfl]
   ·have e4:=sz_has hk ha e1 e2 e3
    rw [if_neg e3,e4,if_neg n1,if_neg n2,if_pos rfl,if_neg n3]
theorem mapM_cut_app {done:List Tx} {fs:List Fl} (h:done.mapM cut=some fs) (w:Tx) (rest:List Tx):(done++w::rest).mapM cut=match cut w,rest.mapM cut with
  | some f,some gs=>some (fs++f::gs)
  | _,_=>none:=by
 induction done generalizing fs with
 | nil =>
  have:fs=[]:=(Option.some.inj h).symm
  subst this
  rw [List.nil_append,List.mapM_cons]
  cases cut w with
  | none=>rfl
  | some f=>cases rest.mapM cut <;> rfl
 | cons a done ih =>
  rw [List.mapM_cons] at h
  cases hc:cut a with
  | none=>rw [hc] at h;cases h
  | some g =>
   rw [hc] at h
   cases hm:done.mapM cut with
   | none=>rw [hm] at h;cases h
   | some gs =>
    rw [hm] at h
    have:fs=g::gs:=(Option.some.inj (show some (g::gs)=some fs from h)).symm
    subst this
    rw [List.cons_append,List.mapM_cons,hc,ih hm]
    cases cut w with
    | none=>rfl
    | some f=>cases rest.mapM cut <;> rfl
theorem took_fail {k:Nat} (hk:1≤k∧k≤6) {fs:List Fl} {done:List Tx} (hd:done.mapM cut=some fs) (w:Tx) (rest:List Tx) (h:¬ (has k (fld w).1=true∧(fld w).1 ∉ keys fs∧okv (fld w).1 (fld w).2=true)) :
  fields? k (done++w::rest)=none:=by
 unfold fields?
 rw [mapM_cut_app hd]
 cases hc:cut w with
 | none=>rfl
 | some f =>
  cases hr:rest.mapM cut with
  | none=>rfl
  | some gs =>
   dsimp only
   rw [if_neg]
   rintro ⟨g1,g2,_⟩
   have hf:fld w=f:=by unfold fld;rw [hc];rfl
   rw [hf] at h
   apply h
   have:=g2 f (by simp)
   refine ⟨by rw [←has_allow hk];exact this.1,?_,this.2⟩
   intro hm
   unfold keys at g1 hm
   rw [List.map_append,List.nodup_append] at g1
   exact g1.2.2 f.1 hm f.1 (by simp) rfl
theorem okv_nil (key:Tx):okv key []=false:=by
 unfold okv
 rw [size_nil,isName_nil]
 split
 ·rfl
 ·split <;> rfl
theorem fld_cut {w:Tx} (h:okv (fld w).1 (fld w).2=true):cut w=some (fld w):=by
 unfold fld at h ⊢
 cases hc:cut w with
 | none =>
  rw [hc] at h
  simp only [Option.getD_none,okv_nil] at h
  cases h
 | some f=>rfl
theorem req_has {k:Nat} (h:1≤k∧k≤6) (key:Tx):key∈req k↔(key,false)∈fldL k:=by
 rcases six h with rfl | rfl | rfl | rfl | rfl | rfl <;> simp [req,hasName,hasSize,hasPool,szK,fldL]
theorem took_end {k:Nat} (hk:1≤k∧k≤6) {fs:List Fl} {ws:List Tx} (hd:ws.mapM cut=some fs) (h:Took k fs) :
  fields? k ws=if ∀ f∈fldL k,f.1 ∉ keys fs→f.2=true then some (dirOf k fs) else none:=by
 unfold fields?
 rw [hd]
 dsimp only
 have hiff:good k fs↔∀ f∈fldL k,f.1 ∉ keys fs→f.2=true:=by
  constructor
  ·rintro ⟨_,_,g3⟩ f hf hn
   cases hb:f.2 with
   | true=>rfl
   | false=>exact absurd (g3 f.1 ((req_has hk _).2 (by rw [←hb];exact hf))) hn
  ·intro hh
   refine ⟨h.nd,fun f hf=>⟨by rw [has_allow hk];exact (h.ok f hf).1,(h.ok f hf).2⟩,fun r hr=>?_⟩
   by_cases hm:r∈keys fs
   ·exact hm
   ·have:=hh (r,false) ((req_has hk r).1 hr) hm
    cases this
 by_cases hg:good k fs
 ·rw [if_pos hg,if_pos (hiff.1 hg)]
 ·rw [if_neg hg,if_neg fun e=>hg (hiff.2 e)]
def crun (d:Dir):List (Tx × Bool)→Dir→Option Dir
 | [],a=>some a
 | f::r,a=>if f.2=true∧val d f.1=[] then crun d r a else if okv f.1 (val d f.1)=true then crun d r (sto f.1 (val d f.1) a) else none
def trun (d:Dir):List (Tx × Bool)→Tx→Tx
 | [],s=>s
 | f::r,s=>if f.2=true∧val d f.1=[] then trun d r s else trun d r (s++32::(f.1++61::val d f.1))
def base (k:Nat):Dir:=⟨k,[],[],0,false⟩
theorem size_stxt_getD (n:Int) (h0:-9223372036854775808≤n) (h1:n≤9223372036854775807):(((size? (stxt n)).getD 0:Nat):Int)=if 0≤n∧n≤1099511627776 then n else 0:=by
 by_cases h:0≤n∧n≤1099511627776
 ·obtain ⟨m,rfl⟩:∃ m:Nat,n=(m:Int):=⟨n.toNat,by omega⟩
  rw [if_pos h,size_stxt (show m≤top by unfold top;omega)]
  rfl
 ·rw [if_neg h,stxt_out (by omega),txt_out h,size_nil]
  rfl
theorem okv_size (n:Int) (h0:-9223372036854775808≤n) (h1:n≤9223372036854775807) {key:Tx} (hk:key=capK∨key=sizeK):okv key (stxt n)=decide (0 < n∧n≤1099511627776):=by
 have:=size_stxt_getD n h0 h1
 unfold okv
 rw [if_pos hk]
 by_cases h:0≤n∧n≤1099511627776
 ·rw [if_pos h] at this
  rw [decide_eq_decide]
  omega
 ·rw [if_neg h] at this
  rw [decide_eq_decide]
  omega
theorem crun_chk (d:Dir) (h0:-9223372036854775808≤d.size) (h1:d.size≤9223372036854775807) (hk:1≤d.kind∧d.kind≤6) :
  (match crun d (fldL d.kind) (base d.kind) with
   | some a=>decide (a=d)
   | none=>false)=chk d:=by
 obtain ⟨k,n,p,z,o⟩:=d
 dsimp only at h0 h1 hk ⊢
 have hz:=size_stxt_getD z h0 h1
 have hoc:=okv_size z h0 h1 (key:=capK) (.inl rfl)
 have hos:=okv_size z h0 h1 (key:=sizeK) (.inr rfl)
 have e1:(capK=nameK)=False:=by simp;decide
 have e2:(capK=poolK)=False:=by simp;decide
 have e3:(capK=accK)=False:=by simp;decide
 have e4:(sizeK=nameK)=False:=by simp;decide
 have e5:(sizeK=poolK)=False:=by simp;decide
 have e6:(sizeK=accK)=False:=by simp;decide
 have e7:(poolK=nameK)=False:=by simp;decide
 have e8:(poolK=accK)=False:=by simp;decide
 have e9:(accK=nameK)=False:=by simp;decide
 have e10:(accK=poolK)=False:=by simp;decide
 have e11:okv accK pubV=true:=by decide
 have e12:(pubV=[])=False:=by simp;decide
 rw [Bool.eq_iff_iff,chk_iff]
 have hn0:=isName_nil
 rcases six hk with rfl | rfl | rfl | rfl | rfl | rfl <;>
  simp only [fldL,crun,val,sto,base,e1,e2,e3,e4,e5,e6,e7,e8,e9,e10,e11,e12,if_true,if_false,false_and,Bool.false_eq_true,okv_name,okv_pool,hoc,hos,hz,hasSize,hasName,hasPool,decide_eq_true_eq] <;>
  by_cases hq:0 < z∧z≤1099511627776 <;> cases hin:isName n <;> cases hip:isName p <;> cases o <;>
  simp [hq] <;> grind
theorem trun_dtx {d:Dir} (h:chk d=true):trun d (fldL d.kind) (bbW++32::kw d.kind)=dtx d:=by
 obtain ⟨c0,c1,cz,c2,c3,c4,c5,c6⟩:=(chk_iff d).1 h
 obtain ⟨k,n,p,z,o⟩:=d
 dsimp only at c0 c1 cz c2 c3 c4 c5 c6 ⊢
 have e1:(capK=nameK)=False:=by simp;decide
 have e2:(capK=poolK)=False:=by simp;decide
 have e3:(capK=accK)=False:=by simp;decide
 have e4:(sizeK=nameK)=False:=by simp;decide
 have e5:(sizeK=poolK)=False:=by simp;decide
 have e6:(sizeK=accK)=False:=by simp;decide
 have e7:(poolK=nameK)=False:=by simp;decide
 have e8:(poolK=accK)=False:=by simp;decide
 have e9:(accK=nameK)=False:=by simp;decide
 have e10:(accK=poolK)=False:=by simp;decide
 have e12:(pubV=[])=False:=by simp;decide
 rcases six c0 with rfl | rfl | rfl | rfl | rfl | rfl <;> cases o <;>
  simp [hasSize,hasName,hasPool] at c1 c2 c3 c4 c5 c6 <;>
  simp [fldL,trun,val,e1,e2,e3,e4,e5,e6,e7,e8,e9,e10,e12,dtx,lineOf,fsOf,joinW,hasSize,hasName,hasPool,szK,wtx]
end Go.Proofs.YtekcjfdllclphaaGreatDoor.di
end
section
namespace Go.Proofs.YtekcjfdllclphaaGreatDoor.gn
open Go.RowKit
open Go.Proofs.YtekcjfdllclphaaGreatDoor.un
theorem cutS_any (l p:List UInt8) (hl:l.length≤140737488355328) (w:World) :
  Calls Tryz.prog 157 #[.string (str l),.string (str p)] w fun e w'=>e=.returned (.tuple #[.string (str (Lib.trimSuffix l p)),.bool (Lib.hasSuffix l p)])∧w=w':=by
 refine (Any.strings_CutSuffix layCutSuffix (str l) (str p) w (by rw [str_size];omega)).mono ?_
 rintro e w' ⟨he,hw⟩
 have e1:(str l).data.toList=l:=by simp [str]
 have e2:(str p).data.toList=p:=by simp [str]
 rw [e1,e2] at he
 exact ⟨he,hw.symm⟩
set_option maxRecDepth 100000 in
set_option maxHeartbeats 1600000 in
theorem split_any (l:List UInt8) (hl:l.length≤140737488355328) (w:World) :
  Calls Tryz.prog 142 #[.string (str l)] w (Told (.tuple #[.string (str (spl l).1),.int .i64 ((spl l).2:Nat)]) w):=by
 have HS:=Lib.hid hl
 clear hl
 go_enter Tryz.func142,Tryz.ntmps142
 go_wp2_with (first
  | (go_at_call 140;refine (units_any _).mono ?_;rintro e w1 ⟨b,rfl,hu,hbl,hb⟩;have HU:=Lib.hid hu;have HB:=Lib.hid hb;clear hu hb hbl)
  | (go_at_call 141;refine (order_any _).mono ?_;rintro e w2 ⟨rfl,hb2⟩;have HU2:=Lib.hid (HU.out.next hb2);have HB2:=Lib.hid (HB.out.trans (hb2.mono HB.out.size));clear hb2))
 go_loopw [11] (fun s11 wr=>∃ k:Nat,s11=.int .i64 k∧k≤8∧Aside (∀ i,i < k→Lib.hasSuffix l (nm i)=false)∧wr=w2) (fun s11 _=>8 - (intOf s11).toNat)
 case atStart=>exact ⟨0,rfl,by omega,fun i hi=>absurd hi (by omega),rfl⟩
 case round =>
  obtain ⟨k,rfl,hk,hno,rfl⟩:=hrel
  by_cases h8:k < 8
  ·have hix:=order_at wr h8
   cases hs:Lib.hasSuffix l (nm k) with
   | true =>
    have hsp:=spl_at h8 hno hs
    have HSP:=Lib.hid hsp
    have hlk:=HU2.out.look h8
    have hlk2:∀ q,(Instr.lookup 175 (.map (some b)) (.string (str (nm k))) false).run Tryz.prog (wr.drewN q)=.ok (.int .i64 (sz k:Nat)) (wr.drewN q):=fun q=>UM.look (show UM (wr.drewN q) b from HU2.out) h8
    have HK:=Lib.hid hs
    clear hsp hs
    go_wp2_with (first
     | (go_at_call 157;refine (cutS_any l (nm k) HS.out _).mono ?_;rintro e w3 ⟨rfl,rfl⟩;rw [HK.out])
     | (go_quiet (fail)))
    go_ret2
    exact ⟨by rw [HSP.out];rfl,HB2.out.trans (Joins.below_draws _ _ _)⟩
   | false =>
    have HK:=Lib.hid hs
    have hno2:∀ i,i < k+1→Lib.hasSuffix l (nm i)=false:=fun i hi=>by
     rcases Nat.lt_or_ge i k with h | h
     ·exact hno i h
     ·rw [show i=k by omega];exact hs
    have HN:=Lib.hid hno2
    clear hs hno2
    go_wp2_with (go_at_call 157;refine (cutS_any l (nm k) HS.out _).mono ?_;rintro e w3 ⟨rfl,rfl⟩;rw [HK.out])
    go_roundw
    case rel=>exact ⟨k+1,by go_num,by omega,HN.out,trivial⟩
    case measure=>simp [intOf];omega
  ·obtain rfl:k=8:=by omega
   have hsp:=spl_none hno
   have HSP:=Lib.hid hsp
   clear hsp
   go_wp2
   go_ret2
   exact ⟨by rw [HSP.out];rfl,HB2.out⟩
theorem size_of {l:List UInt8} {f:List UInt8} {b:Nat} (h:spl l=(f,b)):size? l=match num? f with
  | some n=>if n≤top / b then some (n * b) else none
  | none=>none:=by
 unfold size?
 rw [h]
 rfl
set_option maxRecDepth 100000 in
set_option maxHeartbeats 1600000 in
theorem size_any (l:List UInt8) (hl:l.length≤140737488355328) (w:World) (hL:LaidU w) :
  Calls Tryz.prog 120 #[.string (str l)] w (Tnum (size? l) w):=by
 obtain ⟨f,b,hf⟩:∃ f b,spl l=(f,b):=⟨_,_,rfl⟩
 have hb:=spl_bd l
 have hfl:=spl_len l
 have hsz:=size_of hf
 have hsp:=split_any l hl
 rw [hf] at hb hfl hsp
 dsimp only at hb hfl hsp
 have HS:=Lib.hid hsp
 have HL:=Lib.hid hL
 have HF:=Lib.hid (Nat.le_trans hfl hl)
 clear hsp hL hfl hf hl
 obtain ⟨hb0,hbt⟩:=hb
 unfold top at hbt
 cases hn:num? f with
 | none =>
  rw [hn] at hsz
  dsimp only at hsz
  rw [hsz]
  have HN:=Lib.hid hn
  clear hsz hn
  go_enter Tryz.func120,Tryz.ntmps120
  go_wp2_with (first
   | (go_at_call 142;refine (HS.out _).mono ?_;rintro e w1 ⟨rfl,hb1⟩;have HB1:=Lib.hid hb1;clear hb1)
   | (go_at_call 114;refine (number_unit f HF.out _ (HL.out.next HB1.out)).mono ?_;rintro e w2 ⟨rfl,hb2⟩;rw [HN.out,qv_none,qe_none];have HB2:=Lib.hid (HB1.out.trans (hb2.mono HB1.out.size));clear hb2))
  go_ret2
  exact ⟨rfl,HB2.out⟩
 | some n =>
  rw [hn] at hsz
  dsimp only at hsz
  have hnt:=(num_some hn).2.2.2.1
  unfold top at hnt
  have hq:Int.tdiv 1099511627776 (b:Int)=((top / b:Nat):Int):=rfl
  have HN:=Lib.hid hn
  have hb1:¬ ((b:Int)=0):=by omega
  have hqt:top / b≤1099511627776:=Nat.div_le_self _ _
  by_cases hc:n≤top / b
  ·rw [if_pos hc] at hsz
   rw [hsz]
   obtain ⟨m,hm⟩:∃ m,m=n * b:=⟨_,rfl⟩
   have hmt:m≤1099511627776:=by
    rw [hm]
    exact Nat.le_trans (Nat.mul_le_mul_right _ hc) (Nat.div_mul_le_self _ _)
   have hmi:(n:Int) * (b:Int)=(m:Int):=by rw [hm];push_cast;rfl
   rw [←hm]
   obtain ⟨q,hqe⟩:∃ q,top / b=q:=⟨_,rfl⟩
   rw [hqe] at hq hc hqt
   clear hsz hn hm hqe
   go_enter Tryz.func120,Tryz.ntmps120
   go_wp2_with (first
    | (go_at_call 142;refine (HS.out _).mono ?_;rintro e w1 ⟨rfl,hb1⟩;have HB1:=Lib.hid hb1;clear hb1)
    | (go_at_call 114;refine (number_unit f HF.out _ (HL.out.next HB1.out)).mono ?_;rintro e w2 ⟨rfl,hb2⟩;rw [HN.out,qv_some,qe_some];have HB2:=Lib.hid (HB1.out.trans (hb2.mono HB1.out.size));clear hb2))
   go_ret2
   exact ⟨rfl,HB2.out⟩
  ·rw [if_neg hc] at hsz
   rw [hsz]
   obtain ⟨q,hqe⟩:∃ q,top / b=q:=⟨_,rfl⟩
   rw [hqe] at hq hc hqt
   clear hsz hn hqe
   go_enter Tryz.func120,Tryz.ntmps120
   go_wp2_with (first
    | (go_at_call 142;refine (HS.out _).mono ?_;rintro e w1 ⟨rfl,hb1⟩;have HB1:=Lib.hid hb1;clear hb1)
    | (go_at_call 114;refine (number_unit f HF.out _ (HL.out.next HB1.out)).mono ?_;rintro e w2 ⟨rfl,hb2⟩;rw [HN.out,qv_some,qe_some];have HB2:=Lib.hid (HB1.out.trans (hb2.mono HB1.out.size));clear hb2))
   go_ret2
   exact ⟨rfl,HB2.out⟩
end Go.Proofs.YtekcjfdllclphaaGreatDoor.gn
end
section
namespace Go.Proofs.YtekcjfdllclphaaGreatDoor.gn
open Go.RowKit
open Go.Proofs.YtekcjfdllclphaaGreatDoor.un
set_option maxRecDepth 100000 in
theorem four_slice (b:Nat) (W:World):(Instr.sliceAt 177 (.pointer (some ⟨b,0,none⟩)) none (some (.int .i64 4)) none).run Tryz.prog W=.ok (.slice (some ⟨b,0,none⟩) 4 8) W:=by
 have hl:Tryz.prog.arrayLen 177=8:=by kernel_rfl
 rw [run_sliceAt_array_h W _ _ Tryz.underlying177 .i64 4 (by omega) (by rw [hl];omega),hl]
 have hs:∀ W,(sizeOf (Tryz.prog.elem 177)).run Tryz.prog W=.ok 1 W:=fun W=>rfl
 rw [hs]
 have ha:(⟨b,0,none⟩:Addr).add 0=⟨b,0,none⟩:=by unfold Addr.add;split <;> simp_all
 simp [slicedAt,Result.andThen,ha]
set_option maxRecDepth 100000 in
set_option maxHeartbeats 1600000 in
theorem stext_out (n:Int) (h0:-9223372036854775808≤n) (h1:n≤9223372036854775807) (hq:¬ (0 < n∧n≤1099511627776)) (w:World) (hL:LaidU w) :
  Calls Tryz.prog 118 #[.int .i64 n] w (Told (.string (str (stxt n))) w):=by
 rw [stxt_out hq]
 have HL:=Lib.hid hL
 clear hL
 by_cases hz:n=0
 ·subst hz
  go_enter Tryz.func118,Tryz.ntmps118
  go_wp2_with (go_at_call 93;refine (text_any 0 h0 h1 _ HL.out).mono ?_;rintro e w2 ⟨rfl,hb2⟩;have HB2:=Lib.hid hb2;clear hb2)
  go_ret
  exact ⟨rfl,HB2.out⟩
 ·obtain ⟨m,hm⟩:∃ m,m=min (max n 0) 1099511627776:=⟨_,rfl⟩
  have hne:(n == m)=false:=by
   rw [beq_eq_false_iff_ne]
   omega
  have hne2:(n != m)=true:=by rw [bne_iff_ne];exact beq_eq_false_iff_ne.1 hne
  have HM:=Lib.hid hm
  clear hm hq
  go_enter Tryz.func118,Tryz.ntmps118
  go_wp2_with (first
   | (go_at_call 121;refine (uof_any n _).mono ?_;rintro e w' ⟨rfl,rfl⟩;rw [←HM.out])
   | (go_at_call 93;refine (text_any n h0 h1 _ HL.out).mono ?_;rintro e w2 ⟨rfl,hb2⟩;have HB2:=Lib.hid hb2;clear hb2))
  go_ret
  exact ⟨rfl,HB2.out⟩
set_option maxRecDepth 100000 in
set_option maxHeartbeats 3200000 in
theorem stext_in (n:Nat) (h0:0 < n) (h1:n≤1099511627776) (w:World) (hL:LaidU w) :
  Calls Tryz.prog 118 #[.int .i64 (n:Int)] w (Told (.string (str (stxt (n:Int)))) w):=by
 have HL:=Lib.hid hL
 have hm:min (max (n:Int) 0) 1099511627776=(n:Int):=by omega
 have HM:=Lib.hid hm
 clear hL hm
 go_enter Tryz.func118,Tryz.ntmps118
 go_upto_region 4 with (first
  | (go_at_call 121;refine (uof_any (n:Int) _).mono ?_;rintro e w' ⟨rfl,rfl⟩;rw [HM.out])
  | (go_at_call 140;refine (units_any _).mono ?_;rintro e w1 ⟨b,rfl,hu,hbl,hb⟩;have HU:=Lib.hid hu;have HB:=Lib.hid hb;clear hu hb hbl)
  | (go_at_call 141;refine (order_any _).mono ?_;rintro e w2 ⟨rfl,hb2⟩;unfold ordV;have HU2:=Lib.hid (HU.out.next hb2);have HB2:=Lib.hid (HB.out.trans (hb2.mono HB.out.size));clear hb2))
 obtain ⟨w3,hw3⟩:∃ w3,w2.alloc (.cells ordV 177)=w3:=⟨_,rfl⟩
 have hcell:∀ k,k < 8→w3.cell? ⟨w2.heap.size,k,none⟩=some (.string (str (nm k))):=fun k hk=>by
  rw [←hw3,World.cell?_alloc_mark]
  exact ordV_at hk
 have hsz3:w2.heap.size < w3.heap.size:=by rw [←hw3];simp
 have hb3:Below w2.heap.size w2 w3:=by rw [←hw3];exact (Below.refl _ _).alloc (Nat.le_refl _) _
 have HU3:=Lib.hid (HU2.out.next hb3)
 have HB3:=Lib.hid (HB2.out.trans (hb3.mono HB2.out.size))
 unfold ordV at hw3
 rw [hw3]
 clear hw3 hb3
 have HC:=Lib.hid hcell
 clear hcell
 have hsl:=four_slice w2.heap.size w3
 generalize w2.heap.size=g at *
 go_wp2
 go_loopw [21] (fun s21 wr=>∃ k:Nat,s21=.int .i64 k∧k≤4∧Aside (∀ i,i < k→n % sz i≠0)∧wr=w3) (fun s21 _=>4 - (intOf s21).toNat)
 case atStart=>exact ⟨0,rfl,by omega,fun i hi=>absurd hi (by omega),rfl⟩
 case round =>
  obtain ⟨k,rfl,hk,hno,rfl⟩:=hrel
  by_cases h4:k < 4
  ·have hck:=HC.out k (by omega)
   have hlk:=HU3.out.look (show k < 8 by omega)
   have hsb:=sz_bd (show k < 8 by omega)
   have hs0:¬ ((sz k:Nat):Int)=0:=by omega
   have htm:Int.tmod (n:Int) ((sz k:Nat):Int)=((n % sz k:Nat):Int):=rfl
   have htd:Int.tdiv (n:Int) ((sz k:Nat):Int)=((n / sz k:Nat):Int):=rfl
   by_cases hd:n % sz k=0
   ·have hx:=stxt_at h0 h1 h4 hno hd
    have HX:=Lib.hid hx
    have hle:n / sz k≤1099511627776:=Nat.le_trans (Nat.div_le_self _ _) h1
    have z1:(str (txt ((n / sz k:Nat):Int))).size≤13:=by rw [str_size];exact txt_len _
    have z2:(str (nm k)).size≤3:=by rw [str_size];exact nm_len (by omega)
    have hte:=txt_in hle
    have HTE:=Lib.hid hte
    rw [hd] at htm
    clear hx hte hno hd
    generalize n / sz k=q at *
    go_wp2_with (go_at_call 93;refine (text_any (q:Int) (by omega) (by omega) _ (HL.out.next HB3.out)).mono ?_;rintro e w4 ⟨rfl,hb4⟩;have HB4:=Lib.hid (HB3.out.trans (hb4.mono HB3.out.size));clear hb4)
    go_ret
    exact ⟨by rw [HX.out,HTE.out,str_app];rfl,HB4.out⟩
   ·have hd2:((n % sz k:Nat):Int)≠0:=by omega
    have hno2:∀ i,i < k+1→n % sz i≠0:=fun i hi=>by
     rcases Nat.lt_or_ge i k with h | h
     ·exact hno i h
     ·rw [show i=k by omega];exact hd
    have HN:=Lib.hid hno2
    clear hno2 hno hd htd
    generalize n % sz k=r at *
    go_wp2
    go_roundw
    case rel=>exact ⟨k+1,by go_num,by omega,HN.out,trivial⟩
    case measure=>simp [intOf];omega
  ·obtain rfl:k=4:=by omega
   have hx:=stxt_none h0 h1 hno
   have HX:=Lib.hid hx
   have HTE:=Lib.hid (txt_in h1)
   clear hx hno
   go_wp2_with (go_at_call 93;refine (text_any (n:Int) (by omega) (by omega) _ (HL.out.next HB3.out)).mono ?_;rintro e w4 ⟨rfl,hb4⟩;have HB4:=Lib.hid (HB3.out.trans (hb4.mono HB3.out.size));clear hb4)
   go_ret
   exact ⟨by rw [HX.out,HTE.out];rfl,HB4.out⟩
theorem stext_any (n:Int) (h0:-9223372036854775808≤n) (h1:n≤9223372036854775807) (w:World) (hL:LaidU w) :
  Calls Tryz.prog 118 #[.int .i64 n] w (Told (.string (str (stxt n))) w):=by
 by_cases h:0 < n∧n≤1099511627776
 ·obtain ⟨m,rfl⟩:∃ m:Nat,n=(m:Int):=⟨n.toNat,by omega⟩
  exact stext_in m (by omega) (by omega) w hL
 ·exact stext_out n h0 h1 h w hL
end Go.Proofs.YtekcjfdllclphaaGreatDoor.gn
end
