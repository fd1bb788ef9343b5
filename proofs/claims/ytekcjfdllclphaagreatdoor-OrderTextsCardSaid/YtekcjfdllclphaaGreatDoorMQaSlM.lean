/- Slips, plain: a text between any byte, the first line's fields, the lines, what a text denotes, by the document. (Written ahead of the code.) -/
import Derived.Test.YtekcjfdllclphaaGreatDoorMQaGen
import Derived.Lib.Split
import Derived.Deep.AppendSrc
import Derived.Maps.AppendAt
import Derived.Laws.CopyOwn
import Derived.Laws.AppendOwn
import Derived.Below
import GoSem.ClaimWide
import Derived.Test.YtekcjfdllclphaaGreatDoorMQaUnM
import Derived.Lib.SmallJoins
import Derived.Lib.AppendIntMem
import Derived.Lib.AtoiBound
import Derived.Maps.OwnOps
import Derived.Carry
import Derived.Maps.RangeWalk
section
set_option linter.unusedVariables false
namespace Go.Proofs.YtekcjfdllclphaaGreatDoor.sp
open Go.Proofs.YtekcjfdllclphaaGreatDoor.un
open Go.Proofs.YtekcjfdllclphaaGreatDoor.di
def cuts (c:UInt8):Tx→List Tx
 | []=>[[]]
 | b::r=>if b=c then []::cuts c r else match cuts c r with
  | h::t=>(b::h)::t
  | []=>[[b]]
theorem cuts_bl (c:UInt8) (r:Tx):cuts c (c::r)=[]::cuts c r:=by rw [cuts,if_pos rfl]
theorem cuts_nb {c b:UInt8} (h:b≠c) (r:Tx):cuts c (b::r)=match cuts c r with
  | h::t=>(b::h)::t
  | []=>[[b]]:=by rw [cuts,if_neg h]
theorem cuts_ne (c:UInt8):∀ l:Tx,cuts c l≠[]
 | []=>by simp [cuts]
 | b::r=>by
  unfold cuts
  split
  ·simp
  ·split <;> simp
def joinC (c:UInt8):List Tx→Tx
 | []=>[]
 | [a]=>a
 | a::b::r=>a++c::joinC c (b::r)
theorem joinC_cons (c:UInt8) (a:Tx) {L:List Tx} (h:L≠[]):joinC c (a::L)=a++c::joinC c L:=by
 cases L with
 | nil=>exact absurd rfl h
 | cons b r=>rfl
theorem join_cuts (c:UInt8):∀ l:Tx,joinC c (cuts c l)=l
 | []=>rfl
 | b::r=>by
  have ih:=join_cuts c r
  unfold cuts
  by_cases hb:b=c
  ·rw [if_pos hb,joinC_cons c [] (cuts_ne c r),ih,hb]
   rfl
  ·rw [if_neg hb]
   cases hw:cuts c r with
   | nil=>exact absurd hw (cuts_ne c r)
   | cons h t =>
    rw [hw] at ih
    dsimp only
    cases t with
    | nil=>rw [←ih];rfl
    | cons d t =>
     rw [←ih]
     rfl
theorem cuts_clean (c:UInt8):∀ (l:Tx) (w:Tx),w∈cuts c l→c ∉ w
 | [],w,h=>by
  simp [cuts] at h
  subst h
  simp
 | b::r,w,h=>by
  have ih:=cuts_clean c r
  unfold cuts at h
  by_cases hb:b=c
  ·rw [if_pos hb] at h
   rcases List.mem_cons.1 h with rfl | h
   ·simp
   ·exact ih w h
  ·rw [if_neg hb] at h
   cases hw:cuts c r with
   | nil=>exact absurd hw (cuts_ne c r)
   | cons x t =>
    rw [hw] at h ih
    dsimp only at h
    rcases List.mem_cons.1 h with rfl | h
    ·have:=ih x (by simp)
     simp only [List.mem_cons,not_or]
     exact ⟨fun e=>hb e.symm,this⟩
    ·exact ih w (by simp [h])
theorem cuts_app (c:UInt8):∀ (a:Tx) (r:Tx),c ∉ a→cuts c (a++c::r)=a::cuts c r
 | [],r,_=>cuts_bl c r
 | b::a,r,h=>by
  simp only [List.mem_cons,not_or] at h
  have ih:=cuts_app c a r h.2
  show cuts c (b::(a++c::r))=_
  rw [cuts_nb (fun e=>h.1 e.symm),ih]
theorem cuts_one (c:UInt8):∀ (a:Tx),c ∉ a→cuts c a=[a]
 | [],_=>rfl
 | b::a,h=>by
  simp only [List.mem_cons,not_or] at h
  rw [cuts_nb (fun e=>h.1 e.symm),cuts_one c a h.2]
theorem cuts_join (c:UInt8):∀ (L:List Tx),L≠[]→(∀ w∈L,c ∉ w)→cuts c (joinC c L)=L
 | [],h,_=>absurd rfl h
 | [a],_,h=>cuts_one c a (h a (by simp))
 | a::b::r,_,h=>by
  rw [joinC_cons c a (by simp),cuts_app c a _ (h a (by simp)),cuts_join c (b::r) (by simp) (fun w hw=>h w (by simp [hw]))]
theorem joinC_snoc (c:UInt8):∀ (L:List Tx) (x:Tx),L≠[]→joinC c (L++[x])=joinC c L++c::x
 | [],_,h=>absurd rfl h
 | [a],x,_=>rfl
 | a::b::r,x,_=>by
  rw [List.cons_append,joinC_cons c a (by simp),joinC_snoc c (b::r) x (by simp),joinC_cons c a (by simp),List.append_assoc]
  rfl
theorem joinC_len (c:UInt8):∀ (L:List Tx) (m:Nat),(∀ w∈L,w.length≤m)→(joinC c L).length≤L.length * (m+1)
 | [],m,_=>by simp [joinC]
 | [a],m,h=>by
  have:=h a (by simp)
  simp [joinC]
  omega
 | a::b::r,m,h=>by
  have h1:=h a (by simp)
  have h2:=joinC_len c (b::r) m fun w hw=>h w (by simp [hw])
  rw [joinC_cons c a (by simp),List.length_append,List.length_cons,List.length_cons (a:=a),Nat.add_mul]
  omega
def cutB (c:UInt8):Tx→Option (Tx × Tx)
 | []=>none
 | b::r=>if b=c then some ([],r) else (cutB c r).map fun p=>(b::p.1,p.2)
theorem cut_B:∀ l:Tx,cut l=cutB 61 l
 | []=>rfl
 | b::r=>by
  unfold cut cutB
  rw [cut_B r]
theorem cutB_at (c:UInt8):∀ (k v:Tx),c ∉ k→cutB c (k++c::v)=some (k,v)
 | [],v,_=>by
  show cutB c (c::v)=_
  unfold cutB
  rw [if_pos rfl]
 | b::k,v,h=>by
  simp only [List.mem_cons,not_or] at h
  show cutB c (b::(k++c::v))=_
  unfold cutB
  rw [if_neg (fun e=>h.1 e.symm),cutB_at c k v h.2]
  rfl
structure Slip where
 user:Tx
 nodes:Int
 wall:Int
 qos:Int
 after:List (Int × Bool)
 cap:Int
 inn:Int
 out:Int
 pool:Tx
 make:List Dir
 drop:List Tx
 use:List Tx
deriving DecidableEq
def Slip.zero:Slip:=⟨[],0,0,0,[],0,0,0,[],[],[],[]⟩
def jobW:Tx:=[106,111,98]
def userK:Tx:=[117,115,101,114]
def nodesK:Tx:=[110,111,100,101,115]
def wallK:Tx:=[119,97,108,108]
def qosK:Tx:=[113,111,115]
def afterK:Tx:=[97,102,116,101,114]
def okW:Tx:=[111,107]
def anyW:Tx:=[97,110,121]
def within? (s:Tx) (a b:Nat):Option Nat:=match num? s with
 | some n=>if a≤n∧n≤b then some n else none
 | none=>none
def dep? (p:Tx):Option (Int × Bool):=match cutB 58 p with
 | some f=>match within? f.2 1 1073741824 with
  | some n=>if f.1=okW∨f.1=anyW then some ((n:Int),decide (f.1=anyW)) else none
  | none=>none
 | none=>none
def fput (x:Slip) (f:Fl):Option Slip :=
 if f.1=userK then some { x with user:=f.2 }
 else if f.1=nodesK then (within? f.2 1 64).map fun n=>{ x with nodes:=(n:Int) }
 else if f.1=wallK then (within? f.2 1 1048576).map fun n=>{ x with wall:=(n:Int) }
 else if f.1=qosK then (within? f.2 0 9).map fun n=>{ x with qos:=(n:Int) }
 else if f.1=afterK then ((cuts 44 f.2).mapM dep?).map fun l=>{ x with after:=l }
 else none
def frun:Slip × List Tx→List Tx→Option (Slip × List Tx)
 | s,[]=>some s
 | s,w::ws=>match cut w with
  | none=>none
  | some f=>if f.1∈s.2 then none else match fput s.1 f with
   | none=>none
   | some x=>frun (x,s.2++[f.1]) ws
def first? (l:Tx):Option Slip:=match cuts 32 l with
 | j::ws=>if j=jobW then match frun (Slip.zero,[]) ws with
  | some s=>if userK∈s.2∧nodesK∈s.2∧wallK∈s.2 then some s.1 else none
  | none=>none
  else none
 | []=>none
def isD (l:Tx):Bool:=decide (l=bbW) || ([35,66,66,32]:Tx).isPrefixOf l
def put (x:Slip) (d:Dir):Slip :=
 if d.kind=1 then { x with cap:=d.size,pool:=d.pool }
 else if d.kind=2 then { x with inn:=d.size }
 else if d.kind=3 then { x with out:=d.size }
 else if d.kind=4 then { x with make:=x.make++[d] }
 else if d.kind=5 then { x with drop:=x.drop++[d.name] }
 else if d.kind=6 then { x with use:=x.use++[d.name] }
 else x
def lrun:Slip × List Nat→Nat→List Tx→Except (Int × Nat) (Slip × List Nat)
 | s,_,[]=>.ok s
 | s,i,l::r=>if isD l=true then
   if lerr l≠0 then .error (lerr l,i)
   else if (ldir l).kind≤3∧(ldir l).kind∈s.2 then .error (150,i)
   else lrun (put s.1 (ldir l),(ldir l).kind::s.2) (i+1) r
  else lrun s (i+1) r
def nameL (l:List Tx):Prop:=l.length≤4∧l.Nodup∧∀ n∈l,isName n=true
instance (l:List Tx):Decidable (nameL l):=by unfold nameL;infer_instance
def chkS (x:Slip):Bool:=decide (isName x.user=true∧(1≤x.nodes∧x.nodes≤64)∧(1≤x.wall∧x.wall≤1048576)∧(0≤x.qos∧x.qos≤9)
 ∧ (x.after.length≤8∧(x.after.map (·.1)).Nodup∧∀ d∈x.after,1≤d.1∧d.1≤1073741824)
 ∧ (0≤x.cap∧x.cap≤1099511627776)∧(x.cap=0→x.pool=[])∧(x.cap≠0→isName x.pool=true)
 ∧ (0≤x.inn∧x.inn≤x.cap)∧(0≤x.out∧x.out≤x.cap)
 ∧ (∀ d∈x.make,d.kind=4∧chk d=true)∧nameL (x.make.map (·.name))∧nameL x.drop∧nameL x.use∧∀ d∈x.make,d.name ∉ x.use)
def sread (s:Tx):Slip × Int × Nat:=if 10000 < s.length then (Slip.zero,3,0) else match cuts 10 s with
 | []=>(Slip.zero,150,1)
 | l::r=>match first? l with
  | none=>(Slip.zero,150,1)
  | some x=>match lrun (x,[]) 2 r with
   | .error e=>(Slip.zero,e.1,e.2)
   | .ok st=>if chkS st.1=true then (st.1,0,0) else (Slip.zero,150,r.length+1)
def depT (d:Int × Bool):Tx:=(if d.2=true then anyW else okW)++58::txt d.1
def fsS (x:Slip):List Fl:=[(userK,x.user),(nodesK,txt x.nodes),(wallK,txt x.wall)]++(if 0 < x.qos then [(qosK,txt x.qos)] else [])++(if x.after=[] then [] else [(afterK,joinC 44 (x.after.map depT))])
def line1 (x:Slip):Tx:=joinC 32 (jobW::(fsS x).map wtx)
def dirsS (x:Slip):List Dir:=(if 0 < x.cap then [⟨1,[],x.pool,x.cap,false⟩] else [])++(if 0 < x.inn then [⟨2,[],[],x.inn,false⟩] else [])++(if 0 < x.out then [⟨3,[],[],x.out,false⟩] else [])
 ++ x.make++x.drop.map (fun n=>⟨5,n,[],0,false⟩)++x.use.map (fun n=>⟨6,n,[],0,false⟩)
def txtS (x:Slip):Tx:=joinC 10 (line1 x::(dirsS x).map dtx)
end Go.Proofs.YtekcjfdllclphaaGreatDoor.sp
end
section
set_option linter.unusedVariables false
set_option linter.unusedSimpArgs false
namespace Go.Proofs.YtekcjfdllclphaaGreatDoor.di
open Go.Proofs.YtekcjfdllclphaaGreatDoor.un
theorem idx_cons (b c:UInt8) (l:Tx):Lib.index (b::l) [c]=if c=b then 0 else if Lib.index l [c]=-1 then -1 else Lib.index l [c]+1:=by
 show (if ([c]:Tx).isPrefixOf (b::l)=true then 0 else if (Lib.index l [c] == -1)=true then -1 else Lib.index l [c]+1)=_
 simp [List.isPrefixOf]
theorem idx_none {c:UInt8}:∀ {l:Tx},c ∉ l→Lib.index l [c]=-1
 | [],_=>rfl
 | b::l,h=>by
  simp only [List.mem_cons,not_or] at h
  rw [idx_cons,if_neg h.1,idx_none h.2,if_pos rfl]
theorem idx_app {c:UInt8}:∀ (a r:Tx),c ∉ a→Lib.index (a++c::r) [c]=(a.length:Int)
 | [],r,_=>by
  rw [List.nil_append,idx_cons,if_pos rfl]
  rfl
 | b::a,r,h=>by
  simp only [List.mem_cons,not_or] at h
  rw [List.cons_append,idx_cons,if_neg h.1,idx_app a r h.2,if_neg (by omega),List.length_cons]
  omega
theorem split_spec:∀ (n:Nat) (l:Tx),l.length≤n→Lib.splitK [32] 0 (Lib.count l [32]) l=words l∧Lib.count l [32]+1=(words l).length
 | n,l,hn=>by
  by_cases hm:(32:UInt8)∈l
  ·obtain ⟨a,r,rfl,ha⟩:=List.eq_append_cons_of_mem hm
   have hi:=idx_app a r ha
   have hd:(a++32::r).drop (a.length+1)=r:=by
    rw [List.drop_append]
    simp
   have hc:Lib.count (a++32::r) [32]=1+Lib.count r [32]:=by
    have:=Lib.count_hit (s:=a++32::r) (sub:=[32]) (by simp) hi
    rw [this]
    congr 2
   rw [hc,words_app a r ha]
   cases n with
   | zero=>simp at hn
   | succ n =>
    obtain ⟨i1,i2⟩:=split_spec n r (by simp at hn;omega)
    constructor
    ·rw [Nat.add_comm 1]
     unfold Lib.splitK
     have hne:¬ ((((a.length:Nat):Int) == -1)=true):=by simp
     rw [hi,if_neg hne]
     congr 1
     ·simp
     ·rw [Int.toNat_natCast,show ([32]:Tx).length=1 from rfl,hd]
      exact i1
    ·rw [List.length_cons,← i2]
     omega
  ·have hi:=idx_none hm
   have hc:Lib.count l [32]=0:=Lib.count_miss hi
   rw [hc,words_one l hm]
   exact ⟨rfl,rfl⟩
open Go.Proofs.YtekcjfdllclphaaGreatDoor.gn (str str_size)
theorem map_str:∀ (A:List ByteArray) (B:List Tx),A.map (·.data.toList)=B→A=B.map str
 | [],B,h=>by subst h;rfl
 | a::A,B,h=>by
  subst h
  rw [List.map_cons,List.map_cons,← map_str A _ rfl]
  congr 1
theorem countB_words (l:Tx):Lib.countB (str l) (str [32])+1=(words l).length:=by
 have h:=(split_spec l.length l (Nat.le_refl _)).2
 rw [←h]
 unfold Lib.countB
 congr 1
theorem splitB_words (l:Tx):Lib.splitB (str [32]) 0 (Lib.countB (str l) (str [32])) (str l)=(words l).map str:=by
 have h:=(split_spec l.length l (Nat.le_refl _)).1
 apply map_str
 rw [Lib.splitB_data,← h]
 have e1:(str [32]).data.toList=[32]:=rfl
 have e2:(str l).data.toList=l:=by simp [str]
 rw [e1,e2]
 unfold Lib.countB
 rw [e1,e2]
theorem cut_mem:∀ {l:Tx},cut l=none↔(61:UInt8) ∉ l
 | []=>by simp [cut]
 | b::l=>by
  unfold cut
  by_cases hb:b=61
  ·simp [hb]
  ·rw [if_neg hb]
   have:=cut_mem (l:=l)
   simp only [Option.map_eq_none_iff,this,List.mem_cons,not_or]
   exact ⟨fun h=>⟨fun e=>hb e.symm,h⟩,fun h=>h.2⟩
def fld (w:Tx):Fl:=(cut w).getD (w,[])
theorem cut_lib (w:Tx):Lib.cut w [61]=((fld w).1,(fld w).2,(cut w).isSome):=by
 unfold Lib.cut fld
 cases hc:cut w with
 | none =>
  rw [idx_none (cut_mem.1 hc),if_neg (by decide)]
  rfl
 | some f =>
  obtain ⟨e,hn⟩:=cut_some w f.1 f.2 hc
  have hi:=idx_app f.1 f.2 hn
  rw [←e] at hi
  rw [hi,if_pos (by omega)]
  simp only [Int.toNat_natCast,Option.getD_some,Option.isSome_some]
  have h1:w.take f.1.length=f.1:=by rw [e];simp
  have h2:w.drop (f.1.length+([61]:Tx).length)=f.2:=by
   rw [e,List.drop_append]
   simp
  rw [h1,h2]
def fldL (k:Nat):List (Tx × Bool) :=
 match k with
 | 1=>[(capK,false),(poolK,false)]
 | 2=>[(sizeK,false)]
 | 3=>[(sizeK,false)]
 | 4=>[(nameK,false),(capK,false),(poolK,false),(accK,true)]
 | 5=>[(nameK,false)]
 | 6=>[(nameK,false)]
 | _=>[]
theorem fld_len (k:Nat):(fldL k).length≤4:=by
 unfold fldL
 split <;> decide
theorem six {k:Nat} (h:1≤k∧k≤6):k=1∨k=2∨k=3∨k=4∨k=5∨k=6:=by omega
def has (k:Nat) (key:Tx):Bool:=((fldL k).map (·.1)).contains key
theorem has_allow {k:Nat} (h:1≤k∧k≤6) (key:Tx):allow k key=has k key:=by
 rw [Bool.eq_iff_iff]
 rcases six h with rfl | rfl | rfl | rfl | rfl | rfl <;> simp [allow,has,fldL,hasSize,hasName,hasPool,szK] <;> grind
theorem key_five {k:Nat} {key:Tx} (h:has k key=true):key=nameK∨key=poolK∨key=capK∨key=sizeK∨key=accK:=by
 unfold has fldL at h
 split at h <;> simp at h
 ·rcases h with h | h <;> simp [h]
 ·simp [h]
 ·simp [h]
 ·rcases h with h | h | h | h <;> simp [h]
 ·simp [h]
 ·simp [h]
def sto (key v:Tx) (d:Dir):Dir :=
 if key=nameK then (if isName v=true then { d with name:=v } else d)
 else if key=poolK then (if isName v=true then { d with pool:=v } else d)
 else if key=accK then { d with opn:=v == pubV }
 else { d with size:=(((size? v).getD 0:Nat):Int) }
def val (d:Dir) (key:Tx):Tx :=
 if key=nameK then d.name else if key=poolK then d.pool else if key=accK then (if d.opn=true then pubV else []) else stxt d.size
structure Took (k:Nat) (fs:List Fl):Prop where
 nd:(keys fs).Nodup
 ok:∀ f∈fs,has k f.1=true∧okv f.1 f.2=true
theorem Took.nil (k:Nat):Took k []:=⟨by simp [keys],by simp⟩
theorem Took.snoc {k:Nat} {fs:List Fl} (h:Took k fs) {f:Fl} (hn:f.1 ∉ keys fs) (ha:has k f.1=true) (ho:okv f.1 f.2=true):Took k (fs++[f]):=by
 refine ⟨?_,?_⟩
 ·rw [keys_snoc,List.nodup_append]
  refine ⟨h.nd,by simp,?_⟩
  intro a ha b hb e
  simp only [List.mem_singleton] at hb
  subst hb;subst e
  exact hn ha
 ·intro g hg
  rcases List.mem_append.1 hg with hg | hg
  ·exact h.ok g hg
  ·simp only [List.mem_singleton] at hg
   subst hg
   exact ⟨ha,ho⟩
theorem sz_has {k:Nat} (hk:1≤k∧k≤6) {key:Tx} (h:has k key=true) (h1:key≠nameK) (h2:key≠poolK) (h3:key≠accK):key=szK k:=by
 rw [←has_allow hk] at h
 rcases allow_al h with h | h | h | h
 ·exact h
 ·exact absurd h h1
 ·exact absurd h h2
 ·exact absurd h.1 h3
theorem sto_dir {k:Nat} (hk:1≤k∧k≤6) {fs:List Fl} {f:Fl} (hn:f.1 ∉ keys fs) (ha:has k f.1=true) (ho:okv f.1 f.2=true):sto f.1 f.2 (dirOf k fs)=dirOf k (fs++[f]):=by
 obtain ⟨n1,n2,n3⟩:=sz_ne k
 have m1:nameK≠poolK:=by decide
 have m2:nameK≠accK:=by decide
 have m3:poolK≠accK:=by decide
 unfold dirOf sto
 rw [look_snoc hn,look_snoc hn,look_snoc hn,look_snoc hn]
 by_cases e1:f.1=nameK
 ·rw [e1,okv_name] at ho
  rw [if_pos e1,if_pos ho,e1,if_pos rfl,if_neg m1,if_neg (Ne.symm n1),if_neg m2]
 ·rw [if_neg e1]
  by_cases e2:f.1=poolK
  ·rw [e2,okv_pool] at ho
   rw [if_pos e2,if_pos ho,e2,if_neg (Ne.symm m1),if_pos rfl,if_neg (Ne.symm n2),if_neg m3]
  ·rw [if_neg e2]
   by_cases e3:f.1=accK
   ·rw [if_pos e3,e3,if_neg (Ne.symm m2),if_neg (Ne.symm m3),if_neg (Ne.symm n3),if_pos rfl]
   ·have e4:=sz_has hk ha e1 e2 e3
    rw [if_neg e3,e4,if_neg n1,if_neg n2,if_pos rfl,if_neg n3]
theorem mapM_cut_app {done:List Tx} {fs:List Fl} (h:done.mapM cut=some fs) (w:Tx) (rest:List Tx):(done++w::rest).mapM cut=match cut w,rest.mapM cut with
  | some f,some gs=>some (fs++f::gs)
  | _,_=>none:=by
 induction done generalizing fs with
 | nil =>
  have:fs=[]:=(Option.some.inj h).symm
  subst this
  rw [List.nil_append,List.mapM_cons]
  cases cut w with
  | none=>rfl
  | some f=>cases rest.mapM cut <;> rfl
 | cons a done ih =>
  rw [List.mapM_cons] at h
  cases hc:cut a with
  | none=>rw [hc] at h;cases h
  | some g =>
   rw [hc] at h
   cases hm:done.mapM cut with
   | none=>rw [hm] at h;cases h
   | some gs =>
    rw [hm] at h
    have:fs=g::gs:=(Option.some.inj (show some (g::gs)=some fs from h)).symm
    subst this
    rw [List.cons_append,List.mapM_cons,hc,ih hm]
    cases cut w with
    | none=>rfl
    | some f=>cases rest.mapM cut <;> rfl
theorem took_fail {k:Nat} (hk:1≤k∧k≤6) {fs:List Fl} {done:List Tx} (hd:done.mapM cut=some fs) (w:Tx) (rest:List Tx) (h:¬ (has k (fld w).1=true∧(fld w).1 ∉ keys fs∧okv (fld w).1 (fld w).2=true)) :
  fields? k (done++w::rest)=none:=by
 unfold fields?
 rw [mapM_cut_app hd]
 cases hc:cut w with
 | none=>rfl
 | some f =>
  cases hr:rest.mapM cut with
  | none=>rfl
  | some gs =>
   dsimp only
   rw [if_neg]
   rintro ⟨g1,g2,_⟩
   have hf:fld w=f:=by unfold fld;rw [hc];rfl
   rw [hf] at h
   apply h
   have:=g2 f (by simp)
   refine ⟨by rw [←has_allow hk];exact this.1,?_,this.2⟩
   intro hm
   unfold keys at g1 hm
   rw [List.map_append,List.nodup_append] at g1
   exact g1.2.2 f.1 hm f.1 (by simp) rfl
theorem okv_nil (key:Tx):okv key []=false:=by
 unfold okv
 rw [size_nil,isName_nil]
 split
 ·rfl
 ·split <;> rfl
theorem fld_cut {w:Tx} (h:okv (fld w).1 (fld w).2=true):cut w=some (fld w):=by
 unfold fld at h ⊢
 cases hc:cut w with
 | none =>
  rw [hc] at h
  simp only [Option.getD_none,okv_nil] at h
  cases h
 | some f=>rfl
theorem req_has {k:Nat} (h:1≤k∧k≤6) (key:Tx):key∈req k↔(key,false)∈fldL k:=by
 rcases six h with rfl | rfl | rfl | rfl | rfl | rfl <;> simp [req,hasName,hasSize,hasPool,szK,fldL]
theorem took_end {k:Nat} (hk:1≤k∧k≤6) {fs:List Fl} {ws:List Tx} (hd:ws.mapM cut=some fs) (h:Took k fs) :
  fields? k ws=if ∀ f∈fldL k,f.1 ∉ keys fs→f.2=true then some (dirOf k fs) else none:=by
 unfold fields?
 rw [hd]
 dsimp only
 have hiff:good k fs↔∀ f∈fldL k,f.1 ∉ keys fs→f.2=true:=by
  constructor
  ·rintro ⟨_,_,g3⟩ f hf hn
   cases hb:f.2 with
   | true=>rfl
   | false=>exact absurd (g3 f.1 ((req_has hk _).2 (by rw [←hb];exact hf))) hn
  ·intro hh
   refine ⟨h.nd,fun f hf=>⟨by rw [has_allow hk];exact (h.ok f hf).1,(h.ok f hf).2⟩,fun r hr=>?_⟩
   by_cases hm:r∈keys fs
   ·exact hm
   ·have:=hh (r,false) ((req_has hk r).1 hr) hm
    cases this
 by_cases hg:good k fs
 ·rw [if_pos hg,if_pos (hiff.1 hg)]
 ·rw [if_neg hg,if_neg fun e=>hg (hiff.2 e)]
def crun (d:Dir):List (Tx × Bool)→Dir→Option Dir
 | [],a=>some a
 | f::r,a=>if f.2=true∧val d f.1=[] then crun d r a else if okv f.1 (val d f.1)=true then crun d r (sto f.1 (val d f.1) a) else none
def trun (d:Dir):List (Tx × Bool)→Tx→Tx
 | [],s=>s
 | f::r,s=>if f.2=true∧val d f.1=[] then trun d r s else trun d r (s++32::(f.1++61::val d f.1))
def base (k:Nat):Dir:=⟨k,[],[],0,false⟩
theorem size_stxt_getD (n:Int) (h0:-9223372036854775808≤n) (h1:n≤9223372036854775807):(((size? (stxt n)).getD 0:Nat):Int)=if 0≤n∧n≤1099511627776 then n else 0:=by
 by_cases h:0≤n∧n≤1099511627776
 ·obtain ⟨m,rfl⟩:∃ m:Nat,n=(m:Int):=⟨n.toNat,by omega⟩
  rw [if_pos h,size_stxt (show m≤top by unfold top;omega)]
  rfl
 ·rw [if_neg h,stxt_out (by omega),txt_out h,size_nil]
  rfl
theorem okv_size (n:Int) (h0:-9223372036854775808≤n) (h1:n≤9223372036854775807) {key:Tx} (hk:key=capK∨key=sizeK):okv key (stxt n)=decide (0 < n∧n≤1099511627776):=by
 have:=size_stxt_getD n h0 h1
 unfold okv
 rw [if_pos hk]
 by_cases h:0≤n∧n≤1099511627776
 ·rw [if_pos h] at this
  rw [decide_eq_decide]
  omega
 ·rw [if_neg h] at this
  rw [decide_eq_decide]
  omega
theorem crun_chk (d:Dir) (h0:-9223372036854775808≤d.size) (h1:d.size≤9223372036854775807) (hk:1≤d.kind∧d.kind≤6) :
  (match crun d (fldL d.kind) (base d.kind) with
   | some a=>decide (a=d)
   | none=>false)=chk d:=by
 obtain ⟨k,n,p,z,o⟩:=d
 dsimp only at h0 h1 hk ⊢
 have hz:=size_stxt_getD z h0 h1
 have hoc:=okv_size z h0 h1 (key:=capK) (.inl rfl)
 have hos:=okv_size z h0 h1 (key:=sizeK) (.inr rfl)
 have e1:(capK=nameK)=False:=by simp;decide
 have e2:(capK=poolK)=False:=by simp;decide
 have e3:(capK=accK)=False:=by simp;decide
 have e4:(sizeK=nameK)=False:=by simp;decide
 have e5:(sizeK=poolK)=False:=by simp;decide
 have e6:(sizeK=accK)=False:=by simp;decide
 have e7:(poolK=nameK)=False:=by simp;decide
 have e8:(poolK=accK)=False:=by simp;decide
 have e9:(accK=nameK)=False:=by simp;decide
 have e10:(accK=poolK)=False:=by simp;decide
 have e11:okv accK pubV=true:=by decide
 have e12:(pubV=[])=False:=by simp;decide
 rw [Bool.eq_iff_iff,chk_iff]
 have hn0:=isName_nil
 rcases six hk with rfl | rfl | rfl | rfl | rfl | rfl <;>
  simp only [fldL,crun,val,sto,base,e1,e2,e3,e4,e5,e6,e7,e8,e9,e10,e11,e12,if_true,if_false,false_and,Bool.false_eq_true,okv_name,okv_pool,hoc,hos,hz,hasSize,hasName,hasPool,decide_eq_true_eq] <;>
  by_cases hq:0 < z∧z≤1099511627776 <;> cases hin:isName n <;> cases hip:isName p <;> cases o <;>
  simp [hq] <;> grind
theorem trun_dtx {d:Dir} (h:chk d=true):trun d (fldL d.kind) (bbW++32::kw d.kind)=dtx d:=by
 obtain ⟨c0,c1,cz,c2,c3,c4,c5,c6⟩:=(chk_iff d).1 h
 obtain ⟨k,n,p,z,o⟩:=d
 dsimp only at c0 c1 cz c2 c3 c4 c5 c6 ⊢
 have e1:(capK=nameK)=False:=by simp;decide
 have e2:(capK=poolK)=False:=by simp;decide
 have e3:(capK=accK)=False:=by simp;decide
 have e4:(sizeK=nameK)=False:=by simp;decide
 have e5:(sizeK=poolK)=False:=by simp;decide
 have e6:(sizeK=accK)=False:=by simp;decide
 have e7:(poolK=nameK)=False:=by simp;decide
 have e8:(poolK=accK)=False:=by simp;decide
 have e9:(accK=nameK)=False:=by simp;decide
 have e10:(accK=poolK)=False:=by simp;decide
 have e12:(pubV=[])=False:=by simp;decide
 rcases six c0 with rfl | rfl | rfl | rfl | rfl | rfl <;> cases o <;>
  simp [hasSize,hasName,hasPool] at c1 c2 c3 c4 c5 c6 <;>
  simp [fldL,trun,val,e1,e2,e3,e4,e5,e6,e7,e8,e9,e10,e12,dtx,lineOf,fsOf,joinW,hasSize,hasName,hasPool,szK,wtx]
end Go.Proofs.YtekcjfdllclphaaGreatDoor.di
end
section
set_option linter.unusedVariables false
namespace Go.Proofs.YtekcjfdllclphaaGreatDoor.di
open Go.Proofs.YtekcjfdllclphaaGreatDoor.un
open Go.Lib (decDigits)
theorem neat_at:∀ (l:Tx) (p:UInt8),neat p l=true→∀ (i:Nat) (h:i < l.length),l[i]≠10∧(∀ j,i=j+1→l[i]=32→∀ hj:j < l.length,l[j]≠32)
 | [],p,_,i,h=>by simp at h
 | b::r,p,hn,i,h=>by
  rw [neat,Bool.and_eq_true,Bool.and_eq_true] at hn
  obtain ⟨⟨h1,h2⟩,h3⟩:=hn
  cases i with
  | zero=>exact ⟨by simpa using h1,fun j hj=>by omega⟩
  | succ i =>
   have hi:i < r.length:=by simpa using h
   have ih:=neat_at r b h3 i hi
   refine ⟨ih.1,fun j hj=>?_⟩
   obtain rfl:i=j:=by omega
   intro hb hj2
   cases i with
   | zero =>
    show b≠32
    cases r with
    | nil=>simp at hi
    | cons c r =>
     have hc:c=32:=hb
     rw [neat,Bool.and_eq_true,Bool.and_eq_true] at h3
     intro e
     have:=h3.1.2
     simp [hc,e] at this
   | succ i =>
    have:=ih.2 i rfl hb (by omega)
    exact this
def capE:Tx:=[99,97,112,97,99,105,116,121,61]
def sizE:Tx:=[115,105,122,101,61]
def sub (kib w:Tx):Tx:=if 9 < w.length∧w.take 9=capE then capE++kib else if 5 < w.length∧w.take 5=sizE then sizE++kib else w
end Go.Proofs.YtekcjfdllclphaaGreatDoor.di
end
section
set_option linter.unusedVariables false
set_option linter.unusedSimpArgs false
set_option maxRecDepth 100000
namespace Go.Proofs.YtekcjfdllclphaaGreatDoor.gn
open Go.RowKit
theorem grown_new {w w':World} (h:Below w.heap.size w w'):w.grownBy w' none:=⟨h.os,h.tape,h.output,h.size,fun k hk _=>h.block k hk⟩
def CellsC (w:World) (b off:Nat) (cs:List Value):Prop:=∀ j u,cs[j]?=some u→w.cell? ⟨b,off+j,none⟩=some u
def RdC (w:World) (v:Value) (n:Nat) (cs:List Value):Prop :=
 (∃ p c,v=.slice p 0 c∧n=0∧cs=[]∧(p=none→c=0))∨∃ b off c,v=.slice (some ⟨b,off,none⟩) n c∧b < w.heap.size∧CellsC w b off cs
theorem CellsC.below {w w':World} {b off:Nat} {cs:List Value} (h:CellsC w b off cs) {B:Nat} (hb:Below B w w') (hB:b < B):CellsC w' b off cs:=fun j u hu=>(hb.cell (p:=⟨b,off+j,none⟩) hB).trans (h j u hu)
theorem RdC.next {w w':World} {v:Value} {n:Nat} {cs:List Value} (h:RdC w v n cs) (hb:Below w.heap.size w w'):RdC w' v n cs:=by
 rcases h with h | ⟨b,off,c,e,hlt,hc⟩
 ·exact .inl h
 ·exact .inr ⟨b,off,c,e,Nat.lt_of_lt_of_le hlt hb.size,hc.below hb hlt⟩
theorem RdC.form {w:World} {v:Value} {n:Nat} {cs:List Value} (h:RdC w v n cs):∃ p c,v=.slice p n c:=by
 rcases h with ⟨p,c,rfl,rfl,_⟩ | ⟨b,off,c,rfl,_⟩
 ·exact ⟨_,_,rfl⟩
 ·exact ⟨_,_,rfl⟩
structure EltI (t e:TypeId) (z:Value) (size bytes:Nat):Prop where
 und:Tryz.prog.underlying t=some (.slice e)
 inf:∃ i,Tryz.prog.info? e=some i∧i.zero=some z∧i.size=size∧i.bytes=bytes
 zs:z.cells.size=size
 sz:0 < size
def ApC (base:Nat) (e:TypeId) (size:Nat) (w:World) (v:Value) (n:Nat) (cs:List Value):Prop :=
 (∃ p,v=.slice p 0 0∧n=0∧cs=[])∨w.ownsRow base e size v n cs
theorem ApC.form {base:Nat} {e:TypeId} {size:Nat} {w:World} {v:Value} {n:Nat} {cs:List Value} (h:ApC base e size w v n cs):∃ p c,v=.slice p n c∧n≤c:=by
 rcases h with ⟨p,rfl,rfl,_⟩ | ⟨_,⟨rfl,rfl⟩ | ⟨g,cap,cur,rfl,_,_,h,_⟩⟩
 ·exact ⟨_,_,rfl,Nat.le_refl _⟩
 ·exact ⟨_,_,rfl,Nat.le_refl _⟩
 ·exact ⟨_,_,rfl,h⟩
theorem ApC.rdc {base:Nat} {e:TypeId} {size:Nat} {w:World} {v:Value} {n:Nat} {cs:List Value} (h:ApC base e size w v n cs):RdC w v n cs:=by
 rcases h with ⟨p,rfl,rfl,rfl⟩ | h
 ·exact .inl ⟨p,0,rfl,rfl,rfl,fun _=>rfl⟩
 ·have hc:=fun g=>World.ownsRow.cells h (g:=g)
  obtain ⟨h1,⟨rfl,rfl⟩ | ⟨g,cap,cur,rfl,hb,hg,_⟩⟩:=h
  ·exact .inl ⟨none,0,rfl,rfl,List.eq_nil_of_length_eq_zero (by simpa using h1),fun _=>rfl⟩
  ·refine .inr ⟨g,0,cap,rfl,(Array.getElem?_eq_some_iff.1 hg).1,fun j u hu=>?_⟩
   have:=hc g rfl j u hu
   rwa [Addr.add_lit] at this
theorem ApC.next {base:Nat} {e:TypeId} {size:Nat} {w w':World} {v:Value} {n:Nat} {cs:List Value} (h:ApC base e size w v n cs) (hb:Below w.heap.size w w'):ApC base e size w' v n cs:=by
 rcases h with h | h
 ·exact .inl h
 ·exact .inr (World.ownsRow.kept h (grown_new hb) (by cases hv:v.ownBlock <;> simp))
theorem src_none {t e:TypeId} {size:Nat} (ht:Tryz.prog.underlying t=some (.slice e)) (p:Option Addr) (c:Nat) (w:World):Src Tryz.prog size t (.slice p 0 c) 0 [] w:=by
 cases p with
 | none=>exact Src.ofNil w ht c
 | some a=>exact Src.ofSlice w ht a 0 c [] (by simp) (fun j u hu=>by cases hu) (fun u hu=>by cases hu)
theorem run_ap_none {t e:TypeId} {z:Value} {size bytes:Nat} (E:EltI t e z size bytes) (ty:TypeId) (w:World) (p p':Option Addr) (n c c':Nat) (hle:n≤c) :
  (Builtin.append_ #[t,t] ty #[.slice p n c,.slice p' 0 c']).run Tryz.prog w=.ok (.slice p n c) w:=by
 obtain ⟨i,hi,_,h2,_⟩:=E.inf
 have hs:=src_none (size:=i.size) E.und p' c' w
 cases p <;> simp [Builtin.append_,run_underlying E.und,sizeOf,typeInfo,hi,hs.len,hle,hs.cells,storeCells]
theorem run_ap {t e:TypeId} {z:Value} {size bytes:Nat} (E:EltI t e z size bytes) (ty:TypeId) {base:Nat} {w:World} {v u:Value} {n m:Nat} {cs ds:List Value} (ha:ApC base e size w v n cs) (hr:RdC w u m ds) (hd:ds.length=m * size)
  (h1:∀ u∈ds,u.oneCell'=true) (h63:n+m≤maxLen) (hby:(n+m) * bytes≤140737488355328) (hb:base≤w.heap.size) :
  ∃ v' w',(Builtin.append_ #[t,t] ty #[v,u]).run Tryz.prog w=.ok v' w'∧ApC base e size w' v' (n+m) (cs++ds)∧Below base w w':=by
 rcases hr with ⟨p',c',rfl,rfl,rfl,hz⟩ | ⟨b,off,c,rfl,hbl,hc⟩
 ·obtain ⟨p,c,rfl,hle⟩:=ha.form
  exact ⟨_,w,run_ap_none E ty w p p' n c c' hle,by rw [List.append_nil];exact ha,Below.refl _ _⟩
 ·obtain ⟨i,hi,hi1,hi2,hi3⟩:=E.inf
  have hcells:∀ j u,ds[j]?=some u→w.cell? ((⟨b,off,none⟩:Addr).add j)=some u:=fun j u hu=>by rw [Addr.add_lit];exact hc j u hu
  rcases ha with ⟨p,rfl,rfl,rfl⟩ | ha
  ·rcases Nat.eq_zero_or_pos m with rfl | hm
   ·obtain rfl:ds=[]:=List.eq_nil_of_length_eq_zero (by simpa using hd)
    exact ⟨_,w,run_ap_none E ty w p _ 0 0 c (Nat.le_refl _),.inl ⟨p,rfl,rfl,rfl⟩,Below.refl _ _⟩
   ·have hs:Src Tryz.prog i.size t (.slice (some ⟨b,off,none⟩) m c) m ds w:=Src.ofSlice w E.und _ m c ds (by rw [hi2];exact hd) hcells h1
    have hold:=(src_none (size:=i.size) E.und p 0 w).cellsD
    have hr:=run_append_grow_src (P:=Tryz.prog) w t t ty e i z E.und hi hi1 p 0 0 [] hold _ m ds hs (by omega) (by simp only [maxLen] at h63;omega) (growslice_fits (by omega) (by rw [hi3];exact hby))
    have hge:=grownCap_ge w (0+m) 0 e
    have hcm:grownCap w (0+m) 0 e≤maxLen:=grownCap_le_maxLen w (0+m) 0 e h63
    refine ⟨_,_,hr,.inr ⟨by rw [List.nil_append,hd,Nat.zero_add],.inr ⟨w.heap.size,_,_,rfl,hb,heap_alloc_new w.drew _,hge,hcm,?_,?_⟩⟩,((Below.refl _ w).drew).alloc hb _⟩
    ·simp only [Array.size_append,List.size_toArray,size_zeroCells,E.zs,List.nil_append,hd,← Nat.add_mul]
     congr 1
     omega
    ·simp only [Array.toList_append,List.nil_append]
     rw [show (0+m) * size=ds.length by rw [hd,Nat.zero_add]]
     exact List.take_left
  ·obtain ⟨v',w',hrun,h2,h3,_⟩:=run_append_own (P:=Tryz.prog) w base t ty e i z size bytes E.und hi hi1 hi2 hi3 E.zs E.sz v n cs ha ⟨b,off,none⟩ m c ds hd hcells h1 h63 hby hb
   exact ⟨v',w',hrun,.inr h2,(Below.refl _ w).grown h3 hb fun k hk=>(World.ownsRow.lt ha k hk).1⟩
theorem wpl_ap {t e:TypeId} {z:Value} {size bytes:Nat} (E:EltI t e z size bytes) {w:World} {ops:Array Oper} {rest:List Oper} {o:Oper} {a:Act} {Q:Exit→Act→World→Prop} (hgd:o.guard=none) (s x:Operand)
  (ho:o.op=.call { callee:=.builtin .append,args:=#[s,x],argTypes:=#[t,t] })
  {base:Nat} {v u:Value} {n m:Nat} {cs ds:List Value} (hs:a.eval s=v) (ha:ApC base e size w v n cs) (hx:a.eval x=u) (hr:RdC w u m ds) (hd:ds.length=m * size)
  (h1:∀ u∈ds,u.oneCell'=true) (h63:n+m≤maxLen) (hby:(n+m) * bytes≤140737488355328) (hb:base≤w.heap.size)
  (h:∀ p c w',ApC base e size w' (.slice p (n+m) c) (n+m) (cs++ds)→n+m≤c→Below base w w'→wpList Tryz.prog ops Q rest (a.put o.dst (.slice p (n+m) c)) w') :
  wpList Tryz.prog ops Q (o::rest) a w:=by
 refine wpList_plain hgd fun K hK=>?_
 obtain ⟨v',w',hrun,h2,h3⟩:=run_ap E o.type ha hr hd h1 h63 hby hb
 obtain ⟨p,c,rfl,hle⟩:=h2.form
 unfold Oper.wp
 simp [execOp,ho,resolve,invoke,builtin,hs,hx,hrun,Result.andThen]
 exact hK _ _ (h p c w' h2 hle h3)
theorem run_own {t e:TypeId} {z:Value} {size bytes:Nat} (E:EltI t e z size bytes) (ty:TypeId) {base:Nat} {w:World} {v:Value} {n m c:Nat} {a:Addr} {cs ds:List Value} (ha:w.ownsRow base e size v n cs) (hr:∀ j u,ds[j]?=some u→w.cell? (a.add j)=some u) (hd:ds.length=m * size)
  (h1:∀ u∈ds,u.oneCell'=true) (h63:n+m≤maxLen) (hby:(n+m) * bytes≤140737488355328) (hb:base≤w.heap.size) (hm:0 < m) :
  ∃ v' w',(Builtin.append_ #[t,t] ty #[v,.slice (some a) m c]).run Tryz.prog w=.ok v' w'∧w'.ownsRow base e size v' (n+m) (cs++ds)∧w.grownBy w' v.ownBlock∧(v'.ownBlock=v.ownBlock∨v'.ownBlock=some w.heap.size):=by
 obtain ⟨i,hi,hi1,hi2,hi3⟩:=E.inf
 obtain ⟨v',w',hrun,h2,h3,h4⟩:=run_append_own (P:=Tryz.prog) w base t ty e i z size bytes E.und hi hi1 hi2 hi3 E.zs E.sz v n cs ha a m c ds hd hr h1 h63 hby hb
 refine ⟨v',w',hrun,h2,h3,?_⟩
 have hsmall:n+m≤9223372036854775807:=by simp only [maxLen] at h63;omega
 subst hi2
 subst hi3
 rcases ha with ⟨hlen,⟨rfl,rfl⟩ | ⟨g,cap,cur,rfl,hbg,hg,hnc,hcm,hcs,htake⟩⟩
 ·have hr2:=run_append_nil (P:=Tryz.prog) w t ty e i z E.und hi hi1 a m c ds hd hr (by omega) (by omega) (by simp only [Nat.zero_add] at hby;omega)
  have:=hrun.symm.trans hr2
  simp only [Result.ok.injEq] at this
  rw [this.1]
  exact .inr rfl
 ·by_cases hroom:n+m≤cap
  ·have hfit:n * i.size+ds.length≤cur.size:=by rw [hd,hcs,← Nat.add_mul];exact Nat.mul_le_mul_right _ hroom
   have hr2:=run_append_room (P:=Tryz.prog) w t ty e i E.und hi g n cap cur hg a m c ds hd hr h1 hroom hfit
   have:=hrun.symm.trans hr2
   simp only [Result.ok.injEq] at this
   rw [this.1]
   exact .inl rfl
  ·have holds:∀ j u,cs[j]?=some u→w.cell? ((⟨g,0,none⟩:Addr).add j)=some u:=World.ownsRow.cells (w:=w) (base:=base) (e:=e) (size:=i.size) (n:=n) (v:=.slice (some ⟨g,0,none⟩) n cap) ⟨hlen,.inr ⟨g,cap,cur,rfl,hbg,hg,hnc,hcm,hcs,htake⟩⟩ (g:=g) rfl
   have hr2:=run_append_grow (P:=Tryz.prog) w t ty e i z E.und hi hi1 ⟨g,0,none⟩ n cap cs hlen holds a m c ds hd hr (by omega) (by omega) (growslice_fits (by omega) hby)
   have:=hrun.symm.trans hr2
   simp only [Result.ok.injEq] at this
   rw [this.1]
   exact .inr rfl
theorem run_ow {t e:TypeId} {z:Value} {size bytes:Nat} (E:EltI t e z size bytes) (ty:TypeId) {base:Nat} {w:World} {v u:Value} {n m:Nat} {cs ds:List Value} (ha:w.ownsRow base e size v n cs) (hr:RdC w u m ds) (hd:ds.length=m * size)
  (h1:∀ u∈ds,u.oneCell'=true) (h63:n+m≤maxLen) (hby:(n+m) * bytes≤140737488355328) (hb:base≤w.heap.size) :
  ∃ v' w',(Builtin.append_ #[t,t] ty #[v,u]).run Tryz.prog w=.ok v' w'∧w'.ownsRow base e size v' (n+m) (cs++ds)∧Below base w w':=by
 rcases hr with ⟨p',c',rfl,rfl,rfl,hz⟩ | ⟨b,off,c,rfl,hbl,hc⟩
 ·have hap:ApC base e size w v n cs:=.inr ha
  obtain ⟨p,c,rfl,hle⟩:=hap.form
  exact ⟨_,w,run_ap_none E ty w p p' n c c' hle,by rw [List.append_nil];exact ha,Below.refl _ _⟩
 ·obtain ⟨i,hi,hi1,hi2,hi3⟩:=E.inf
  have hcells:∀ j u,ds[j]?=some u→w.cell? ((⟨b,off,none⟩:Addr).add j)=some u:=fun j u hu=>by rw [Addr.add_lit];exact hc j u hu
  obtain ⟨v',w',hrun,h2,h3,_⟩:=run_append_own (P:=Tryz.prog) w base t ty e i z size bytes E.und hi hi1 hi2 hi3 E.zs E.sz v n cs ha ⟨b,off,none⟩ m c ds hd hcells h1 h63 hby hb
  exact ⟨v',w',hrun,h2,(Below.refl _ w).grown h3 hb fun k hk=>(World.ownsRow.lt ha k hk).1⟩
end Go.Proofs.YtekcjfdllclphaaGreatDoor.gn
end
section
set_option linter.unusedVariables false
namespace Go.Proofs.YtekcjfdllclphaaGreatDoor.fi
abbrev Nm:=List UInt8
abbrev Fl:=List UInt8 × Bool
section
variable {V V' : Type}
def ins (x:Nm × V):List (Nm × V)→List (Nm × V)
 | []=>[x]
 | y::r=>if bytesBefore x.1 y.1 then x::y::r else y::ins x r
def del (k:Nm) (l:List (Nm × V)):List (Nm × V):=l.filter fun p=>!(p.1 == k)
def put (k:Nm) (v:V) (l:List (Nm × V)):List (Nm × V):=ins (k,v) (del k l)
def get (k:Nm) (l:List (Nm × V)):Option V:=(l.find? fun p=>p.1 == k).map (·.2)
theorem ins_map (f:V→V') (x:Nm × V):∀ l:List (Nm × V),(ins x l).map (fun p=>(p.1,f p.2))=ins (x.1,f x.2) (l.map fun p=>(p.1,f p.2))
 | []=>rfl
 | y::r=>by
  simp only [ins,List.map_cons]
  split
  ·simp
  ·simp [ins_map f x r]
theorem ins_perm (x:Nm × V):∀ l:List (Nm × V),(ins x l).Perm (x::l)
 | []=>.refl _
 | y::r=>by
  unfold ins
  split
  ·exact .refl _
  ·exact ((ins_perm x r).cons y).trans (.swap x y r)
theorem mem_del {k:Nm} {z:Nm × V} {l:List (Nm × V)}:z∈del k l↔z∈l∧z.1≠k:=by simp [del]
theorem get_none {k:Nm} {l:List (Nm × V)}:get k l=none↔∀ z∈l,z.1≠k:=by
 simp [get,List.find?_eq_none]
theorem find_ins_hit {k:Nm} {v:V}:∀ {l:List (Nm × V)},(∀ z∈l,z.1≠k)→(ins (k,v) l).find? (fun p=>p.1 == k)=some (k,v)
 | [],_=>by simp [ins]
 | y::r,h=>by
  unfold ins
  split
  ·simp
  ·have:(y.1 == k)=false:=by simpa using h y (by simp)
   rw [List.find?_cons,this]
   exact find_ins_hit fun z hz=>h z (by simp [hz])
theorem find_ins_miss {k j:Nm} {v:V} (hne:j≠k):∀ {l:List (Nm × V)},(ins (k,v) l).find? (fun p=>p.1 == j)=l.find? (fun p=>p.1 == j)
 | []=>by simp [ins,hne.symm]
 | y::r=>by
  unfold ins
  have hkj:(k == j)=false:=by simpa using hne.symm
  split
  ·rw [List.find?_cons,hkj]
  ·rw [List.find?_cons,List.find?_cons,find_ins_miss hne]
theorem get_put_same (k:Nm) (v:V) (l:List (Nm × V)):get k (put k v l)=some v:=by
 unfold get put
 rw [find_ins_hit fun z hz=>(mem_del.1 hz).2]
 rfl
theorem find_del {k j:Nm} (hne:j≠k) (l:List (Nm × V)):(del k l).find? (fun p=>p.1 == j)=l.find? (fun p=>p.1 == j):=by
 unfold del
 induction l with
 | nil=>rfl
 | cons y r ih =>
  by_cases hy:y.1=k
  ·have h1:(y.1 == k)=true:=by simpa using hy
   have h2:(y.1 == j)=false:=by simpa [hy] using hne.symm
   simp only [List.filter_cons,h1,Bool.not_true,Bool.false_eq_true,if_false,List.find?_cons,h2]
   exact ih
  ·have h1:(y.1 == k)=false:=by simpa using hy
   simp only [List.filter_cons,h1,Bool.not_false,if_true,List.find?_cons]
   split
   ·rfl
   ·exact ih
theorem get_del_other {k j:Nm} (hne:j≠k) (l:List (Nm × V)):get j (del k l)=get j l:=by unfold get;rw [find_del hne]
theorem get_del_same (k:Nm) (l:List (Nm × V)):get k (del k l)=none:=get_none.2 fun _ hz=>(mem_del.1 hz).2
theorem get_put_other {k j:Nm} (hne:j≠k) (v:V) (l:List (Nm × V)):get j (put k v l)=get j l:=by
 have h1:get j (put k v l)=get j (del k l):=by unfold get put;rw [find_ins_miss hne]
 rw [h1,get_del_other hne]
theorem put_length {l:List (Nm × V)} (k:Nm) (v:V):(put k v l).length≤l.length+1:=by
 unfold put
 rw [(ins_perm _ _).length_eq,List.length_cons]
 have:=List.length_filter_le (fun p:Nm × V=>!(p.1 == k)) l
 unfold del
 omega
end
end Go.Proofs.YtekcjfdllclphaaGreatDoor.fi
end
section
set_option linter.unusedVariables false
namespace Go.Proofs.YtekcjfdllclphaaGreatDoor.gn
open Go.RowKit
open Go.Proofs.YtekcjfdllclphaaGreatDoor.un
structure LaidU (w:World):Prop where
 tab : Lib.TabIs Tryz.prog w "internal/strconv.uint64pow10" .u64 Lib.pow10Tab
 syn : ∃ tp p, w.var? Tryz.prog "strconv.ErrSyntax" = some #[.iface tp p]
theorem gErrSyn : Tryz.prog.globalNamed "strconv.ErrSyntax" = some (layParseInt_ren.g 15) := by kernel_rfl
theorem LaidU.next {w w':World} (h:LaidU w) (hb:Below w.heap.size w w'):LaidU w':=by
 refine ⟨(Lib.tabBelow_of_tabIs h.tab) w' hb,?_⟩
 obtain ⟨tp,p,hs⟩:=h.syn
 exact ⟨tp,p,Joins.var_stays gErrSyn hs hb (Nat.le_refl _)⟩
def Told (v:Value) (w:World) (e:Ending) (w':World):Prop:=e=.returned v∧Below w.heap.size w w'
theorem format_any (n:Int) (h0:-9223372036854775808≤n) (h1:n≤9223372036854775807) (w:World) (hL:LaidU w) :
  Calls Tryz.prog 122 #[.int .i64 n,.int .i64 10] w (Told (.string (str (Lib.itoa n))) w) :=
 (Any.strconv_FormatInt_10 layFormatInt n h0 h1 w hL.tab).mono fun e w' ⟨he,k,os,hw⟩=>⟨he,by subst hw;exact Lib.below_grow _ w (Nat.le_refl _) k os⟩
def TParse (o:Option Int) (w:World) (e:Ending) (w':World):Prop :=
 (∀ n,o=some n→e=.returned (.tuple #[.int .i64 n,.nilIface]))∧(o=none→∃ t a,e=.returned (.tuple #[.int .i64 0,.iface t (.pointer (some a))]))∧Below w.heap.size w w'
theorem parse_any (l:List UInt8) (hl:l.length≤13) (w:World) (hL:LaidU w) :
  Calls Tryz.prog 138 #[.string (str l),.int .i64 10,.int .i64 64] w (TParse (Lib.atoi l) w):=by
 have hz:=str_size l
 have hd:(str l).data.toList=l:=by simp [str]
 have hp:=parse_short hl
 cases ha:Lib.atoi l with
 | none =>
  obtain ⟨tp,p,hs⟩:=hL.syn
  refine (Any.strconv_ParseInt_10_at64_syntax_var layParseInt (str l) (by omega) (by rw [hd,hp,ha];rfl) tp p w hs).mono ?_
  rintro e w' ⟨N,he,_,_,hb⟩
  exact ⟨fun n h=>(by cases h),fun _=>⟨_,_,he⟩,hb⟩
 | some n =>
  refine (Any.strconv_ParseInt_10_at64_ok layParseInt (str l) (by omega) n (by rw [hd,hp,ha];rfl) w).mono ?_
  rintro e w' ⟨he,hw⟩
  refine ⟨fun m h=>(by cases h;exact he),fun h=>(by cases h),?_⟩
  rcases hw with rfl | ⟨t,rfl⟩
  ·exact Below.refl _ _
  ·exact Lib.bytesWorld_below _ _ _
theorem uof_any (n:Int) (w:World):Calls Tryz.prog 121 #[.int .i64 n] w fun e w'=>e=.returned (.int .i64 (min (max n 0) 1099511627776))∧w=w':=by
 go_enter Tryz.func121,Tryz.ntmps121
 go_wp2
 go_ret
 exact ⟨rfl,rfl⟩
set_option maxRecDepth 100000 in
theorem text_any (n:Int) (h0:-9223372036854775808≤n) (h1:n≤9223372036854775807) (w:World) (hL:LaidU w) :
  Calls Tryz.prog 93 #[.int .i64 n] w (Told (.string (str (txt n))) w):=by
 by_cases hq:0≤n∧n≤1099511627776
 ·have e1:txt n=Lib.itoa n:=by
   unfold txt Lib.itoa
   rw [if_pos hq,if_neg (by omega)]
  have E1:=Lib.hid e1
  have HL:=Lib.hid hL
  clear e1 hL
  obtain ⟨q0,q1⟩:=hq
  have hm:min (max n 0) 1099511627776=n:=by omega
  have HM:=Lib.hid hm
  clear hm
  go_enter Tryz.func93,Tryz.ntmps93
  go_wp2_with (first
   | (go_at_call 121;refine (uof_any n _).mono ?_;rintro e w' ⟨rfl,rfl⟩;rw [HM.out])
   | (go_at_call 122;refine (format_any n h0 h1 _ HL.out).mono ?_;rintro e w' ⟨rfl,hb⟩;have HB:=Lib.hid hb;clear hb))
  go_ret
  exact ⟨by rw [E1.out];rfl,HB.out⟩
 ·have e1:txt n=[]:=txt_out hq
  have E1:=Lib.hid e1
  clear e1
  obtain ⟨m,hm⟩:∃ m,m=min (max n 0) 1099511627776:=⟨_,rfl⟩
  have hne:(n == m)=false:=by
   rw [beq_eq_false_iff_ne]
   omega
  have HM:=Lib.hid hm
  clear hm hq
  go_enter Tryz.func93,Tryz.ntmps93
  go_wp2_with (go_at_call 121;refine (uof_any n _).mono ?_;rintro e w' ⟨rfl,rfl⟩;rw [←HM.out])
  go_ret
  exact ⟨by rw [E1.out];rfl,Below.refl _ _⟩
def qv (o:Option Nat):Int:=((o.getD 0:Nat):Int)
def qe (o:Option Nat):Int:=if o.isSome then 0 else 130
def Tnum (o:Option Nat):World→Ending→World→Prop:=Told (.tuple #[.int .i64 (qv o),.int .i64 (qe o)])
theorem qv_none:qv none=0:=rfl
theorem qe_none:qe none=130:=rfl
theorem qv_some (n:Nat):qv (some n)=(n:Int):=rfl
theorem qe_some (n:Nat):qe (some n)=0:=rfl
set_option maxRecDepth 100000 in
theorem number_long (l:List UInt8) (hl:13 < l.length) (hm:l.length≤140737488355328) (w:World):Calls Tryz.prog 114 #[.string (str l)] w (Tnum (num? l) w):=by
 rw [num_none_long hl]
 have hz:13 < (str l).size:=by rw [str_size];exact hl
 have hz2:(str l).size≤140737488355328:=by rw [str_size];exact hm
 clear hl hm
 go_enter Tryz.func114,Tryz.ntmps114
 go_wp2
 go_ret2
 exact ⟨rfl,Below.refl _ _⟩
set_option maxRecDepth 100000 in
set_option maxHeartbeats 800000 in
theorem number_bad (l:List UInt8) (hl:l.length≤13) (ha:Lib.atoi l=none) (w:World) (hL:LaidU w):Calls Tryz.prog 114 #[.string (str l)] w (Tnum (num? l) w):=by
 rw [num_of_atoi_none ha]
 have hz:(str l).size≤13:=by rw [str_size];exact hl
 have HP:=Lib.hid (parse_any l hl w hL)
 have HA:=Lib.hid ha
 clear hl ha hL
 go_enter Tryz.func114,Tryz.ntmps114
 go_wp2_with (go_at_call 138;refine HP.out.mono ?_;rintro e w' ⟨_,h2,hb⟩;obtain ⟨t,a,rfl⟩:=h2 HA.out;have HB:=Lib.hid hb;clear hb h2)
 go_ret2
 exact ⟨rfl,HB.out⟩
set_option maxRecDepth 100000 in
set_option maxHeartbeats 1600000 in
theorem number_ok (l:List UInt8) (hl:l.length≤13) (n:Int) (ha:Lib.atoi l=some n) (w:World) (hL:LaidU w):Calls Tryz.prog 114 #[.string (str l)] w (Tnum (num? l) w):=by
 have hb:=Lib.atoi_bound ha (by omega)
 have hnum:=num_of_atoi ha hl
 have hz:(str l).size≤13:=by rw [str_size];exact hl
 have HP:=Lib.hid (parse_any l hl w hL)
 have HA:=Lib.hid ha
 have HL:=Lib.hid hL
 have hx:-9223372036854775808≤n:=by omega
 have hy:n≤9223372036854775807:=by omega
 by_cases ht:txt n=l
 ·rw [if_pos ht] at hnum
  rw [hnum]
  have q1:((str (txt n)).toList == (str l).toList)=true:=by rw [ht];simp
  have hn0:0≤n:=by
   have:=num_some hnum
   rcases Int.lt_or_le n 0 with h | h
   ·rw [txt_out (by omega)] at ht
    exact absurd ht.symm this.1
   ·exact h
  have HV:=Lib.hid (show qv (some n.toNat)=n by rw [qv_some];omega)
  clear hl ha hL hnum ht hb hn0
  go_enter Tryz.func114,Tryz.ntmps114
  go_wp2_with (first
   | (go_at_call 138;refine HP.out.mono ?_;rintro e w' ⟨h2,_,hb⟩;obtain rfl:=h2 n HA.out;have HB:=Lib.hid hb;clear hb h2)
   | (go_at_call 93;refine (text_any n hx hy _ (HL.out.next HB.out)).mono ?_;rintro e w2 ⟨rfl,hb2⟩;have HB2:=Lib.hid (HB.out.trans (hb2.mono HB.out.size));clear hb2))
  go_ret2
  exact ⟨by rw [HV.out];rfl,HB2.out⟩
 ·rw [if_neg ht] at hnum
  rw [hnum]
  have q1:((str (txt n)).toList == (str l).toList)=false:=by
   rw [str_toList,str_toList,beq_eq_false_iff_ne]
   exact ht
  clear hl ha hL hnum ht hb
  go_enter Tryz.func114,Tryz.ntmps114
  go_wp2_with (first
   | (go_at_call 138;refine HP.out.mono ?_;rintro e w' ⟨h2,_,hb⟩;obtain rfl:=h2 n HA.out;have HB:=Lib.hid hb;clear hb h2)
   | (go_at_call 93;refine (text_any n hx hy _ (HL.out.next HB.out)).mono ?_;rintro e w2 ⟨rfl,hb2⟩;have HB2:=Lib.hid (HB.out.trans (hb2.mono HB.out.size));clear hb2))
  go_ret2
  exact ⟨rfl,HB2.out⟩
theorem number_unit (l:List UInt8) (hm:l.length≤140737488355328) (w:World) (hL:LaidU w):Calls Tryz.prog 114 #[.string (str l)] w (Tnum (num? l) w):=by
 by_cases hl:13 < l.length
 ·exact number_long l hl hm w
 ·cases ha:Lib.atoi l with
  | none=>exact number_bad l (by omega) ha w hL
  | some n=>exact number_ok l (by omega) n ha w hL
end Go.Proofs.YtekcjfdllclphaaGreatDoor.gn
end
section
set_option linter.unusedVariables false
namespace Go.Proofs.YtekcjfdllclphaaGreatDoor.gn
open Go.RowKit
open Go.Proofs.YtekcjfdllclphaaGreatDoor.un
theorem strKeyed:Go.Maps.Keyed Tryz.prog 9:=Go.Maps.string_keyed Tryz.underlying9
theorem strKey {l:List UInt8} (h:l.length≤maxLen):keyOf Tryz.prog 9 (.string (str l))=some (.string l):=by
 have:=Go.WideMaps.keyOf_string_mk (P:=Tryz.prog) Tryz.underlying9 (s:=str l) (by rw [str_size];exact h)
 simpa [str] using this
theorem zero64 (w:World):(zeroValue 2).run Tryz.prog w=.ok (.int .i64 0) w:=by kernel_rfl
theorem el64 (n:Int) (h:(Lit.int .i64 n).wf=true):plainElem (H:=Unit) Tryz.prog 2 (.int .i64 n)=some (.lit (.int .i64 n),[]):=plainElem_int Tryz.underlying2 h
def unitD:DataW Unit:=((((((((DataW.map []).put (.string [75,66]) (.lit (.int .i64 1000))).put (.string [77,66]) (.lit (.int .i64 1000000))).put (.string [71,66]) (.lit (.int .i64 1000000000))).put (.string [84,66]) (.lit (.int .i64 1000000000000))).put (.string [75,105,66]) (.lit (.int .i64 1024))).put (.string [77,105,66]) (.lit (.int .i64 1048576))).put (.string [71,105,66]) (.lit (.int .i64 1073741824))).put (.string [84,105,66]) (.lit (.int .i64 1099511627776))
def UM (w:World) (b:Nat):Prop:=w.ownsMap Tryz.prog 9 (plainElem (H:=Unit) Tryz.prog 2) b 8 unitD
theorem UM.lt {w:World} {b:Nat} (h:UM w b):b < w.heap.size:=World.ownsMap.lt h
theorem UM.next {w w':World} {b:Nat} (h:UM w b) (hb:Below w.heap.size w w'):UM w' b:=by
 have hlt:=h.lt
 obtain ⟨es,clock,h1,h2⟩:=h
 exact ⟨es,clock,(hb.block b hlt).trans h1,h2⟩
theorem unitD_at {k:Nat} (hk:k < 8):unitD.atKey (.string (nm k)) (.lit (.int .i64 0))=.lit (.int .i64 (sz k:Nat)):=by
 rcases lt8 hk with rfl | rfl | rfl | rfl | rfl | rfl | rfl | rfl <;> kernel_rfl
theorem UM.look {w:World} {b:Nat} (h:UM w b) {k:Nat} (hk:k < 8) :
  (Instr.lookup 175 (.map (some b)) (.string (str (nm k))) false).run Tryz.prog w=.ok (.int .i64 (sz k:Nat)) w:=by
 have hl:(nm k).length≤maxLen:=Nat.le_trans (nm_len hk) (by decide)
 obtain ⟨c,hrun,hat,_⟩:=World.ownsMap.lookup_int h strKeyed Tryz.underlying175 Tryz.underlying2 (zero64 w) (strKey hl)
 rw [unitD_at hk] at hat
 simp only [DataW.lit.injEq,Lit.int.injEq,true_and] at hat
 rw [hrun,hat]
set_option maxRecDepth 100000 in
set_option maxHeartbeats 1600000 in
theorem units_any (w:World):Calls Tryz.prog 140 #[] w fun e w'=>∃ b,e=.returned (.map (some b))∧UM w' b∧w.heap.size≤b∧Below w.heap.size w w':=by
 have h0:=World.ownsMap_made w Tryz.prog 9 (plainElem (H:=Unit) Tryz.prog 2)
 have hz:(w.alloc (.map #[] 0)).heap.size=w.heap.size+1:=by simp
 have b0:Below w.heap.size w (w.alloc (.map #[] 0)):=(Below.refl _ w).alloc (Nat.le_refl _) _
 have k1:keyOf Tryz.prog 9 (.string { data:=#[75,66] })=some (.string [75,66]):=strKey (l:=[75,66]) (by decide)
 have k2:keyOf Tryz.prog 9 (.string { data:=#[77,66] })=some (.string [77,66]):=strKey (l:=[77,66]) (by decide)
 have k3:keyOf Tryz.prog 9 (.string { data:=#[71,66] })=some (.string [71,66]):=strKey (l:=[71,66]) (by decide)
 have k4:keyOf Tryz.prog 9 (.string { data:=#[84,66] })=some (.string [84,66]):=strKey (l:=[84,66]) (by decide)
 have k5:keyOf Tryz.prog 9 (.string { data:=#[75,105,66] })=some (.string [75,105,66]):=strKey (l:=[75,105,66]) (by decide)
 have k6:keyOf Tryz.prog 9 (.string { data:=#[77,105,66] })=some (.string [77,105,66]):=strKey (l:=[77,105,66]) (by decide)
 have k7:keyOf Tryz.prog 9 (.string { data:=#[71,105,66] })=some (.string [71,105,66]):=strKey (l:=[71,105,66]) (by decide)
 have k8:keyOf Tryz.prog 9 (.string { data:=#[84,105,66] })=some (.string [84,105,66]):=strKey (l:=[84,105,66]) (by decide)
 obtain ⟨w1,r1,o1,g1⟩:=h0.update strKeyed Tryz.underlying175 (by decide) k1 (el64 1000 (by decide))
 obtain ⟨w2,r2,o2,g2⟩:=o1.update strKeyed Tryz.underlying175 (by decide) k2 (el64 1000000 (by decide))
 obtain ⟨w3,r3,o3,g3⟩:=o2.update strKeyed Tryz.underlying175 (by decide) k3 (el64 1000000000 (by decide))
 obtain ⟨w4,r4,o4,g4⟩:=o3.update strKeyed Tryz.underlying175 (by decide) k4 (el64 1000000000000 (by decide))
 obtain ⟨w5,r5,o5,g5⟩:=o4.update strKeyed Tryz.underlying175 (by decide) k5 (el64 1024 (by decide))
 obtain ⟨w6,r6,o6,g6⟩:=o5.update strKeyed Tryz.underlying175 (by decide) k6 (el64 1048576 (by decide))
 obtain ⟨w7,r7,o7,g7⟩:=o6.update strKeyed Tryz.underlying175 (by decide) k7 (el64 1073741824 (by decide))
 obtain ⟨w8,r8,o8,g8⟩:=o7.update strKeyed Tryz.underlying175 (by decide) k8 (el64 1099511627776 (by decide))
 have hg:(w.alloc (.map #[] 0)).grownBy w8 (some w.heap.size):=But.trans (But.trans (But.trans (But.trans (But.trans (But.trans (But.trans g1 g2) g3) g4) g5) g6) g7) g8
 have HB:=Lib.hid (b0.grown hg (by rw [hz];omega) (fun k hk=>by cases hk;exact Nat.le_refl _))
 have HU:=Lib.hid (show UM w8 w.heap.size from o8)
 clear h0 hz b0 k1 k2 k3 k4 k5 k6 k7 k8 o1 o2 o3 o4 o5 o6 o7 o8 g1 g2 g3 g4 g5 g6 g7 g8 hg
 have hmm:=@run_makeMap Tryz.prog
 go_enter Tryz.func140,Tryz.ntmps140
 go_wp2
 go_ret
 exact ⟨_,rfl,HU.out,Nat.le_refl _,HB.out⟩
def ordV:Array Value:=#[.string { data:=#[84,105,66] },.string { data:=#[71,105,66] },.string { data:=#[77,105,66] },.string { data:=#[75,105,66] },.string { data:=#[84,66] },.string { data:=#[71,66] },.string { data:=#[77,66] },.string { data:=#[75,66] }]
theorem ordV_at {k:Nat} (hk:k < 8):ordV[k]?=some (.string (str (nm k))):=by
 rcases lt8 hk with rfl | rfl | rfl | rfl | rfl | rfl | rfl | rfl <;> rfl
set_option maxRecDepth 100000 in
theorem order_any (w:World):Calls Tryz.prog 141 #[] w (Told (.agg ordV) w):=by
 go_enter Tryz.func141,Tryz.ntmps141
 go_wp2
 have hg:(w.alloc (.cells ordV 177)).heap[w.heap.size]?=some (.cells ordV 177 (0,0)):=by
  show (w.heap.push _)[w.heap.size]?=_
  rw [Array.getElem?_push_size]
 exact bodyPost_ret (v:=.agg ordV) (results_cell_row rfl _ _ _ _ _ _ _ rfl hg Tryz.underlying177 rfl (by kernel_rfl)) rfl ⟨rfl,(Below.refl _ w).alloc (Nat.le_refl _) _⟩
theorem order_at (w:World) {k:Nat} (hk:k < 8):(Instr.index 177 (.agg ordV) (.int .i64 (k:Int))).run Tryz.prog w=.ok (.string (str (nm k))) w:=by
 rcases lt8 hk with rfl | rfl | rfl | rfl | rfl | rfl | rfl | rfl <;> kernel_rfl
end Go.Proofs.YtekcjfdllclphaaGreatDoor.gn
end
