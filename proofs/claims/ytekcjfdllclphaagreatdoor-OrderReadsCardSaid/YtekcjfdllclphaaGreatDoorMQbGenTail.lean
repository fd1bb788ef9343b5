/- For any seat: a long region's tail that neither reads nor calls; a guard whose value is not known, in the walk. -/
import Derived.Test.YtekcjfdllclphaaGreatDoorMQbGen
import Derived.Test.YtekcjfdllclphaaGreatDoorMQbDiO
import Derived.Deep.AppendSrc
import Derived.Maps.AppendAt
import Derived.Laws.CopyOwn
import Derived.Laws.AppendOwn
import Derived.Lib.Strings
import Derived.Lib.Walk
import Derived.Lib.BufferWrite
import Derived.Lib.UnsafeStr
import Derived.Laws.MakeOwn
set_option linter.unusedVariables false
set_option linter.unusedSimpArgs false
section
namespace Go.Proofs.YtekcjfdllclphaaGreatDoor.gn
def pureVal (a:Act):Op→Option Value
 | .move x=>some (a.eval x)
 | .assign x=>some (a.eval x)
 | .pick c x y=>match a.eval c with
  | .bool true=>some (a.eval x)
  | .bool false=>some (a.eval y)
  | _=>none
 | _=>none
def tailOps (ops:Array Oper):List Oper→Act→Option Act
 | [],a=>some a
 | o::r,a=>match Region.wanted o (yielded ops a.tmps) with
  | true=>match pureVal a o.op with
   | some v=>tailOps ops r (a.put o.dst v)
   | none=>none
  | false=>tailOps ops r (a.put o.dst undef)
section
variable {P : Program} {ops : Array Oper} {Q : Exit → Act → World → Prop} {a : Act} {w : World}
theorem pure_wp {o:Oper} {v:Value} {K:Act→World→Prop} (h:pureVal a o.op=some v) (hK:K (a.put o.dst v) w):o.wp P a w K Q:=by
 have hr:(execOp a.eval o).run P w=.ok (.value v) w:=by
  obtain ⟨dst,op,ty,pos,after,guard⟩:=o
  cases op <;> simp only [pureVal] at h <;> first | (cases h;done) | skip
  case move=>cases h;simp [execOp,go_sem]
  case assign=>cases h;simp [execOp,go_sem]
  case pick =>
   generalize a.eval=ev at h ⊢
   split at h
   ·next he=>cases h;simp [execOp,go_sem,he]
   ·next he=>cases h;simp [execOp,go_sem,he]
   ·cases h
 unfold Oper.wp
 rw [hr]
 exact hK
theorem tail_wp:∀ (l:List Oper) (a a':Act),tailOps ops l a=some a'→Q .normal a' w→wpList P ops Q l a w
 | [],a,a',h,hq=>by cases h;exact hq
 | o::r,a,a',h,hq=>by
  unfold tailOps at h
  cases hw:Region.wanted o (yielded ops a.tmps) with
  | true =>
   rw [hw] at h
   dsimp only at h
   cases hv:pureVal a o.op with
   | none=>rw [hv] at h;cases h
   | some v =>
    rw [hv] at h
    refine wpList_step fun K hK=>?_
    rw [if_pos hw]
    exact pure_wp hv (hK _ _ (tail_wp r _ a' h hq))
  | false =>
   rw [hw] at h
   exact wpList_skip hw (tail_wp r _ a' h hq)
theorem tail_at {l:List Oper} (i:Nat) (v:Value) (h:(tailOps ops l a).map (fun a'=>(a'.tmps.getD i undef,a'.defers))=some (v,[])) (hQ:∀ tmps:Array Value,tmps.getD i undef=v→Q .normal ⟨tmps,[]⟩ w):wpList P ops Q l a w:=by
 cases ht:tailOps ops l a with
 | none=>rw [ht] at h;cases h
 | some a' =>
  rw [ht] at h
  obtain ⟨t,d⟩:=a'
  simp only [Option.map_some,Option.some.injEq,Prod.mk.injEq] at h
  obtain ⟨h1,rfl⟩:=h
  exact tail_wp l a _ ht (hQ t h1)
theorem guard_split {o:Oper} {r:List Oper} {g:Nat} {pol b:Bool} (_:o.guard=some (g,pol)) (_:yielded ops a.tmps g=some b)
  (h1:b=true→wpList P ops Q (o::r) a w) (h0:b=false→wpList P ops Q (o::r) a w):wpList P ops Q (o::r) a w:=by
 cases b
 ·exact h0 rfl
 ·exact h1 rfl
end
end Go.Proofs.YtekcjfdllclphaaGreatDoor.gn
end
section
namespace Go.Proofs.YtekcjfdllclphaaGreatDoor.sp
open Go.Proofs.YtekcjfdllclphaaGreatDoor.un
open Go.Proofs.YtekcjfdllclphaaGreatDoor.di
def cuts (c:UInt8):Tx→List Tx
 | []=>[[]]
 | b::r=>if b=c then []::cuts c r else match cuts c r with
  | h::t=>(b::h)::t
  | []=>[[b]]
theorem cuts_bl (c:UInt8) (r:Tx):cuts c (c::r)=[]::cuts c r:=by rw [cuts,if_pos rfl]
theorem cuts_nb {c b:UInt8} (h:b≠c) (r:Tx):cuts c (b::r)=match cuts c r with
  | h::t=>(b::h)::t
  | []=>[[b]]:=by rw [cuts,if_neg h]
theorem cuts_ne (c:UInt8):∀ l:Tx,cuts c l≠[]
 | []=>by simp [cuts]
 | b::r=>by
  unfold cuts
  split
  ·simp
  ·split <;> simp
def joinC (c:UInt8):List Tx→Tx
 | []=>[]
 | [a]=>a
 | a::b::r=>a++c::joinC c (b::r)
theorem joinC_cons (c:UInt8) (a:Tx) {L:List Tx} (h:L≠[]):joinC c (a::L)=a++c::joinC c L:=by
 cases L with
 | nil=>exact absurd rfl h
 | cons b r=>rfl
theorem join_cuts (c:UInt8):∀ l:Tx,joinC c (cuts c l)=l
 | []=>rfl
 | b::r=>by
  have ih:=join_cuts c r
  unfold cuts
  by_cases hb:b=c
  ·rw [if_pos hb,joinC_cons c [] (cuts_ne c r),ih,hb]
   rfl
  ·rw [if_neg hb]
   cases hw:cuts c r with
   | nil=>exact absurd hw (cuts_ne c r)
   | cons h t =>
    rw [hw] at ih
    dsimp only
    cases t with
    | nil=>rw [←ih];rfl
    | cons d t =>
     rw [←ih]
     rfl
theorem cuts_clean (c:UInt8):∀ (l:Tx) (w:Tx),w∈cuts c l→c ∉ w
 | [],w,h=>by
  simp [cuts] at h
  subst h
  simp
 | b::r,w,h=>by
  have ih:=cuts_clean c r
  unfold cuts at h
  by_cases hb:b=c
  ·rw [if_pos hb] at h
   rcases List.mem_cons.1 h with rfl | h
   ·simp
   ·exact ih w h
  ·rw [if_neg hb] at h
   cases hw:cuts c r with
   | nil=>exact absurd hw (cuts_ne c r)
   | cons x t =>
    rw [hw] at h ih
    dsimp only at h
    rcases List.mem_cons.1 h with rfl | h
    ·have:=ih x (by simp)
     simp only [List.mem_cons,not_or]
     exact ⟨fun e=>hb e.symm,this⟩
    ·exact ih w (by simp [h])
theorem cuts_app (c:UInt8):∀ (a:Tx) (r:Tx),c ∉ a→cuts c (a++c::r)=a::cuts c r
 | [],r,_=>cuts_bl c r
 | b::a,r,h=>by
  simp only [List.mem_cons,not_or] at h
  have ih:=cuts_app c a r h.2
  show cuts c (b::(a++c::r))=_
  rw [cuts_nb (fun e=>h.1 e.symm),ih]
theorem cuts_one (c:UInt8):∀ (a:Tx),c ∉ a→cuts c a=[a]
 | [],_=>rfl
 | b::a,h=>by
  simp only [List.mem_cons,not_or] at h
  rw [cuts_nb (fun e=>h.1 e.symm),cuts_one c a h.2]
theorem cuts_join (c:UInt8):∀ (L:List Tx),L≠[]→(∀ w∈L,c ∉ w)→cuts c (joinC c L)=L
 | [],h,_=>absurd rfl h
 | [a],_,h=>cuts_one c a (h a (by simp))
 | a::b::r,_,h=>by
  rw [joinC_cons c a (by simp),cuts_app c a _ (h a (by simp)),cuts_join c (b::r) (by simp) (fun w hw=>h w (by simp [hw]))]
theorem joinC_snoc (c:UInt8):∀ (L:List Tx) (x:Tx),L≠[]→joinC c (L++[x])=joinC c L++c::x
 | [],_,h=>absurd rfl h
 | [a],x,_=>rfl
 | a::b::r,x,_=>by
  rw [List.cons_append,joinC_cons c a (by simp),joinC_snoc c (b::r) x (by simp),joinC_cons c a (by simp),List.append_assoc]
  rfl
theorem joinC_len (c:UInt8):∀ (L:List Tx) (m:Nat),(∀ w∈L,w.length≤m)→(joinC c L).length≤L.length * (m+1)
 | [],m,_=>by simp [joinC]
 | [a],m,h=>by
  have:=h a (by simp)
  simp [joinC]
  omega
 | a::b::r,m,h=>by
  have h1:=h a (by simp)
  have h2:=joinC_len c (b::r) m fun w hw=>h w (by simp [hw])
  rw [joinC_cons c a (by simp),List.length_append,List.length_cons,List.length_cons (a:=a),Nat.add_mul]
  omega
def cutB (c:UInt8):Tx→Option (Tx × Tx)
 | []=>none
 | b::r=>if b=c then some ([],r) else (cutB c r).map fun p=>(b::p.1,p.2)
theorem cut_B:∀ l:Tx,cut l=cutB 61 l
 | []=>rfl
 | b::r=>by
  unfold cut cutB
  rw [cut_B r]
theorem cutB_at (c:UInt8):∀ (k v:Tx),c ∉ k→cutB c (k++c::v)=some (k,v)
 | [],v,_=>by
  show cutB c (c::v)=_
  unfold cutB
  rw [if_pos rfl]
 | b::k,v,h=>by
  simp only [List.mem_cons,not_or] at h
  show cutB c (b::(k++c::v))=_
  unfold cutB
  rw [if_neg (fun e=>h.1 e.symm),cutB_at c k v h.2]
  rfl
structure Slip where
 user:Tx
 nodes:Int
 wall:Int
 qos:Int
 after:List (Int × Bool)
 cap:Int
 inn:Int
 out:Int
 pool:Tx
 make:List Dir
 drop:List Tx
 use:List Tx
deriving DecidableEq
def Slip.zero:Slip:=⟨[],0,0,0,[],0,0,0,[],[],[],[]⟩
def jobW:Tx:=[106,111,98]
def userK:Tx:=[117,115,101,114]
def nodesK:Tx:=[110,111,100,101,115]
def wallK:Tx:=[119,97,108,108]
def qosK:Tx:=[113,111,115]
def afterK:Tx:=[97,102,116,101,114]
def okW:Tx:=[111,107]
def anyW:Tx:=[97,110,121]
def within? (s:Tx) (a b:Nat):Option Nat:=match num? s with
 | some n=>if a≤n∧n≤b then some n else none
 | none=>none
def dep? (p:Tx):Option (Int × Bool):=match cutB 58 p with
 | some f=>match within? f.2 1 1073741824 with
  | some n=>if f.1=okW∨f.1=anyW then some ((n:Int),decide (f.1=anyW)) else none
  | none=>none
 | none=>none
def fput (x:Slip) (f:Fl):Option Slip :=
 if f.1=userK then some { x with user:=f.2 }
 else if f.1=nodesK then (within? f.2 1 64).map fun n=>{ x with nodes:=(n:Int) }
 else if f.1=wallK then (within? f.2 1 1048576).map fun n=>{ x with wall:=(n:Int) }
 else if f.1=qosK then (within? f.2 0 9).map fun n=>{ x with qos:=(n:Int) }
 else if f.1=afterK then ((cuts 44 f.2).mapM dep?).map fun l=>{ x with after:=l }
 else none
def frun:Slip × List Tx→List Tx→Option (Slip × List Tx)
 | s,[]=>some s
 | s,w::ws=>match cut w with
  | none=>none
  | some f=>if f.1∈s.2 then none else match fput s.1 f with
   | none=>none
   | some x=>frun (x,s.2++[f.1]) ws
def first? (l:Tx):Option Slip:=match cuts 32 l with
 | j::ws=>if j=jobW then match frun (Slip.zero,[]) ws with
  | some s=>if userK∈s.2∧nodesK∈s.2∧wallK∈s.2 then some s.1 else none
  | none=>none
  else none
 | []=>none
def isD (l:Tx):Bool:=decide (l=bbW) || ([35,66,66,32]:Tx).isPrefixOf l
def put (x:Slip) (d:Dir):Slip :=
 if d.kind=1 then { x with cap:=d.size,pool:=d.pool }
 else if d.kind=2 then { x with inn:=d.size }
 else if d.kind=3 then { x with out:=d.size }
 else if d.kind=4 then { x with make:=x.make++[d] }
 else if d.kind=5 then { x with drop:=x.drop++[d.name] }
 else if d.kind=6 then { x with use:=x.use++[d.name] }
 else x
def lrun:Slip × List Nat→Nat→List Tx→Except (Int × Nat) (Slip × List Nat)
 | s,_,[]=>.ok s
 | s,i,l::r=>if isD l=true then
   if lerr l≠0 then .error (lerr l,i)
   else if (ldir l).kind≤3∧(ldir l).kind∈s.2 then .error (150,i)
   else lrun (put s.1 (ldir l),(ldir l).kind::s.2) (i+1) r
  else lrun s (i+1) r
def nameL (l:List Tx):Prop:=l.length≤4∧l.Nodup∧∀ n∈l,isName n=true
instance (l:List Tx):Decidable (nameL l):=by unfold nameL;infer_instance
def chkS (x:Slip):Bool:=decide (isName x.user=true∧(1≤x.nodes∧x.nodes≤64)∧(1≤x.wall∧x.wall≤1048576)∧(0≤x.qos∧x.qos≤9)
 ∧ (x.after.length≤8∧(x.after.map (·.1)).Nodup∧∀ d∈x.after,1≤d.1∧d.1≤1073741824)
 ∧ (0≤x.cap∧x.cap≤1099511627776)∧(x.cap=0→x.pool=[])∧(x.cap≠0→isName x.pool=true)
 ∧ (0≤x.inn∧x.inn≤x.cap)∧(0≤x.out∧x.out≤x.cap)
 ∧ (∀ d∈x.make,d.kind=4∧chk d=true)∧nameL (x.make.map (·.name))∧nameL x.drop∧nameL x.use∧∀ d∈x.make,d.name ∉ x.use)
def sread (s:Tx):Slip × Int × Nat:=if 10000 < s.length then (Slip.zero,3,0) else match cuts 10 s with
 | []=>(Slip.zero,150,1)
 | l::r=>match first? l with
  | none=>(Slip.zero,150,1)
  | some x=>match lrun (x,[]) 2 r with
   | .error e=>(Slip.zero,e.1,e.2)
   | .ok st=>if chkS st.1=true then (st.1,0,0) else (Slip.zero,150,r.length+1)
def depT (d:Int × Bool):Tx:=(if d.2=true then anyW else okW)++58::txt d.1
def fsS (x:Slip):List Fl:=[(userK,x.user),(nodesK,txt x.nodes),(wallK,txt x.wall)]++(if 0 < x.qos then [(qosK,txt x.qos)] else [])++(if x.after=[] then [] else [(afterK,joinC 44 (x.after.map depT))])
def line1 (x:Slip):Tx:=joinC 32 (jobW::(fsS x).map wtx)
def dirsS (x:Slip):List Dir:=(if 0 < x.cap then [⟨1,[],x.pool,x.cap,false⟩] else [])++(if 0 < x.inn then [⟨2,[],[],x.inn,false⟩] else [])++(if 0 < x.out then [⟨3,[],[],x.out,false⟩] else [])
 ++ x.make++x.drop.map (fun n=>⟨5,n,[],0,false⟩)++x.use.map (fun n=>⟨6,n,[],0,false⟩)
def txtS (x:Slip):Tx:=joinC 10 (line1 x::(dirsS x).map dtx)
end Go.Proofs.YtekcjfdllclphaaGreatDoor.sp
end
section
set_option maxRecDepth 100000
namespace Go.Proofs.YtekcjfdllclphaaGreatDoor.gn
open Go.RowKit
theorem grown_new {w w':World} (h:Below w.heap.size w w'):w.grownBy w' none:=⟨h.os,h.tape,h.output,h.size,fun k hk _=>h.block k hk⟩
def CellsC (w:World) (b off:Nat) (cs:List Value):Prop:=∀ j u,cs[j]?=some u→w.cell? ⟨b,off+j,none⟩=some u
def RdC (w:World) (v:Value) (n:Nat) (cs:List Value):Prop :=
 (∃ p c,v=.slice p 0 c∧n=0∧cs=[]∧(p=none→c=0))∨∃ b off c,v=.slice (some ⟨b,off,none⟩) n c∧b < w.heap.size∧CellsC w b off cs
theorem CellsC.below {w w':World} {b off:Nat} {cs:List Value} (h:CellsC w b off cs) {B:Nat} (hb:Below B w w') (hB:b < B):CellsC w' b off cs:=fun j u hu=>(hb.cell (p:=⟨b,off+j,none⟩) hB).trans (h j u hu)
theorem RdC.next {w w':World} {v:Value} {n:Nat} {cs:List Value} (h:RdC w v n cs) (hb:Below w.heap.size w w'):RdC w' v n cs:=by
 rcases h with h | ⟨b,off,c,e,hlt,hc⟩
 ·exact .inl h
 ·exact .inr ⟨b,off,c,e,Nat.lt_of_lt_of_le hlt hb.size,hc.below hb hlt⟩
theorem RdC.form {w:World} {v:Value} {n:Nat} {cs:List Value} (h:RdC w v n cs):∃ p c,v=.slice p n c:=by
 rcases h with ⟨p,c,rfl,rfl,_⟩ | ⟨b,off,c,rfl,_⟩
 ·exact ⟨_,_,rfl⟩
 ·exact ⟨_,_,rfl⟩
structure EltI (t e:TypeId) (z:Value) (size bytes:Nat):Prop where
 und:Tryz.prog.underlying t=some (.slice e)
 inf:∃ i,Tryz.prog.info? e=some i∧i.zero=some z∧i.size=size∧i.bytes=bytes
 zs:z.cells.size=size
 sz:0 < size
def ApC (base:Nat) (e:TypeId) (size:Nat) (w:World) (v:Value) (n:Nat) (cs:List Value):Prop :=
 (∃ p,v=.slice p 0 0∧n=0∧cs=[])∨w.ownsRow base e size v n cs
theorem ApC.form {base:Nat} {e:TypeId} {size:Nat} {w:World} {v:Value} {n:Nat} {cs:List Value} (h:ApC base e size w v n cs):∃ p c,v=.slice p n c∧n≤c:=by
 rcases h with ⟨p,rfl,rfl,_⟩ | ⟨_,⟨rfl,rfl⟩ | ⟨g,cap,cur,rfl,_,_,h,_⟩⟩
 ·exact ⟨_,_,rfl,Nat.le_refl _⟩
 ·exact ⟨_,_,rfl,Nat.le_refl _⟩
 ·exact ⟨_,_,rfl,h⟩
theorem ApC.rdc {base:Nat} {e:TypeId} {size:Nat} {w:World} {v:Value} {n:Nat} {cs:List Value} (h:ApC base e size w v n cs):RdC w v n cs:=by
 rcases h with ⟨p,rfl,rfl,rfl⟩ | h
 ·exact .inl ⟨p,0,rfl,rfl,rfl,fun _=>rfl⟩
 ·have hc:=fun g=>World.ownsRow.cells h (g:=g)
  obtain ⟨h1,⟨rfl,rfl⟩ | ⟨g,cap,cur,rfl,hb,hg,_⟩⟩:=h
  ·exact .inl ⟨none,0,rfl,rfl,List.eq_nil_of_length_eq_zero (by simpa using h1),fun _=>rfl⟩
  ·refine .inr ⟨g,0,cap,rfl,(Array.getElem?_eq_some_iff.1 hg).1,fun j u hu=>?_⟩
   have:=hc g rfl j u hu
   rwa [Addr.add_lit] at this
theorem ApC.next {base:Nat} {e:TypeId} {size:Nat} {w w':World} {v:Value} {n:Nat} {cs:List Value} (h:ApC base e size w v n cs) (hb:Below w.heap.size w w'):ApC base e size w' v n cs:=by
 rcases h with h | h
 ·exact .inl h
 ·exact .inr (World.ownsRow.kept h (grown_new hb) (by cases hv:v.ownBlock <;> simp))
theorem src_none {t e:TypeId} {size:Nat} (ht:Tryz.prog.underlying t=some (.slice e)) (p:Option Addr) (c:Nat) (w:World):Src Tryz.prog size t (.slice p 0 c) 0 [] w:=by
 cases p with
 | none=>exact Src.ofNil w ht c
 | some a=>exact Src.ofSlice w ht a 0 c [] (by simp) (fun j u hu=>by cases hu) (fun u hu=>by cases hu)
theorem run_ap_none {t e:TypeId} {z:Value} {size bytes:Nat} (E:EltI t e z size bytes) (ty:TypeId) (w:World) (p p':Option Addr) (n c c':Nat) (hle:n≤c) :
  (Builtin.append_ #[t,t] ty #[.slice p n c,.slice p' 0 c']).run Tryz.prog w=.ok (.slice p n c) w:=by
 obtain ⟨i,hi,_,h2,_⟩:=E.inf
 have hs:=src_none (size:=i.size) E.und p' c' w
 cases p <;> simp [Builtin.append_,run_underlying E.und,sizeOf,typeInfo,hi,hs.len,hle,hs.cells,storeCells]
theorem run_ap {t e:TypeId} {z:Value} {size bytes:Nat} (E:EltI t e z size bytes) (ty:TypeId) {base:Nat} {w:World} {v u:Value} {n m:Nat} {cs ds:List Value} (ha:ApC base e size w v n cs) (hr:RdC w u m ds) (hd:ds.length=m * size)
  (h1:∀ u∈ds,u.oneCell'=true) (h63:n+m≤maxLen) (hby:(n+m) * bytes≤140737488355328) (hb:base≤w.heap.size) :
  ∃ v' w',(Builtin.append_ #[t,t] ty #[v,u]).run Tryz.prog w=.ok v' w'∧ApC base e size w' v' (n+m) (cs++ds)∧Below base w w':=by
 rcases hr with ⟨p',c',rfl,rfl,rfl,hz⟩ | ⟨b,off,c,rfl,hbl,hc⟩
 ·obtain ⟨p,c,rfl,hle⟩:=ha.form
  exact ⟨_,w,run_ap_none E ty w p p' n c c' hle,by rw [List.append_nil];exact ha,Below.refl _ _⟩
 ·obtain ⟨i,hi,hi1,hi2,hi3⟩:=E.inf
  have hcells:∀ j u,ds[j]?=some u→w.cell? ((⟨b,off,none⟩:Addr).add j)=some u:=fun j u hu=>by rw [Addr.add_lit];exact hc j u hu
  rcases ha with ⟨p,rfl,rfl,rfl⟩ | ha
  ·rcases Nat.eq_zero_or_pos m with rfl | hm
   ·obtain rfl:ds=[]:=List.eq_nil_of_length_eq_zero (by simpa using hd)
    exact ⟨_,w,run_ap_none E ty w p _ 0 0 c (Nat.le_refl _),.inl ⟨p,rfl,rfl,rfl⟩,Below.refl _ _⟩
   ·have hs:Src Tryz.prog i.size t (.slice (some ⟨b,off,none⟩) m c) m ds w:=Src.ofSlice w E.und _ m c ds (by rw [hi2];exact hd) hcells h1
    have hold:=(src_none (size:=i.size) E.und p 0 w).cellsD
    have hr:=run_append_grow_src (P:=Tryz.prog) w t t ty e i z E.und hi hi1 p 0 0 [] hold _ m ds hs (by omega) (by simp only [maxLen] at h63;omega) (growslice_fits (by omega) (by rw [hi3];exact hby))
    have hge:=grownCap_ge w (0+m) 0 e
    have hcm:grownCap w (0+m) 0 e≤maxLen:=grownCap_le_maxLen w (0+m) 0 e h63
    refine ⟨_,_,hr,.inr ⟨by rw [List.nil_append,hd,Nat.zero_add],.inr ⟨w.heap.size,_,_,rfl,hb,heap_alloc_new w.drew _,hge,hcm,?_,?_⟩⟩,((Below.refl _ w).drew).alloc hb _⟩
    ·simp only [Array.size_append,List.size_toArray,size_zeroCells,E.zs,List.nil_append,hd,← Nat.add_mul]
     congr 1
     omega
    ·simp only [Array.toList_append,List.nil_append]
     rw [show (0+m) * size=ds.length by rw [hd,Nat.zero_add]]
     exact List.take_left
  ·obtain ⟨v',w',hrun,h2,h3,_⟩:=run_append_own (P:=Tryz.prog) w base t ty e i z size bytes E.und hi hi1 hi2 hi3 E.zs E.sz v n cs ha ⟨b,off,none⟩ m c ds hd hcells h1 h63 hby hb
   exact ⟨v',w',hrun,.inr h2,(Below.refl _ w).grown h3 hb fun k hk=>(World.ownsRow.lt ha k hk).1⟩
theorem wpl_ap {t e:TypeId} {z:Value} {size bytes:Nat} (E:EltI t e z size bytes) {w:World} {ops:Array Oper} {rest:List Oper} {o:Oper} {a:Act} {Q:Exit→Act→World→Prop} (hgd:o.guard=none) (s x:Operand)
  (ho:o.op=.call { callee:=.builtin .append,args:=#[s,x],argTypes:=#[t,t] })
  {base:Nat} {v u:Value} {n m:Nat} {cs ds:List Value} (hs:a.eval s=v) (ha:ApC base e size w v n cs) (hx:a.eval x=u) (hr:RdC w u m ds) (hd:ds.length=m * size)
  (h1:∀ u∈ds,u.oneCell'=true) (h63:n+m≤maxLen) (hby:(n+m) * bytes≤140737488355328) (hb:base≤w.heap.size)
  (h:∀ p c w',ApC base e size w' (.slice p (n+m) c) (n+m) (cs++ds)→n+m≤c→Below base w w'→wpList Tryz.prog ops Q rest (a.put o.dst (.slice p (n+m) c)) w') :
  wpList Tryz.prog ops Q (o::rest) a w:=by
 refine wpList_plain hgd fun K hK=>?_
 obtain ⟨v',w',hrun,h2,h3⟩:=run_ap E o.type ha hr hd h1 h63 hby hb
 obtain ⟨p,c,rfl,hle⟩:=h2.form
 unfold Oper.wp
 simp [execOp,ho,resolve,invoke,builtin,hs,hx,hrun,Result.andThen]
 exact hK _ _ (h p c w' h2 hle h3)
theorem run_own {t e:TypeId} {z:Value} {size bytes:Nat} (E:EltI t e z size bytes) (ty:TypeId) {base:Nat} {w:World} {v:Value} {n m c:Nat} {a:Addr} {cs ds:List Value} (ha:w.ownsRow base e size v n cs) (hr:∀ j u,ds[j]?=some u→w.cell? (a.add j)=some u) (hd:ds.length=m * size)
  (h1:∀ u∈ds,u.oneCell'=true) (h63:n+m≤maxLen) (hby:(n+m) * bytes≤140737488355328) (hb:base≤w.heap.size) (hm:0 < m) :
  ∃ v' w',(Builtin.append_ #[t,t] ty #[v,.slice (some a) m c]).run Tryz.prog w=.ok v' w'∧w'.ownsRow base e size v' (n+m) (cs++ds)∧w.grownBy w' v.ownBlock∧(v'.ownBlock=v.ownBlock∨v'.ownBlock=some w.heap.size):=by
 obtain ⟨i,hi,hi1,hi2,hi3⟩:=E.inf
 obtain ⟨v',w',hrun,h2,h3,h4⟩:=run_append_own (P:=Tryz.prog) w base t ty e i z size bytes E.und hi hi1 hi2 hi3 E.zs E.sz v n cs ha a m c ds hd hr h1 h63 hby hb
 refine ⟨v',w',hrun,h2,h3,?_⟩
 have hsmall:n+m≤9223372036854775807:=by simp only [maxLen] at h63;omega
 subst hi2
 subst hi3
 rcases ha with ⟨hlen,⟨rfl,rfl⟩ | ⟨g,cap,cur,rfl,hbg,hg,hnc,hcm,hcs,htake⟩⟩
 ·have hr2:=run_append_nil (P:=Tryz.prog) w t ty e i z E.und hi hi1 a m c ds hd hr (by omega) (by omega) (by simp only [Nat.zero_add] at hby;omega)
  have:=hrun.symm.trans hr2
  simp only [Result.ok.injEq] at this
  rw [this.1]
  exact .inr rfl
 ·by_cases hroom:n+m≤cap
  ·have hfit:n * i.size+ds.length≤cur.size:=by rw [hd,hcs,← Nat.add_mul];exact Nat.mul_le_mul_right _ hroom
   have hr2:=run_append_room (P:=Tryz.prog) w t ty e i E.und hi g n cap cur hg a m c ds hd hr h1 hroom hfit
   have:=hrun.symm.trans hr2
   simp only [Result.ok.injEq] at this
   rw [this.1]
   exact .inl rfl
  ·have holds:∀ j u,cs[j]?=some u→w.cell? ((⟨g,0,none⟩:Addr).add j)=some u:=World.ownsRow.cells (w:=w) (base:=base) (e:=e) (size:=i.size) (n:=n) (v:=.slice (some ⟨g,0,none⟩) n cap) ⟨hlen,.inr ⟨g,cap,cur,rfl,hbg,hg,hnc,hcm,hcs,htake⟩⟩ (g:=g) rfl
   have hr2:=run_append_grow (P:=Tryz.prog) w t ty e i z E.und hi hi1 ⟨g,0,none⟩ n cap cs hlen holds a m c ds hd hr (by omega) (by omega) (growslice_fits (by omega) hby)
   have:=hrun.symm.trans hr2
   simp only [Result.ok.injEq] at this
   rw [this.1]
   exact .inr rfl
theorem run_ow {t e:TypeId} {z:Value} {size bytes:Nat} (E:EltI t e z size bytes) (ty:TypeId) {base:Nat} {w:World} {v u:Value} {n m:Nat} {cs ds:List Value} (ha:w.ownsRow base e size v n cs) (hr:RdC w u m ds) (hd:ds.length=m * size)
  (h1:∀ u∈ds,u.oneCell'=true) (h63:n+m≤maxLen) (hby:(n+m) * bytes≤140737488355328) (hb:base≤w.heap.size) :
  ∃ v' w',(Builtin.append_ #[t,t] ty #[v,u]).run Tryz.prog w=.ok v' w'∧w'.ownsRow base e size v' (n+m) (cs++ds)∧Below base w w':=by
 rcases hr with ⟨p',c',rfl,rfl,rfl,hz⟩ | ⟨b,off,c,rfl,hbl,hc⟩
 ·have hap:ApC base e size w v n cs:=.inr ha
  obtain ⟨p,c,rfl,hle⟩:=hap.form
  exact ⟨_,w,run_ap_none E ty w p p' n c c' hle,by rw [List.append_nil];exact ha,Below.refl _ _⟩
 ·obtain ⟨i,hi,hi1,hi2,hi3⟩:=E.inf
  have hcells:∀ j u,ds[j]?=some u→w.cell? ((⟨b,off,none⟩:Addr).add j)=some u:=fun j u hu=>by rw [Addr.add_lit];exact hc j u hu
  obtain ⟨v',w',hrun,h2,h3,_⟩:=run_append_own (P:=Tryz.prog) w base t ty e i z size bytes E.und hi hi1 hi2 hi3 E.zs E.sz v n cs ha ⟨b,off,none⟩ m c ds hd hcells h1 h63 hby hb
  exact ⟨v',w',hrun,h2,(Below.refl _ w).grown h3 hb fun k hk=>(World.ownsRow.lt ha k hk).1⟩
end Go.Proofs.YtekcjfdllclphaaGreatDoor.gn
end
section
namespace Go.Proofs.YtekcjfdllclphaaGreatDoor.gn
open Go.RowKit
theorem cells5:Tryz.prog.cellsOf 5=1:=by kernel_rfl
set_option maxHeartbeats 4000000 in
set_option maxRecDepth 100000 in
theorem liteClone_any (s:ByteArray) (w:World) (hlim:s.size≤281474976710656) :
  Calls Tryz.prog 139 #[.string s] w fun e w'=>e=.returned (.string s)∧Below w.heap.size w w':=by
 by_cases h0:s.size=0
 ·have hs:s=⟨#[]⟩:=by
   apply ByteArray.ext
   exact Array.eq_empty_of_size_eq_zero h0
  subst hs
  go_enter Tryz.func139,Tryz.ntmps139
  go_wp2
  go_ret
  exact ⟨rfl,Below.refl _ _⟩
 ·obtain ⟨i0,hi,hz0,hz1,hz2⟩:=info_parts Tryz.info5
  have hinfo:(Tryz.prog.info? 5).map (·.size)=some 1:=by rw [hi];simp [hz1]
  obtain ⟨M,hM⟩:∃ M,M=madeCells (Value.int .u8 0).cells (((s.size:Nat):Int).toNat * i0.size):=⟨_,rfl⟩
  have hMs:M.size=s.size:=by rw [hM,size_madeCells,hz1];simp
  have hmk:∀ W:World,(Instr.makeSlice 100 (.int .i64 (s.size:Int)) (.int .i64 (s.size:Int))).run Tryz.prog W=.ok (.slice (some ⟨W.heap.size,0,none⟩) s.size s.size) (W.alloc (.cells M 5)):=fun W=>by
   have h:=run_make (P:=Tryz.prog) W 100 5 i0 (.int .u8 0) Tryz.underlying100 hi hz0 .i64 .i64 (s.size:Int) (s.size:Int) (by omega) (by omega) (by rw [hz2];omega) (by omega)
   rw [←hM] at h
   simpa using h
  clear hM
  have hcp:=Lib.run_copy_row_string (P:=Tryz.prog) (w.alloc (.cells M 5)) 100 9 3 5 w.heap.size 0 s.size s.size s M 5 Tryz.underlying100 hinfo (heap_alloc_new w _) (Nat.le_refl _) (by omega)
  obtain ⟨Y,hY⟩:∃ Y,Y=(M.toList.take 0++Lib.byteCells s.data.toList++M.toList.drop (0+s.size)).toArray:=⟨_,rfl⟩
  rw [←hY] at hcp
  have hYl:Y.toList=Lib.byteCells s.data.toList:=by
   rw [hY,List.toList_toArray,List.take_zero,List.nil_append,List.drop_of_length_le (by rw [Array.length_toList];omega),List.append_nil]
  have hYs:Y.size=s.size:=by rw [←Array.length_toList,hYl,Lib.byteCells_length,← Lib.size_eq]
  have hgY:((w.alloc (.cells M 5)).setRow w.heap.size Y).heap[w.heap.size]?=some (.cells Y 5 (0,0)):=setRow_heap _ _ M _ 5 (0,0) (heap_alloc_new w _)
  have hne:s.data.toList≠[]:=fun e=>h0 (by rw [Lib.size_eq,e];rfl)
  have hUS:=Lib.run_unsafeString_row (P:=Tryz.prog) ((w.alloc (.cells M 5)).setRow w.heap.size Y) 189 3 9 5 Tryz.underlying189 cells5 w.heap.size Y.size (by unfold World.shape?;rw [hgY]) s.data.toList hne (by rw [←Lib.size_eq];omega) (by rw [←Lib.size_eq];omega)
   (fun j x hx=>Lib.cells_of_row hgY Y.size j _ (by rw [List.take_of_length_le (by rw [Array.length_toList];exact Nat.le_refl _),hYl];simp [Lib.byteCells,hx]))
  rw [←Lib.size_eq] at hUS
  clear hY
  go_enter Tryz.func139,Tryz.ntmps139
  go_wp2
  go_ret
  have hb1:Below w.heap.size w (w.alloc (.cells M 5)):=(Below.refl _ w).alloc (Nat.le_refl _) _
  have hb2:Below w.heap.size (w.alloc (.cells M 5)) ((w.alloc (.cells M 5)).setRow w.heap.size Y):=⟨rfl,rfl,rfl,by simp,fun k hk=>setRow_other _ _ _ _ (by omega)⟩
  exact ⟨rfl,Lib.below_freeze (hb1.trans hb2) (p:=⟨w.heap.size,0,none⟩) (Nat.le_refl _) _⟩
set_option maxHeartbeats 400000 in
theorem clone_any (s:ByteArray) (w:World) (hlim:s.size≤281474976710656) :
  Calls Tryz.prog 117 #[.string s] w fun e w'=>e=.returned (.string s)∧Below w.heap.size w w':=by
 go_enter Tryz.func117,Tryz.ntmps117
 go_wp2_with (go_at_call 139;refine (liteClone_any s _ hlim).mono ?_;rintro e w1 ⟨rfl,hb⟩)
 go_ret
 exact ⟨rfl,hb⟩
end Go.Proofs.YtekcjfdllclphaaGreatDoor.gn
end
