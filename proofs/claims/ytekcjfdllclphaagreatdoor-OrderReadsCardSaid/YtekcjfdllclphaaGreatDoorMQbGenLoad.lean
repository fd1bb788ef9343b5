/- For any seat: a whole row loaded under a guard that holds. -/
import Derived.Test.YtekcjfdllclphaaGreatDoorMQbGenTail
import Derived.Laws.Rows
import Derived.Test.YtekcjfdllclphaaGreatDoorMQbSlP
import Derived.Test.YtekcjfdllclphaaGreatDoorMQbDiX
import Derived.Test.YtekcjfdllclphaaGreatDoorMQbGen
import Derived.SliceStrings
import Derived.Lib.SmallJoins
import Derived.ChangeSlices
set_option linter.unusedVariables false
set_option linter.unusedSimpArgs false
section
namespace Go.Proofs.YtekcjfdllclphaaGreatDoor.gn
theorem wpl_load_g {P:Program} {ops:Array Oper} {rest:List Oper} {o:Oper} {a:Act} {w:World} {Q:Exit→Act→World→Prop} (hgw:Region.wanted o (yielded ops a.tmps)=true) (ty:TypeId) (x:Operand) (ho:o.op=.load ty x)
  (g:Nat) (hx:a.eval x=.pointer (some ⟨g,0,none⟩)) (t:TypeId) (cs:Array Value) (fr:Nat × Nat) (d:TypeDesc) (hg:w.heap[g]?=some (.cells cs t fr))
  (hu:P.underlying ty=some d) (hd:(match d with | .struct _ | .array _ _=>true | _=>false)=true) (hi:(P.info? ty).map (·.size)=some cs.size)
  (h:wpList P ops Q rest (a.put o.dst (.agg cs)) w):wpList P ops Q (o::rest) a w:=by
 refine wpList_step fun K hK=>?_
 rw [if_pos hgw]
 exact wp_load_row ty x ho g hx t cs fr d hg hu hd hi (hK _ _ h)
end Go.Proofs.YtekcjfdllclphaaGreatDoor.gn
end
section
namespace Go.Proofs.YtekcjfdllclphaaGreatDoor.sp
open Go.Proofs.YtekcjfdllclphaaGreatDoor.un
open Go.Proofs.YtekcjfdllclphaaGreatDoor.di
theorem chk_not {x:Slip} (h:¬ Ok x):chkS x=false:=by
 cases hc:chkS x with
 | false=>rfl
 | true=>exact absurd ((chkS_iff x).1 hc) h
end Go.Proofs.YtekcjfdllclphaaGreatDoor.sp
end
section
namespace Go.Proofs.YtekcjfdllclphaaGreatDoor.sp
open Go.Proofs.YtekcjfdllclphaaGreatDoor.un
open Go.Proofs.YtekcjfdllclphaaGreatDoor.di
def dropD (n:Tx):Dir:=⟨5,n,[],0,false⟩
def useD (n:Tx):Dir:=⟨6,n,[],0,false⟩
def capD (x:Slip):List Dir:=if x.cap≠0∨x.pool≠[] then [⟨1,[],x.pool,x.cap,false⟩] else []
def innD (x:Slip):List Dir:=if x.inn≠0 then [⟨2,[],[],x.inn,false⟩] else []
def outD (x:Slip):List Dir:=if x.out≠0 then [⟨3,[],[],x.out,false⟩] else []
def dirsP (x:Slip):List Dir:=capD x++innD x++outD x++x.make++x.drop.map dropD++x.use.map useD
def shortP (x:Slip):Bool:=decide (x.after.length≤8∧x.make.length≤4∧x.drop.length≤4∧x.use.length≤4)
def soundP (x:Slip):Bool:=isName x.user && decide ((1≤x.nodes∧x.nodes≤64)∧(1≤x.wall∧x.wall≤1048576)∧(0≤x.qos∧x.qos≤9))
def waitsP (l:List (Int × Bool)):Bool:=decide ((∀ d∈l,1≤d.1∧d.1≤1073741824)∧(l.map (·.1)).Nodup)
def storedP (x:Slip):Bool:=decide ((∀ d∈dirsP x,chk d=true)∧x.inn≤x.cap∧x.out≤x.cap)
def apartP (x:Slip):Bool:=decide ((∀ d∈x.make,d.kind=4)∧(x.make.map (·.name)++x.use).Nodup∧x.drop.Nodup)
theorem chk_cap (p:Tx) (n:Int):chk ⟨1,[],p,n,false⟩=true↔0 < n∧n≤1099511627776∧isName p=true:=by
 rw [chk_iff]
 have h0:isName []=false:=rfl
 simp only [hasSize,hasName,hasPool,h0]
 simp
 omega
theorem chk_in (n:Int):chk ⟨2,[],[],n,false⟩=true↔0 < n∧n≤1099511627776:=by
 rw [chk_iff]
 have h0:isName []=false:=rfl
 simp only [hasSize,hasName,hasPool,h0]
 simp
 omega
theorem chk_out (n:Int):chk ⟨3,[],[],n,false⟩=true↔0 < n∧n≤1099511627776:=by
 rw [chk_iff]
 have h0:isName []=false:=rfl
 simp only [hasSize,hasName,hasPool,h0]
 simp
 omega
theorem chk_drop (n:Tx):chk (dropD n)=true↔isName n=true:=by
 rw [chk_iff]
 have h0:isName []=false:=rfl
 simp [dropD,hasSize,hasName,hasPool,h0]
theorem chk_use (n:Tx):chk (useD n)=true↔isName n=true:=by
 rw [chk_iff]
 have h0:isName []=false:=rfl
 simp [useD,hasSize,hasName,hasPool,h0]
theorem capD_all (x:Slip):(∀ d∈capD x,chk d=true)↔(x.cap=0∧x.pool=[])∨(0 < x.cap∧x.cap≤1099511627776∧isName x.pool=true):=by
 unfold capD
 by_cases h:x.cap≠0∨x.pool≠[]
 ·rw [if_pos h]
  simp only [List.mem_singleton,forall_eq]
  rw [chk_cap]
  constructor
  ·exact .inr
  ·rintro (⟨a,b⟩ | h2)
   ·rcases h with h | h
    ·exact absurd a h
    ·exact absurd b h
   ·exact h2
 ·rw [if_neg h]
  simp only [not_or,Decidable.not_not] at h
  simp [h]
theorem innD_all (x:Slip):(∀ d∈innD x,chk d=true)↔x.inn=0∨(0 < x.inn∧x.inn≤1099511627776):=by
 unfold innD
 by_cases h:x.inn≠0
 ·rw [if_pos h]
  simp only [List.mem_singleton,forall_eq]
  rw [chk_in]
  omega
 ·rw [if_neg h]
  simp only [Decidable.not_not] at h
  simp [h]
theorem outD_all (x:Slip):(∀ d∈outD x,chk d=true)↔x.out=0∨(0 < x.out∧x.out≤1099511627776):=by
 unfold outD
 by_cases h:x.out≠0
 ·rw [if_pos h]
  simp only [List.mem_singleton,forall_eq]
  rw [chk_out]
  omega
 ·rw [if_neg h]
  simp only [Decidable.not_not] at h
  simp [h]
theorem dirsP_all (x:Slip):(∀ d∈dirsP x,chk d=true)↔((x.cap=0∧x.pool=[])∨(0 < x.cap∧x.cap≤1099511627776∧isName x.pool=true))∧(x.inn=0∨(0 < x.inn∧x.inn≤1099511627776))∧(x.out=0∨(0 < x.out∧x.out≤1099511627776)) ∧
  (∀ d∈x.make,chk d=true)∧(∀ n∈x.drop,isName n=true)∧∀ n∈x.use,isName n=true:=by
 rw [←capD_all,← innD_all,← outD_all]
 unfold dirsP
 constructor
 ·intro h
  refine ⟨fun d hd=>h d (by simp [hd]),fun d hd=>h d (by simp [hd]),fun d hd=>h d (by simp [hd]),fun d hd=>h d (by simp [hd]),fun n hn=>(chk_drop n).1 (h _ ?_),fun n hn=>(chk_use n).1 (h _ ?_)⟩
  ·simp only [List.mem_append,List.mem_map]
   exact .inl (.inr ⟨n,hn,rfl⟩)
  ·simp only [List.mem_append,List.mem_map]
   exact .inr ⟨n,hn,rfl⟩
 ·rintro ⟨h1,h2,h3,h4,h5,h6⟩ d hd
  simp only [List.mem_append,List.mem_map] at hd
  rcases hd with ((((hd | hd) | hd) | hd) | ⟨n,hn,rfl⟩) | ⟨n,hn,rfl⟩
  ·exact h1 d hd
  ·exact h2 d hd
  ·exact h3 d hd
  ·exact h4 d hd
  ·exact (chk_drop n).2 (h5 n hn)
  ·exact (chk_use n).2 (h6 n hn)
theorem apart_iff (x:Slip):(x.make.map (·.name)++x.use).Nodup↔(x.make.map (·.name)).Nodup∧x.use.Nodup∧∀ d∈x.make,d.name ∉ x.use:=by
 rw [List.nodup_append]
 constructor
 ·rintro ⟨a,b,c⟩
  exact ⟨a,b,fun d hd hu=>c d.name (List.mem_map.2 ⟨d,hd,rfl⟩) d.name hu rfl⟩
 ·rintro ⟨a,b,c⟩
  refine ⟨a,b,fun n hn m hm e=>?_⟩
  obtain ⟨d,hd,rfl⟩:=List.mem_map.1 hn
  exact c d hd (e ▸ hm)
theorem name_mk {d:Dir} (h:chk d=true) (hk:d.kind=4):isName d.name=true:=((chk_iff d).1 h).2.2.2.1.1 (by rw [hk];rfl)
theorem chkS_P (x:Slip):chkS x=(shortP x && soundP x && waitsP x.after && storedP x && apartP x):=by
 rw [Bool.eq_iff_iff,chkS_iff]
 simp only [shortP,soundP,waitsP,storedP,apartP,Bool.and_eq_true,decide_eq_true_eq]
 rw [dirsP_all,apart_iff]
 constructor
 ·intro h
  have hc:=h.cap
  have hi:=h.inn
  have ho:=h.out
  refine ⟨⟨⟨⟨⟨h.after.1,by have:=h.makeN.1;rwa [List.length_map] at this,h.drop.1,h.use.1⟩,h.user,h.nodes,h.wall,h.qos⟩,h.after.2.2,h.after.2.1⟩,
   ⟨?_,by omega,by omega,fun d hd=>(h.make d hd).2,h.drop.2.2,h.use.2.2⟩,by omega,by omega⟩,fun d hd=>(h.make d hd).1,⟨h.makeN.2.1,h.use.2.1,h.apart⟩,h.drop.2.1⟩
  by_cases h0:x.cap=0
  ·exact .inl ⟨h0,h.pool0 h0⟩
  ·exact .inr ⟨by omega,hc.2,h.pool1 h0⟩
 ·rintro ⟨⟨⟨⟨⟨s1,s2,s3,s4⟩,u1,u2,u3,u4⟩,w1,w2⟩,⟨c1,c2,c3,c4,c5,c6⟩,c7,c8⟩,a1,⟨a2,a3,a4⟩,a5⟩
  refine ⟨u1,u2,u3,u4,⟨s1,w2,w1⟩,?_,?_,?_,?_,?_,fun d hd=>⟨a1 d hd,c4 d hd⟩,⟨by rw [List.length_map];exact s2,a2,?_⟩,⟨s3,a5,c5⟩,⟨s4,a3,c6⟩,a4⟩
  ·rcases c1 with ⟨h,_⟩ | ⟨h,h2,_⟩ <;> omega
  ·rcases c1 with ⟨_,h⟩ | ⟨h,_⟩
   ·exact fun _=>h
   ·intro;omega
  ·rcases c1 with ⟨h,_⟩ | ⟨_,_,h⟩
   ·exact fun h2=>absurd h h2
   ·exact fun _=>h
  ·rcases c2 with h | ⟨h,h2⟩ <;> omega
  ·rcases c3 with h | ⟨h,h2⟩ <;> omega
  ·intro n hn
   obtain ⟨d,hd,rfl⟩:=List.mem_map.1 hn
   exact name_mk (c4 d hd) (a1 d hd)
theorem dirsP_eq {x:Slip} (h:Ok x):dirsP x=dirsS x:=by
 have hc:=h.cap
 have hi:=h.inn
 have ho:=h.out
 have e1:capD x=if 0 < x.cap then [⟨1,[],x.pool,x.cap,false⟩] else []:=by
  unfold capD
  by_cases h0:x.cap=0
  ·rw [if_neg (by simp [h0,h.pool0 h0]),if_neg (by omega)]
  ·rw [if_pos (.inl h0),if_pos (by omega)]
 have e2:innD x=if 0 < x.inn then [⟨2,[],[],x.inn,false⟩] else []:=by
  unfold innD
  by_cases h0:x.inn=0
  ·rw [if_neg (by simp [h0]),if_neg (by omega)]
  ·rw [if_pos h0,if_pos (by omega)]
 have e3:outD x=if 0 < x.out then [⟨3,[],[],x.out,false⟩] else []:=by
  unfold outD
  by_cases h0:x.out=0
  ·rw [if_neg (by simp [h0]),if_neg (by omega)]
  ·rw [if_pos h0,if_pos (by omega)]
 unfold dirsP dirsS
 rw [e1,e2,e3]
 rfl
theorem line_chk {l:Tx} {d:Dir} (h:line? l=some d):chk d=true:=by
 obtain ⟨k,fs,hk,_,hw,_⟩:=line_some h
 have hf:fields? k (fs.map wtx)=some d:=by
  unfold line? at h
  rw [hw] at h
  dsimp only at h
  rw [if_pos rfl,kind_kw hk] at h
  exact h
 have:=fields_eq hk (fs.map wtx)
 rw [hf] at this
 cases hr:drun k (⟨k,[],[],0,false⟩,false) (fs.map wtx) with
 | none=>rw [hr] at this;cases this
 | some s =>
  rw [hr] at this
  dsimp only at this
  by_cases hc:chk s.1=true
  ·rw [if_pos hc] at this
   cases this
   exact hc
  ·rw [if_neg hc] at this
   cases this
theorem ldir_chk {l:Tx} (h:lerr l=0):chk (ldir l)=true:=by
 unfold lerr at h
 unfold ldir
 by_cases h5:500 < l.length
 ·rw [if_pos h5] at h;cases h
 ·rw [if_neg h5] at h ⊢
  cases hl:line? l with
  | none=>rw [hl] at h;cases h
  | some d=>exact line_chk hl
theorem small_size {d:Dir} (h:chk d=true) (hk:d.kind≤3):d.size≠0:=by
 have:=((chk_iff d).1 h).2.1.1 (by unfold hasSize;rw [decide_eq_true_eq];omega)
 omega
def pput (x:Slip) (d:Dir):Option Slip :=
 if d.kind=1 then if x.cap=0 then some { x with cap:=d.size,pool:=d.pool } else none
 else if d.kind=2 then if x.inn=0 then some { x with inn:=d.size } else none
 else if d.kind=3 then if x.out=0 then some { x with out:=d.size } else none
 else some (put x d)
def prun:Slip→Nat→List Tx→Except (Int × Nat) Slip
 | x,_,[]=>.ok x
 | x,i,l::r=>if isD l=true then
   if lerr l≠0 then .error (lerr l,i)
   else match pput x (ldir l) with
    | none=>.error (150,i)
    | some y=>prun y (i+1) r
   else prun x (i+1) r
theorem prun_eq:∀ (L:List Tx) (x:Slip) (s:List Nat) (i:Nat),(1∈s↔x.cap≠0)→(2∈s↔x.inn≠0)→(3∈s↔x.out≠0) →
  prun x i L=match lrun (x,s) i L with
   | .ok st=>.ok st.1
   | .error e=>.error e
 | [],x,s,i,_,_,_=>rfl
 | l::r,x,s,i,h1,h2,h3=>by
  unfold prun lrun
  by_cases hd:isD l=true
  ·rw [if_pos hd,if_pos hd]
   by_cases he:lerr l≠0
   ·rw [if_pos he,if_pos he]
   ·rw [if_neg he,if_neg he]
    simp only [Decidable.not_not] at he
    have hc:=ldir_chk he
    have hk:=((chk_iff _).1 hc).1
    generalize ldir l=d at hc hk
    have hz:=small_size hc
    dsimp only
    have six:d.kind=1∨d.kind=2∨d.kind=3∨d.kind=4∨d.kind=5∨d.kind=6:=by omega
    unfold pput
    rcases six with hk1 | hk1 | hk1 | hk1 | hk1 | hk1
    ·have hz:=hz (by omega)
     rw [if_pos hk1,hk1]
     by_cases hs:(1:Nat)∈s
     ·rw [if_neg (h1.1 hs),if_pos ⟨by omega,hs⟩]
     ·rw [if_pos (Decidable.not_not.1 fun h=>hs (h1.2 h)),if_neg fun h=>hs h.2]
      dsimp only
      have e:put x d={ x with cap:=d.size,pool:=d.pool }:=by unfold put;rw [if_pos hk1]
      rw [e]
      exact prun_eq r _ _ _ (by simp [hz]) (by simpa using h2) (by simpa using h3)
    ·have hz:=hz (by omega)
     rw [if_neg (by omega),if_pos hk1,hk1]
     by_cases hs:(2:Nat)∈s
     ·rw [if_neg (h2.1 hs),if_pos ⟨by omega,hs⟩]
     ·rw [if_pos (Decidable.not_not.1 fun h=>hs (h2.2 h)),if_neg fun h=>hs h.2]
      dsimp only
      have e:put x d={ x with inn:=d.size }:=by unfold put;rw [if_neg (by omega),if_pos hk1]
      rw [e]
      exact prun_eq r _ _ _ (by simpa using h1) (by simp [hz]) (by simpa using h3)
    ·have hz:=hz (by omega)
     rw [if_neg (by omega),if_neg (by omega),if_pos hk1,hk1]
     by_cases hs:(3:Nat)∈s
     ·rw [if_neg (h3.1 hs),if_pos ⟨by omega,hs⟩]
     ·rw [if_pos (Decidable.not_not.1 fun h=>hs (h3.2 h)),if_neg fun h=>hs h.2]
      dsimp only
      have e:put x d={ x with out:=d.size }:=by unfold put;rw [if_neg (by omega),if_neg (by omega),if_pos hk1]
      rw [e]
      exact prun_eq r _ _ _ (by simpa using h1) (by simpa using h2) (by simp [hz])
    all_goals
     rw [if_neg (by omega),if_neg (by omega),if_neg (by omega),if_neg (by omega)]
     dsimp only
     refine prun_eq r _ _ _ ?_ ?_ ?_ <;> (unfold put;simp [hk1];assumption)
  ·rw [if_neg hd,if_neg hd]
   exact prun_eq r x s (i+1) h1 h2 h3
def pline (x:Slip) (i:Nat) (l:Tx):Except (Int × Nat) Slip :=
 if i=1 then match first? l with
  | some y=>.ok y
  | none=>.error (150,1)
 else if isD l=true then
  if lerr l≠0 then .error (lerr l,i)
  else match pput x (ldir l) with
   | none=>.error (150,i)
   | some y=>.ok y
 else .ok x
def pread:Slip→Nat→List Tx→Except (Int × Nat) Slip
 | x,_,[]=>.ok x
 | x,i,l::r=>match pline x i l with
  | .error e=>.error e
  | .ok y=>pread y (i+1) r
theorem pread_run:∀ (L:List Tx) (x:Slip) (i:Nat),2≤i→pread x i L=prun x i L
 | [],_,_,_=>rfl
 | l::r,x,i,hi=>by
  unfold pread pline prun
  rw [if_neg (by omega)]
  by_cases hd:isD l=true
  ·rw [if_pos hd,if_pos hd]
   by_cases he:lerr l≠0
   ·rw [if_pos he,if_pos he]
   ·rw [if_neg he,if_neg he]
    cases pput x (ldir l) with
    | none=>rfl
    | some y=>exact pread_run r y (i+1) (by omega)
  ·rw [if_neg hd,if_neg hd]
   exact pread_run r x (i+1) (by omega)
theorem sread_P {s:Tx} (h:s.length≤10000):sread s=match pread Slip.zero 1 (cuts 10 s) with
  | .error e=>(Slip.zero,e.1,e.2)
  | .ok x=>if chkS x=true then (x,0,0) else (Slip.zero,150,(cuts 10 s).length):=by
 unfold sread
 rw [if_neg (by omega)]
 cases hc:cuts 10 s with
 | nil=>exact absurd hc (cuts_ne 10 s)
 | cons l r =>
  dsimp only
  unfold pread pline
  rw [if_pos rfl]
  cases hf:first? l with
  | none=>rfl
  | some x =>
   dsimp only
   have hx:x.cap=0∧x.inn=0∧x.out=0:=by
    unfold first? at hf
    cases hw:cuts 32 l with
    | nil=>rw [hw] at hf;cases hf
    | cons j ws =>
     rw [hw] at hf
     dsimp only at hf
     by_cases hj:j=jobW
     ·rw [if_pos hj] at hf
      cases hr:frun (Slip.zero,[]) ws with
      | none=>rw [hr] at hf;cases hf
      | some st =>
       rw [hr] at hf
       dsimp only at hf
       have key:∀ (ws:List Tx) (a st:Slip × List Tx),frun a ws=some st→(a.1.cap=0∧a.1.inn=0∧a.1.out=0)→(st.1.cap=0∧st.1.inn=0∧st.1.out=0):=by
        intro ws
        induction ws with
        | nil=>intro a st h h0;unfold frun at h;cases h;exact h0
        | cons w r ih =>
         intro a st h h0
         unfold frun at h
         cases hcut:cut w with
         | none=>rw [hcut] at h;cases h
         | some f =>
          rw [hcut] at h
          dsimp only at h
          split at h
          ·cases h
          ·cases hp:fput a.1 f with
           | none=>rw [hp] at h;cases h
           | some y =>
            rw [hp] at h
            refine ih _ st h ?_
            unfold fput at hp
            split at hp
            ·cases hp;exact h0
            split at hp
            ·obtain ⟨n,_,rfl⟩:=Option.map_eq_some_iff.1 hp;exact h0
            split at hp
            ·obtain ⟨n,_,rfl⟩:=Option.map_eq_some_iff.1 hp;exact h0
            split at hp
            ·obtain ⟨n,_,rfl⟩:=Option.map_eq_some_iff.1 hp;exact h0
            split at hp
            ·obtain ⟨n,_,rfl⟩:=Option.map_eq_some_iff.1 hp;exact h0
            ·cases hp
       have:=key ws _ st hr ⟨rfl,rfl,rfl⟩
       split at hf
       ·cases hf;exact this
       ·cases hf
     ·rw [if_neg hj] at hf;cases hf
   rw [pread_run r x 2 (Nat.le_refl _),prun_eq r x [] 2 (by simp [hx]) (by simp [hx]) (by simp [hx])]
   cases lrun (x,[]) 2 r with
   | error e=>rfl
   | ok st=>rfl
end Go.Proofs.YtekcjfdllclphaaGreatDoor.sp
end
section
namespace Go.Proofs.YtekcjfdllclphaaGreatDoor.gn
open Go.RowKit
open Go.Proofs.YtekcjfdllclphaaGreatDoor.un
open Go.Proofs.YtekcjfdllclphaaGreatDoor.di
structure LaidD (w:World):Prop where
 u:LaidU w
 max:∃ m:Int,w.cell? ⟨0,0,none⟩=some (.int .i64 m)
theorem LaidD.next {w w':World} (h:LaidD w) (hb:Below w.heap.size w w'):LaidD w':=by
 refine ⟨h.u.next hb,?_⟩
 obtain ⟨m,hm⟩:=h.max
 refine ⟨m,(Below.cell hb ?_).trans hm⟩
 by_cases hl:0 < w.heap.size
 ·exact hl
 ·have:w.heap[0]?=none:=Array.getElem?_eq_none (by omega)
  simp [World.cell?,this] at hm
def LaidB (B:Nat) (w:World):Prop:=∀ w',Below B w w'→LaidD w'
theorem LaidD.base {w:World} (h:LaidD w):LaidB w.heap.size w:=fun w' hb=>h.next hb
theorem LaidB.next {B:Nat} {w w':World} (h:LaidB B w) (hb:Below B w w'):LaidB B w':=fun w2 h2=>h w2 (hb.trans h2)
theorem LaidB.here {B:Nat} {w:World} (h:LaidB B w):LaidD w:=h w (Below.refl _ _)
theorem But.low {R B:Nat} {w w':World} (h:But R w w') (hR:B≤R) (hB:B≤w.heap.size):Below B w w':=(Below.refl B w).grown h hB (fun j hj=>by cases hj;exact hR)
def Prts (w:World) (p o:Nat) (ws:List Tx):Prop:=p < w.heap.size∧∀ (i:Nat) (x:Tx),ws[i]?=some x→w.cell? ⟨p,o+i,none⟩=some (.string (str x))
theorem Prts.next {w w':World} {p o:Nat} {ws:List Tx} (h:Prts w p o ws) (hb:Below w.heap.size w w'):Prts w' p o ws :=
 ⟨Nat.lt_of_lt_of_le h.1 hb.size,fun i x hx=>(Below.cell hb h.1).trans (h.2 i x hx)⟩
theorem Prts.but {R:Nat} {w w':World} {p o:Nat} {ws:List Tx} (h:Prts w p o ws) (hb:But R w w') (hne:p≠R):Prts w' p o ws :=
 ⟨Nat.lt_of_lt_of_le h.1 hb.size,fun i x hx=>hb.cell (h.2 i x hx) hne⟩
theorem Prts.drop {w:World} {p o:Nat} {ws:List Tx} (h:Prts w p o ws) (n:Nat):Prts w p (o+n) (ws.drop n) :=
 ⟨h.1,fun i x hx=>by
  have:=h.2 (n+i) x (by rw [List.getElem?_drop] at hx;exact hx)
  rw [Nat.add_assoc]
  exact this⟩
theorem cut_any (x:Tx) (hx:x.length≤100000) (w:World) (hL:LaidD w) :
  Calls Tryz.prog 16 #[.string (str x),.string { data:=#[61] }] w (Told (.tuple #[.string (str (fld x).1),.string (str (fld x).2),.bool (cut x).isSome]) w):=by
 obtain ⟨m,hm⟩:=hL.max
 refine (Any.strings_Cut layCut (str x) (str [61]) m w (by rw [str_size];omega) hm).mono ?_
 rintro e w' ⟨he,n,hw⟩
 have e1:(str x).data.toList=x:=by simp [str]
 have e2:(str [61]).data.toList=[61]:=rfl
 rw [e1,e2,cut_lib] at he
 exact ⟨he,by rw [hw];exact Joins.below_draws _ _ _⟩
theorem split_any_d (l:Tx) (hl:l.length≤100000) (w:World) (hL:LaidD w) :
  Calls Tryz.prog 107 #[.string (str l),.string { data:=#[32] }] w fun e w'=>e=.returned (.slice (some ⟨w.heap.size,0,none⟩) (words l).length (words l).length)∧Prts w' w.heap.size 0 (words l)∧Below w.heap.size w w':=by
 obtain ⟨m,hm⟩:=hL.max
 refine (Any.strings_Split laySplit (by kernel_rfl) (str l) (str [32]) m w (by rw [str_size];omega) hm (by decide)).mono ?_
 rintro e w' ⟨he,hw⟩
 rw [countB_words] at he
 rw [splitB_words] at hw
 refine ⟨he,⟨by rw [hw];simp,fun i x hx=>?_⟩,by rw [hw];exact (Below.refl _ _).alloc (Nat.le_refl _) _⟩
 rw [hw,World.cell?_alloc_mark]
 simp [hx]
def fV (f:Tx × Bool):Value:=.agg #[.string (str f.1),.bool f.2]
def fget (F:List (Tx × Bool)) (j:Tx):Option Value:=F.foldl (fun acc f=>if j=f.1 then some (fV f) else acc) none
theorem fget_snoc (F:List (Tx × Bool)) (f:Tx × Bool) (j:Tx):fget (F++[f]) j=if j=f.1 then some (fV f) else fget F j:=by
 unfold fget
 rw [List.foldl_append]
 rfl
theorem fget_all {k:Nat} (hk:1≤k∧k≤6) (j:Tx):fget (fldL k) j=if has k j=true then some (fV (j,decide (j=accK))) else none:=by
 have c1:(capK=accK)=False:=by simp;decide
 have c2:(sizeK=accK)=False:=by simp;decide
 have c3:(nameK=accK)=False:=by simp;decide
 have c4:(poolK=accK)=False:=by simp;decide
 by_cases h1:j=capK
 ·subst h1
  rcases six hk with rfl | rfl | rfl | rfl | rfl | rfl <;> rfl
 by_cases h2:j=sizeK
 ·subst h2
  rcases six hk with rfl | rfl | rfl | rfl | rfl | rfl <;> rfl
 by_cases h3:j=nameK
 ·subst h3
  rcases six hk with rfl | rfl | rfl | rfl | rfl | rfl <;> rfl
 by_cases h4:j=poolK
 ·subst h4
  rcases six hk with rfl | rfl | rfl | rfl | rfl | rfl <;> rfl
 by_cases h5:j=accK
 ·subst h5
  rcases six hk with rfl | rfl | rfl | rfl | rfl | rfl <;> rfl
 rcases six hk with rfl | rfl | rfl | rfl | rfl | rfl <;> simp [fget,has,fldL,h1,h2,h3,h4,h5]
theorem fld_opt {k:Nat} {f:Tx × Bool} (h:f∈fldL k):f.2=decide (f.1=accK)∧has k f.1=true:=by
 refine ⟨?_,by unfold has;exact List.contains_iff_mem.2 (List.mem_map.2 ⟨f,h,rfl⟩)⟩
 unfold fldL at h
 split at h <;> simp at h
 ·rcases h with rfl | rfl <;> rfl
 ·subst h;rfl
 ·subst h;rfl
 ·rcases h with rfl | rfl | rfl | rfl <;> rfl
 ·subst h;rfl
 ·subst h;rfl
theorem has_mem {k:Nat} {j:Tx} (h:has k j=true):(j,decide (j=accK))∈fldL k:=by
 unfold has at h
 obtain ⟨f,hf,rfl⟩:=List.mem_map.1 (List.contains_iff_mem.1 h)
 rw [←(fld_opt hf).1]
 exact hf
structure Left (w:World) (m k:Nat) (fs:List Fl) (L:List (Tx × Value)):Prop where
 m:MapV w m L
 get:∀ j,fi.get j L=if has k j=true∧j ∉ keys fs then some (fV (j,decide (j=accK))) else none
theorem Left.next {w w':World} {m k:Nat} {fs:List Fl} {L:List (Tx × Value)} (h:Left w m k fs L) (hb:Below w.heap.size w w'):Left w' m k fs L:=⟨h.m.next hb,h.get⟩
theorem Left.del {w w':World} {m k:Nat} {fs:List Fl} {L:List (Tx × Value)} (h:Left w m k fs L) {f:Fl} (hd:MapV w' m (fi.del f.1 L)):Left w' m k (fs++[f]) (fi.del f.1 L):=by
 refine ⟨hd,fun j=>?_⟩
 rw [get_del,h.get,keys_snoc]
 by_cases hj:j=f.1
 ·rw [if_pos hj,if_neg]
  rintro ⟨_,hn⟩
  exact hn (by rw [hj];simp)
 ·rw [if_neg hj]
  have:j ∉ keys fs++[f.1]↔j ∉ keys fs:=by simp [hj]
  simp only [this]
theorem zeroF (W:World):(zeroValue 133).run Tryz.prog W=.ok (.agg #[.string { data:=#[] },.bool false]) W:=by kernel_rfl
theorem clo_call {k:Nat} {key:Tx} (h:has k key=true) (c:Nat):∃ g,cloF c key=some (clo g c)∧(∀ (x y:Value) (W:World),(callFunc g #[x,y]).run Tryz.prog W=.ok (.enter g #[x,y]) W) ∧
  ∀ (v:Tx) (hv:v.length≤140737488355328) (bd:Nat) (d:Dir) (W:World),PtrB W c bd→DirB W bd d→LaidU W→Calls Tryz.prog g #[.string (str v),.pointer (some ⟨c,0,none⟩)] W (StoT bd key v d W):=by
 rcases key_five h with rfl | rfl | rfl | rfl | rfl
 ·exact ⟨_,cloF_name c,fun x y W=>by kernel_rfl,fun v hv bd d W hp hd hL=>sto_name_any c bd d v (by omega) W hp hd⟩
 ·exact ⟨_,cloF_pool c,fun x y W=>by kernel_rfl,fun v hv bd d W hp hd hL=>sto_pool_any c bd d v (by omega) W hp hd⟩
 ·exact ⟨_,cloF_cap c,fun x y W=>by kernel_rfl,fun v hv bd d W hp hd hL=>sto_size_any c bd d v hv W hp hd hL⟩
 ·refine ⟨_,cloF_size c,fun x y W=>by kernel_rfl,fun v hv bd d W hp hd hL=>(sto_size_any c bd d v hv W hp hd hL).mono ?_⟩
  rintro e w' ⟨h1,h2,h3⟩
  exact ⟨by rw [okv_siz,← okv_cap];exact h1,h2,by rw [sto_size,← sto_cap];exact h3⟩
 ·exact ⟨_,cloF_acc c,fun x y W=>by kernel_rfl,fun v hv bd d W hp hd hL=>sto_acc_any c bd d v W hp hd⟩
theorem fld_len (x:Tx):(fld x).1.length≤x.length∧(fld x).2.length≤x.length:=by
 unfold fld
 cases hc:cut x with
 | none=>simp
 | some f =>
  obtain ⟨e,_⟩:=cut_some x f.1 f.2 hc
  simp only [Option.getD_some]
  rw [e]
  simp
  omega
end Go.Proofs.YtekcjfdllclphaaGreatDoor.gn
end
section
namespace Go.Proofs.YtekcjfdllclphaaGreatDoor.gn
open Go.RowKit
open Go.Proofs.YtekcjfdllclphaaGreatDoor.un
open Go.Proofs.YtekcjfdllclphaaGreatDoor.di
def omi (f:Tx × Bool) (v:Tx):Bool:=f.2 && decide (v=[])
theorem omi_iff (f:Tx × Bool) (v:Tx):omi f v=true↔f.2=true∧v=[]:=by
 unfold omi
 simp
set_option maxRecDepth 100000 in
theorem omitted_any (key:Tx) (o:Bool) (v:Tx) (w:World):Calls Tryz.prog 97 #[.agg #[.string (str key),.bool o],.string (str v)] w (Told (.bool (omi (key,o) v)) w):=by
 have HB:=Lib.hid (show Below w.heap.size w (w.alloc (.cells #[.string (str key),.bool o] 133)) from (Below.refl _ _).alloc (Nat.le_refl _) _)
 cases o with
 | false =>
  go_enter Tryz.func97,Tryz.ntmps97
  go_wp2
  go_ret
  exact ⟨rfl,HB.out⟩
 | true =>
  have H:=Lib.hid (show omi (key,true) v=decide (v=[]) from rfl)
  by_cases h:v=[]
  ·obtain ⟨q,q2⟩:=lit_yes h
   rw [decide_eq_true h] at H
   clear h
   go_enter Tryz.func97,Tryz.ntmps97
   go_wp2
   go_ret
   exact ⟨by rw [H.out];rfl,HB.out⟩
  ·obtain ⟨q,q2⟩:=lit_no h
   rw [decide_eq_false h] at H
   clear h
   go_enter Tryz.func97,Tryz.ntmps97
   go_wp2
   go_ret
   exact ⟨by rw [H.out];rfl,HB.out⟩
theorem val_name (d:Dir):val d nameK=d.name:=by unfold val;rw [if_pos rfl]
theorem val_pool (d:Dir):val d poolK=d.pool:=by unfold val;rw [if_neg (by decide),if_pos rfl]
theorem val_acc (d:Dir):val d accK=if d.opn=true then pubV else []:=by unfold val;rw [if_neg (by decide),if_neg (by decide),if_pos rfl]
theorem val_size (d:Dir) {key:Tx} (h:key=capK∨key=sizeK):val d key=stxt d.size:=by
 rcases h with rfl | rfl
 ·unfold val;rw [if_neg (by decide),if_neg (by decide),if_neg (by decide)]
 ·unfold val;rw [if_neg (by decide),if_neg (by decide),if_neg (by decide)]
set_option maxRecDepth 100000 in
set_option maxHeartbeats 1600000 in
theorem value_any (d:Dir) (h0:-9223372036854775808≤d.size) (h1:d.size≤9223372036854775807) (key:Tx) (w:World) (hL:LaidU w) :
  Calls Tryz.prog 96 #[dV d,.string (str key)] w (Told (.string (str (val d key))) w):=by
 have hb:Below w.heap.size w (w.alloc (.cells (dcs d) 80)):=(Below.refl _ _).alloc (Nat.le_refl _) _
 have HB:=Lib.hid hb
 have HL:=Lib.hid (hL.next hb)
 have hV:dV d=.agg #[.int .u8 (d.kind:Nat),.string (str d.name),.string (str d.pool),.int .i64 d.size,.bool d.opn]:=rfl
 rw [hV]
 unfold dcs at HB HL
 obtain ⟨k,n,p,z,o⟩:=d
 dsimp only at h0 h1 HB HL ⊢
 by_cases e1:key=nameK
 ·have HV:=Lib.hid (show val ⟨k,n,p,z,o⟩ key=n by rw [e1];exact val_name _)
  obtain ⟨q1,q2⟩:=lit_yes e1
  unfold nameK at q1 q2
  clear hL hb hV h0 h1 e1
  go_enter Tryz.func96,Tryz.ntmps96
  go_wp2
  go_ret
  exact ⟨by rw [HV.out];rfl,HB.out⟩
 ·obtain ⟨q1,q2⟩:=lit_no e1
  unfold nameK at q1 q2
  by_cases e2:key=poolK
  ·have HV:=Lib.hid (show val ⟨k,n,p,z,o⟩ key=p by rw [e2];exact val_pool _)
   obtain ⟨q3,q4⟩:=lit_yes e2
   unfold poolK at q3 q4
   clear hL hb hV h0 h1 e1 e2
   go_enter Tryz.func96,Tryz.ntmps96
   go_wp2
   go_ret
   exact ⟨by rw [HV.out];rfl,HB.out⟩
  ·obtain ⟨q3,q4⟩:=lit_no e2
   unfold poolK at q3 q4
   by_cases e3:key=accK
   ·have HV:=Lib.hid (show val ⟨k,n,p,z,o⟩ key=if o=true then pubV else [] by rw [e3];exact val_acc _)
    obtain ⟨q5,q6⟩:=lit_yes e3
    unfold accK at q5 q6
    clear hL hb hV h0 h1 e1 e2 e3
    cases o with
    | true =>
     go_enter Tryz.func96,Tryz.ntmps96
     go_wp2
     go_ret
     exact ⟨by rw [HV.out];rfl,HB.out⟩
    | false =>
     go_enter Tryz.func96,Tryz.ntmps96
     go_wp2
     go_ret
     exact ⟨by rw [HV.out];rfl,HB.out⟩
   ·obtain ⟨q5,q6⟩:=lit_no e3
    unfold accK at q5 q6
    have HV:=Lib.hid (show val ⟨k,n,p,z,o⟩ key=stxt z by unfold val;rw [if_neg e1,if_neg e2,if_neg e3])
    clear hL hb hV e1 e2 e3
    go_enter Tryz.func96,Tryz.ntmps96
    go_wp2_with (go_at_call 118;refine (stext_any z h0 h1 _ HL.out).mono ?_;rintro e w2 ⟨rfl,hb2⟩;have HB2:=Lib.hid (HB.out.trans (hb2.mono HB.out.size));clear hb2)
    go_ret
    exact ⟨by rw [HV.out];rfl,HB2.out⟩
end Go.Proofs.YtekcjfdllclphaaGreatDoor.gn
end
section
namespace Go.Proofs.YtekcjfdllclphaaGreatDoor.gn
open Go.RowKit
def Strs (w:World) (v:Value) (L:List (List UInt8)):Prop :=
 ∃ A c,v=.slice A L.length c∧L.length≤c∧c≤maxLen∧(L.length=0∨∃ b o,A=some ⟨b,o,none⟩∧∀ j (h:j < L.length),w.cell? ⟨b,o+j,none⟩=some (.string (str L[j])))∧∀ s∈L,s.length≤maxLen
theorem Strs.take {w:World} {A:Option Addr} {n c:Nat} {L:List (List UInt8)} (h:Strs w (.slice A n c) L) (k:Nat) (hk:k≤L.length):Strs w (.slice A k c) (L.take k):=by
 obtain ⟨A',c',h1,h2,h3,h4,h5⟩:=h
 injection h1 with e1 e2 e3
 subst e1;subst e3
 have hl:(L.take k).length=k:=by rw [List.length_take];omega
 refine ⟨A,c,by rw [hl],by omega,h3,?_,fun s hs=>h5 s (List.mem_of_mem_take hs)⟩
 rcases h4 with h4 | ⟨b,o,hA,hc⟩
 ·exact .inl (by omega)
 ·exact .inr ⟨b,o,hA,fun j hj=>by rw [hc j (by omega),List.getElem_take]⟩
theorem Strs.len {w:World} {A:Option Addr} {n c:Nat} {L:List (List UInt8)} (h:Strs w (.slice A n c) L):n=L.length∧L.length≤c∧c≤maxLen:=by
 obtain ⟨A',c',h1,h2,h3,h4,h5⟩:=h
 injection h1 with e1 e2 e3
 subst e3
 exact ⟨e2,h2,h3⟩
def Ss (w:World) (B:Nat) (v:Value) (L:List (List UInt8)):Prop:=w.ownsRow B 9 1 v L.length (L.map fun s=>.string (str s))
theorem Ss_nil (w:World) (B:Nat):Ss w B (.slice none 0 0) []:=World.ownsRow_nil w B _ 1
theorem Ss.kept {w w':World} {B:Nat} {v:Value} {L:List (List UInt8)} (h:Ss w B v L) (hb:Below w.heap.size w w'):Ss w' B v L:=by
 refine ⟨h.1,?_⟩
 rcases h.2 with hn | ⟨g,cap,cur,rfl,hB,hg,rest⟩
 ·exact .inl hn
 ·exact .inr ⟨g,cap,cur,rfl,hB,(hb.block g (lt_of_block hg)).trans hg,rest⟩
theorem Tryz.info9:(Tryz.prog.info? 9).map (fun i=>(i.zero,i.size,i.bytes))=some (some (.string ⟨#[]⟩),1,16):=by kernel_rfl
theorem strs_new (w:World) (s:List UInt8) (h:s.length≤maxLen):Strs (w.alloc (.cells #[.string (str s)] 9)) (.slice (some ⟨w.heap.size,0,none⟩) 1 1) [s]:=by
 refine ⟨_,1,rfl,Nat.le_refl _,by decide,.inr ⟨w.heap.size,0,rfl,fun j hj=>?_⟩,fun t ht=>by simp at ht;rw [ht];exact h⟩
 have:j=0:=by simp at hj;exact hj
 subst this
 go_simp
end Go.Proofs.YtekcjfdllclphaaGreatDoor.gn
end
