/- Slips, plain: with one thing out of its bounds a slip may be no more; how a text begins. (Written ahead of the code.) -/
import Derived.Test.YtekcjfdllclphaaGreatDoorMQaSlP
import Derived.Test.YtekcjfdllclphaaGreatDoorMQaDiK
import Derived.Test.YtekcjfdllclphaaGreatDoorMQaSlM
import Derived.Test.YtekcjfdllclphaaGreatDoorMQaSlN
import Derived.RangeFuncNested
import Derived.Test.YtekcjfdllclphaaGreatDoorMQaGen
import Derived.SliceStrings
import Derived.Lib.SmallJoins
import Derived.ChangeSlices
import Derived.WalkKit
import Derived.ProofKit
import Derived.OpenShut
section
set_option linter.unusedVariables false
namespace Go.Proofs.YtekcjfdllclphaaGreatDoor.sp
open Go.Proofs.YtekcjfdllclphaaGreatDoor.un
open Go.Proofs.YtekcjfdllclphaaGreatDoor.di
theorem chk_not {x:Slip} (h:¬ Ok x):chkS x=false:=by
 cases hc:chkS x with
 | false=>rfl
 | true=>exact absurd ((chkS_iff x).1 hc) h
end Go.Proofs.YtekcjfdllclphaaGreatDoor.sp
end
section
set_option linter.unusedVariables false
namespace Go.Proofs.YtekcjfdllclphaaGreatDoor.sp
open Go.Proofs.YtekcjfdllclphaaGreatDoor.un
open Go.Proofs.YtekcjfdllclphaaGreatDoor.di
def dropD (n:Tx):Dir:=⟨5,n,[],0,false⟩
def useD (n:Tx):Dir:=⟨6,n,[],0,false⟩
def capD (x:Slip):List Dir:=if x.cap≠0∨x.pool≠[] then [⟨1,[],x.pool,x.cap,false⟩] else []
def innD (x:Slip):List Dir:=if x.inn≠0 then [⟨2,[],[],x.inn,false⟩] else []
def outD (x:Slip):List Dir:=if x.out≠0 then [⟨3,[],[],x.out,false⟩] else []
def dirsP (x:Slip):List Dir:=capD x++innD x++outD x++x.make++x.drop.map dropD++x.use.map useD
def shortP (x:Slip):Bool:=decide (x.after.length≤8∧x.make.length≤4∧x.drop.length≤4∧x.use.length≤4)
def soundP (x:Slip):Bool:=isName x.user && decide ((1≤x.nodes∧x.nodes≤64)∧(1≤x.wall∧x.wall≤1048576)∧(0≤x.qos∧x.qos≤9))
def waitsP (l:List (Int × Bool)):Bool:=decide ((∀ d∈l,1≤d.1∧d.1≤1073741824)∧(l.map (·.1)).Nodup)
def storedP (x:Slip):Bool:=decide ((∀ d∈dirsP x,chk d=true)∧x.inn≤x.cap∧x.out≤x.cap)
def apartP (x:Slip):Bool:=decide ((∀ d∈x.make,d.kind=4)∧(x.make.map (·.name)++x.use).Nodup∧x.drop.Nodup)
theorem chk_cap (p:Tx) (n:Int):chk ⟨1,[],p,n,false⟩=true↔0 < n∧n≤1099511627776∧isName p=true:=by
 rw [chk_iff]
 have h0:isName []=false:=rfl
 simp only [hasSize,hasName,hasPool,h0]
 simp
 omega
theorem chk_in (n:Int):chk ⟨2,[],[],n,false⟩=true↔0 < n∧n≤1099511627776:=by
 rw [chk_iff]
 have h0:isName []=false:=rfl
 simp only [hasSize,hasName,hasPool,h0]
 simp
 omega
theorem chk_out (n:Int):chk ⟨3,[],[],n,false⟩=true↔0 < n∧n≤1099511627776:=by
 rw [chk_iff]
 have h0:isName []=false:=rfl
 simp only [hasSize,hasName,hasPool,h0]
 simp
 omega
theorem chk_drop (n:Tx):chk (dropD n)=true↔isName n=true:=by
 rw [chk_iff]
 have h0:isName []=false:=rfl
 simp [dropD,hasSize,hasName,hasPool,h0]
theorem chk_use (n:Tx):chk (useD n)=true↔isName n=true:=by
 rw [chk_iff]
 have h0:isName []=false:=rfl
 simp [useD,hasSize,hasName,hasPool,h0]
theorem capD_all (x:Slip):(∀ d∈capD x,chk d=true)↔(x.cap=0∧x.pool=[])∨(0 < x.cap∧x.cap≤1099511627776∧isName x.pool=true):=by
 unfold capD
 by_cases h:x.cap≠0∨x.pool≠[]
 ·rw [if_pos h]
  simp only [List.mem_singleton,forall_eq]
  rw [chk_cap]
  constructor
  ·exact .inr
  ·rintro (⟨a,b⟩ | h2)
   ·rcases h with h | h
    ·exact absurd a h
    ·exact absurd b h
   ·exact h2
 ·rw [if_neg h]
  simp only [not_or,Decidable.not_not] at h
  simp [h]
theorem innD_all (x:Slip):(∀ d∈innD x,chk d=true)↔x.inn=0∨(0 < x.inn∧x.inn≤1099511627776):=by
 unfold innD
 by_cases h:x.inn≠0
 ·rw [if_pos h]
  simp only [List.mem_singleton,forall_eq]
  rw [chk_in]
  omega
 ·rw [if_neg h]
  simp only [Decidable.not_not] at h
  simp [h]
theorem outD_all (x:Slip):(∀ d∈outD x,chk d=true)↔x.out=0∨(0 < x.out∧x.out≤1099511627776):=by
 unfold outD
 by_cases h:x.out≠0
 ·rw [if_pos h]
  simp only [List.mem_singleton,forall_eq]
  rw [chk_out]
  omega
 ·rw [if_neg h]
  simp only [Decidable.not_not] at h
  simp [h]
theorem dirsP_all (x:Slip):(∀ d∈dirsP x,chk d=true)↔((x.cap=0∧x.pool=[])∨(0 < x.cap∧x.cap≤1099511627776∧isName x.pool=true))∧(x.inn=0∨(0 < x.inn∧x.inn≤1099511627776))∧(x.out=0∨(0 < x.out∧x.out≤1099511627776)) ∧
  (∀ d∈x.make,chk d=true)∧(∀ n∈x.drop,isName n=true)∧∀ n∈x.use,isName n=true:=by
 rw [←capD_all,← innD_all,← outD_all]
 unfold dirsP
 constructor
 ·intro h
  refine ⟨fun d hd=>h d (by simp [hd]),fun d hd=>h d (by simp [hd]),fun d hd=>h d (by simp [hd]),fun d hd=>h d (by simp [hd]),fun n hn=>(chk_drop n).1 (h _ ?_),fun n hn=>(chk_use n).1 (h _ ?_)⟩
  ·simp only [List.mem_append,List.mem_map]
   exact .inl (.inr ⟨n,hn,rfl⟩)
  ·simp only [List.mem_append,List.mem_map]
   exact .inr ⟨n,hn,rfl⟩
 ·rintro ⟨h1,h2,h3,h4,h5,h6⟩ d hd
  simp only [List.mem_append,List.mem_map] at hd
  rcases hd with ((((hd | hd) | hd) | hd) | ⟨n,hn,rfl⟩) | ⟨n,hn,rfl⟩
  ·exact h1 d hd
  ·exact h2 d hd
  ·exact h3 d hd
  ·exact h4 d hd
  ·exact (chk_drop n).2 (h5 n hn)
  ·exact (chk_use n).2 (h6 n hn)
theorem apart_iff (x:Slip):(x.make.map (·.name)++x.use).Nodup↔(x.make.map (·.name)).Nodup∧x.use.Nodup∧∀ d∈x.make,d.name ∉ x.use:=by
 rw [List.nodup_append]
 constructor
 ·rintro ⟨a,b,c⟩
  exact ⟨a,b,fun d hd hu=>c d.name (List.mem_map.2 ⟨d,hd,rfl⟩) d.name hu rfl⟩
 ·rintro ⟨a,b,c⟩
  refine ⟨a,b,fun n hn m hm e=>?_⟩
  obtain ⟨d,hd,rfl⟩:=List.mem_map.1 hn
  exact c d hd (e ▸ hm)
theorem name_mk {d:Dir} (h:chk d=true) (hk:d.kind=4):isName d.name=true:=((chk_iff d).1 h).2.2.2.1.1 (by rw [hk];rfl)
theorem chkS_P (x:Slip):chkS x=(shortP x && soundP x && waitsP x.after && storedP x && apartP x):=by
 rw [Bool.eq_iff_iff,chkS_iff]
 simp only [shortP,soundP,waitsP,storedP,apartP,Bool.and_eq_true,decide_eq_true_eq]
 rw [dirsP_all,apart_iff]
 constructor
 ·intro h
  have hc:=h.cap
  have hi:=h.inn
  have ho:=h.out
  refine ⟨⟨⟨⟨⟨h.after.1,by have:=h.makeN.1;rwa [List.length_map] at this,h.drop.1,h.use.1⟩,h.user,h.nodes,h.wall,h.qos⟩,h.after.2.2,h.after.2.1⟩,
   ⟨?_,by omega,by omega,fun d hd=>(h.make d hd).2,h.drop.2.2,h.use.2.2⟩,by omega,by omega⟩,fun d hd=>(h.make d hd).1,⟨h.makeN.2.1,h.use.2.1,h.apart⟩,h.drop.2.1⟩
  by_cases h0:x.cap=0
  ·exact .inl ⟨h0,h.pool0 h0⟩
  ·exact .inr ⟨by omega,hc.2,h.pool1 h0⟩
 ·rintro ⟨⟨⟨⟨⟨s1,s2,s3,s4⟩,u1,u2,u3,u4⟩,w1,w2⟩,⟨c1,c2,c3,c4,c5,c6⟩,c7,c8⟩,a1,⟨a2,a3,a4⟩,a5⟩
  refine ⟨u1,u2,u3,u4,⟨s1,w2,w1⟩,?_,?_,?_,?_,?_,fun d hd=>⟨a1 d hd,c4 d hd⟩,⟨by rw [List.length_map];exact s2,a2,?_⟩,⟨s3,a5,c5⟩,⟨s4,a3,c6⟩,a4⟩
  ·rcases c1 with ⟨h,_⟩ | ⟨h,h2,_⟩ <;> omega
  ·rcases c1 with ⟨_,h⟩ | ⟨h,_⟩
   ·exact fun _=>h
   ·intro;omega
  ·rcases c1 with ⟨h,_⟩ | ⟨_,_,h⟩
   ·exact fun h2=>absurd h h2
   ·exact fun _=>h
  ·rcases c2 with h | ⟨h,h2⟩ <;> omega
  ·rcases c3 with h | ⟨h,h2⟩ <;> omega
  ·intro n hn
   obtain ⟨d,hd,rfl⟩:=List.mem_map.1 hn
   exact name_mk (c4 d hd) (a1 d hd)
theorem dirsP_eq {x:Slip} (h:Ok x):dirsP x=dirsS x:=by
 have hc:=h.cap
 have hi:=h.inn
 have ho:=h.out
 have e1:capD x=if 0 < x.cap then [⟨1,[],x.pool,x.cap,false⟩] else []:=by
  unfold capD
  by_cases h0:x.cap=0
  ·rw [if_neg (by simp [h0,h.pool0 h0]),if_neg (by omega)]
  ·rw [if_pos (.inl h0),if_pos (by omega)]
 have e2:innD x=if 0 < x.inn then [⟨2,[],[],x.inn,false⟩] else []:=by
  unfold innD
  by_cases h0:x.inn=0
  ·rw [if_neg (by simp [h0]),if_neg (by omega)]
  ·rw [if_pos h0,if_pos (by omega)]
 have e3:outD x=if 0 < x.out then [⟨3,[],[],x.out,false⟩] else []:=by
  unfold outD
  by_cases h0:x.out=0
  ·rw [if_neg (by simp [h0]),if_neg (by omega)]
  ·rw [if_pos h0,if_pos (by omega)]
 unfold dirsP dirsS
 rw [e1,e2,e3]
 rfl
theorem line_chk {l:Tx} {d:Dir} (h:line? l=some d):chk d=true:=by
 obtain ⟨k,fs,hk,_,hw,_⟩:=line_some h
 have hf:fields? k (fs.map wtx)=some d:=by
  unfold line? at h
  rw [hw] at h
  dsimp only at h
  rw [if_pos rfl,kind_kw hk] at h
  exact h
 have:=fields_eq hk (fs.map wtx)
 rw [hf] at this
 cases hr:drun k (⟨k,[],[],0,false⟩,false) (fs.map wtx) with
 | none=>rw [hr] at this;cases this
 | some s =>
  rw [hr] at this
  dsimp only at this
  by_cases hc:chk s.1=true
  ·rw [if_pos hc] at this
   cases this
   exact hc
  ·rw [if_neg hc] at this
   cases this
theorem ldir_chk {l:Tx} (h:lerr l=0):chk (ldir l)=true:=by
 unfold lerr at h
 unfold ldir
 by_cases h5:500 < l.length
 ·rw [if_pos h5] at h;cases h
 ·rw [if_neg h5] at h ⊢
  cases hl:line? l with
  | none=>rw [hl] at h;cases h
  | some d=>exact line_chk hl
theorem small_size {d:Dir} (h:chk d=true) (hk:d.kind≤3):d.size≠0:=by
 have:=((chk_iff d).1 h).2.1.1 (by unfold hasSize;rw [decide_eq_true_eq];omega)
 omega
def pput (x:Slip) (d:Dir):Option Slip :=
 if d.kind=1 then if x.cap=0 then some { x with cap:=d.size,pool:=d.pool } else none
 else if d.kind=2 then if x.inn=0 then some { x with inn:=d.size } else none
 else if d.kind=3 then if x.out=0 then some { x with out:=d.size } else none
 else some (put x d)
def prun:Slip→Nat→List Tx→Except (Int × Nat) Slip
 | x,_,[]=>.ok x
 | x,i,l::r=>if isD l=true then
   if lerr l≠0 then .error (lerr l,i)
   else match pput x (ldir l) with
    | none=>.error (150,i)
    | some y=>prun y (i+1) r
   else prun x (i+1) r
theorem prun_eq:∀ (L:List Tx) (x:Slip) (s:List Nat) (i:Nat),(1∈s↔x.cap≠0)→(2∈s↔x.inn≠0)→(3∈s↔x.out≠0) →
  prun x i L=match lrun (x,s) i L with
   | .ok st=>.ok st.1
   | .error e=>.error e
 | [],x,s,i,_,_,_=>rfl
 | l::r,x,s,i,h1,h2,h3=>by
  unfold prun lrun
  by_cases hd:isD l=true
  ·rw [if_pos hd,if_pos hd]
   by_cases he:lerr l≠0
   ·rw [if_pos he,if_pos he]
   ·rw [if_neg he,if_neg he]
    simp only [Decidable.not_not] at he
    have hc:=ldir_chk he
    have hk:=((chk_iff _).1 hc).1
    generalize ldir l=d at hc hk
    have hz:=small_size hc
    dsimp only
    have six:d.kind=1∨d.kind=2∨d.kind=3∨d.kind=4∨d.kind=5∨d.kind=6:=by omega
    unfold pput
    rcases six with hk1 | hk1 | hk1 | hk1 | hk1 | hk1
    ·have hz:=hz (by omega)
     rw [if_pos hk1,hk1]
     by_cases hs:(1:Nat)∈s
     ·rw [if_neg (h1.1 hs),if_pos ⟨by omega,hs⟩]
     ·rw [if_pos (Decidable.not_not.1 fun h=>hs (h1.2 h)),if_neg fun h=>hs h.2]
      dsimp only
      have e:put x d={ x with cap:=d.size,pool:=d.pool }:=by unfold put;rw [if_pos hk1]
      rw [e]
      exact prun_eq r _ _ _ (by simp [hz]) (by simpa using h2) (by simpa using h3)
    ·have hz:=hz (by omega)
     rw [if_neg (by omega),if_pos hk1,hk1]
     by_cases hs:(2:Nat)∈s
     ·rw [if_neg (h2.1 hs),if_pos ⟨by omega,hs⟩]
     ·rw [if_pos (Decidable.not_not.1 fun h=>hs (h2.2 h)),if_neg fun h=>hs h.2]
      dsimp only
      have e:put x d={ x with inn:=d.size }:=by unfold put;rw [if_neg (by omega),if_pos hk1]
      rw [e]
      exact prun_eq r _ _ _ (by simpa using h1) (by simp [hz]) (by simpa using h3)
    ·have hz:=hz (by omega)
     rw [if_neg (by omega),if_neg (by omega),if_pos hk1,hk1]
     by_cases hs:(3:Nat)∈s
     ·rw [if_neg (h3.1 hs),if_pos ⟨by omega,hs⟩]
     ·rw [if_pos (Decidable.not_not.1 fun h=>hs (h3.2 h)),if_neg fun h=>hs h.2]
      dsimp only
      have e:put x d={ x with out:=d.size }:=by unfold put;rw [if_neg (by omega),if_neg (by omega),if_pos hk1]
      rw [e]
      exact prun_eq r _ _ _ (by simpa using h1) (by simpa using h2) (by simp [hz])
    all_goals
     rw [if_neg (by omega),if_neg (by omega),if_neg (by omega),if_neg (by omega)]
     dsimp only
     refine prun_eq r _ _ _ ?_ ?_ ?_ <;> (unfold put;simp [hk1];assumption)
  ·rw [if_neg hd,if_neg hd]
   exact prun_eq r x s (i+1) h1 h2 h3
def pline (x:Slip) (i:Nat) (l:Tx):Except (Int × Nat) Slip :=
 if i=1 then match first? l with
  | some y=>.ok y
  | none=>.error (150,1)
 else if isD l=true then
  if lerr l≠0 then .error (lerr l,i)
  else match pput x (ldir l) with
   | none=>.error (150,i)
   | some y=>.ok y
 else .ok x
def pread:Slip→Nat→List Tx→Except (Int × Nat) Slip
 | x,_,[]=>.ok x
 | x,i,l::r=>match pline x i l with
  | .error e=>.error e
  | .ok y=>pread y (i+1) r
theorem pread_run:∀ (L:List Tx) (x:Slip) (i:Nat),2≤i→pread x i L=prun x i L
 | [],_,_,_=>rfl
 | l::r,x,i,hi=>by
  unfold pread pline prun
  rw [if_neg (by omega)]
  by_cases hd:isD l=true
  ·rw [if_pos hd,if_pos hd]
   by_cases he:lerr l≠0
   ·rw [if_pos he,if_pos he]
   ·rw [if_neg he,if_neg he]
    cases pput x (ldir l) with
    | none=>rfl
    | some y=>exact pread_run r y (i+1) (by omega)
  ·rw [if_neg hd,if_neg hd]
   exact pread_run r x (i+1) (by omega)
theorem sread_P {s:Tx} (h:s.length≤10000):sread s=match pread Slip.zero 1 (cuts 10 s) with
  | .error e=>(Slip.zero,e.1,e.2)
  | .ok x=>if chkS x=true then (x,0,0) else (Slip.zero,150,(cuts 10 s).length):=by
 unfold sread
 rw [if_neg (by omega)]
 cases hc:cuts 10 s with
 | nil=>exact absurd hc (cuts_ne 10 s)
 | cons l r =>
  dsimp only
  unfold pread pline
  rw [if_pos rfl]
  cases hf:first? l with
  | none=>rfl
  | some x =>
   dsimp only
   have hx:x.cap=0∧x.inn=0∧x.out=0:=by
    unfold first? at hf
    cases hw:cuts 32 l with
    | nil=>rw [hw] at hf;cases hf
    | cons j ws =>
     rw [hw] at hf
     dsimp only at hf
     by_cases hj:j=jobW
     ·rw [if_pos hj] at hf
      cases hr:frun (Slip.zero,[]) ws with
      | none=>rw [hr] at hf;cases hf
      | some st =>
       rw [hr] at hf
       dsimp only at hf
       have key:∀ (ws:List Tx) (a st:Slip × List Tx),frun a ws=some st→(a.1.cap=0∧a.1.inn=0∧a.1.out=0)→(st.1.cap=0∧st.1.inn=0∧st.1.out=0):=by
        intro ws
        induction ws with
        | nil=>intro a st h h0;unfold frun at h;cases h;exact h0
        | cons w r ih =>
         intro a st h h0
         unfold frun at h
         cases hcut:cut w with
         | none=>rw [hcut] at h;cases h
         | some f =>
          rw [hcut] at h
          dsimp only at h
          split at h
          ·cases h
          ·cases hp:fput a.1 f with
           | none=>rw [hp] at h;cases h
           | some y =>
            rw [hp] at h
            refine ih _ st h ?_
            unfold fput at hp
            split at hp
            ·cases hp;exact h0
            split at hp
            ·obtain ⟨n,_,rfl⟩:=Option.map_eq_some_iff.1 hp;exact h0
            split at hp
            ·obtain ⟨n,_,rfl⟩:=Option.map_eq_some_iff.1 hp;exact h0
            split at hp
            ·obtain ⟨n,_,rfl⟩:=Option.map_eq_some_iff.1 hp;exact h0
            split at hp
            ·obtain ⟨n,_,rfl⟩:=Option.map_eq_some_iff.1 hp;exact h0
            ·cases hp
       have:=key ws _ st hr ⟨rfl,rfl,rfl⟩
       split at hf
       ·cases hf;exact this
       ·cases hf
     ·rw [if_neg hj] at hf;cases hf
   rw [pread_run r x 2 (Nat.le_refl _),prun_eq r x [] 2 (by simp [hx]) (by simp [hx]) (by simp [hx])]
   cases lrun (x,[]) 2 r with
   | error e=>rfl
   | ok st=>rfl
end Go.Proofs.YtekcjfdllclphaaGreatDoor.sp
end
section
set_option linter.unusedVariables false
namespace Go.Proofs.YtekcjfdllclphaaGreatDoor.gn
open Go.RowKit
open Go.Proofs.YtekcjfdllclphaaGreatDoor.un
open Go.Proofs.YtekcjfdllclphaaGreatDoor.di
def tT (d:Dir):Tx:=if chk d=true then dtx d else []
def TextT (d:Dir) (w:World):Ending→World→Prop:=Told (.tuple #[.string (str (tT d)),.int .i64 (cE d)]) w
theorem trun_cons (d:Dir) (f:Tx × Bool) (r:List (Tx × Bool)) (s:Tx):trun d (f::r) s=if f.2=true∧val d f.1=[] then trun d r s else trun d r (s++32::(f.1++61::val d f.1)):=rfl
theorem val_short {d:Dir} (h:chk d=true) {key:Tx} (hk:has d.kind key=true):(val d key).length≤40:=by
 obtain ⟨c0,c1,cz,c2,c3,c4,c5,c6⟩:=(chk_iff d).1 h
 have hs:=stxt_len d.size
 rcases key_five hk with rfl | rfl | rfl | rfl | rfl
 ·rw [val_name]
  rcases c3 with e | e
  ·have:=name_len (c2.1 e);omega
  ·rw [e];simp
 ·rw [val_pool]
  rcases c5 with e | e
  ·have:=name_len (c4.1 e);omega
  ·rw [e];simp
 ·rw [val_size d (.inl rfl)];omega
 ·rw [val_size d (.inr rfl)];omega
 ·rw [val_acc]
  split <;> decide
theorem word_eq (s key v:Tx):str s++(({ data:=#[32] }:ByteArray)++str key++{ data:=#[61] }++str v)=str (s++32::(key++61::v)):=by
 rw [show ({ data:=#[32] }:ByteArray)=str [32] from rfl,show ({ data:=#[61] }:ByteArray)=str [61] from rfl,str_app,str_app,str_app,str_app]
 simp
theorem key_short {k:Nat} {key:Tx} (h:has k key=true):key.length≤8:=by
 rcases key_five h with rfl | rfl | rfl | rfl | rfl <;> decide
set_option maxRecDepth 100000 in
set_option maxHeartbeats 1600000 in
theorem text_no (d:Dir) (h:DW d) (hc:¬ chk d=true) (w:World) (hL:LaidD w):Calls Tryz.prog 53 #[dV d] w (TextT d w):=by
 have HE:=Lib.hid (show cE d=140∧tT d=[] by unfold cE tT;rw [if_neg hc,if_neg hc];exact ⟨rfl,rfl⟩)
 obtain ⟨w0,hw0⟩:∃ w0,w.alloc (.cells #[.int .u8 (d.kind:Nat),.string (str d.name),.string (str d.pool),.int .i64 d.size,.bool d.opn] 80)=w0:=⟨_,rfl⟩
 have hb0:Below w.heap.size w w0:=by rw [←hw0];exact (Below.refl _ _).alloc (Nat.le_refl _) _
 have HB0:=Lib.hid hb0
 have H0:=Lib.hid hw0
 have hV:dV d=.agg #[.int .u8 (d.kind:Nat),.string (str d.name),.string (str d.pool),.int .i64 d.size,.bool d.opn]:=rfl
 have HCH:=Lib.hid (Check_any d h w0 (hL.next hb0))
 rw [hV] at HCH ⊢
 clear hV h hc hL hb0 hw0
 go_enter Tryz.func53,Tryz.ntmps53
 go_wp2_with (go_at_call 94;rw [H0.out];refine HCH.out.mono ?_;rintro e w1 ⟨rfl,hb⟩;rw [HE.out.1];have HB1:=Lib.hid (HB0.out.trans (hb.mono HB0.out.size));clear hb)
 go_ret2
 exact ⟨by rw [HE.out.1,HE.out.2];rfl,HB1.out⟩
structure TK (w:World) (d:Dir) (fa:Nat) (W:World):Prop where
 p:BoxA W w.heap.size 80 (dcs d)
 f:Flds W fa (fldL d.kind)
 b:Below w.heap.size w W
theorem TK.next {w W W':World} {d:Dir} {fa:Nat} (h:TK w d fa W) (hb:Below W.heap.size W W'):TK w d fa W':=⟨h.p.next hb,h.f.next hb,h.b.trans (hb.mono h.b.size)⟩
set_option maxRecDepth 100000 in
set_option maxHeartbeats 6400000 in
theorem text_yes (d:Dir) (h:DW d) (hc:chk d=true) (w:World) (hL:LaidD w):Calls Tryz.prog 53 #[dV d] w (TextT d w):=by
 have HE:=Lib.hid (show cE d=0∧tT d=dtx d by unfold cE tT;rw [if_pos hc,if_pos hc];exact ⟨rfl,rfl⟩)
 have hk:=((chk_iff d).1 hc).1
 have HA:=Lib.hid (show trun d ((fldL d.kind).drop 0) (bbW++32::kw d.kind)=dtx d from trun_dtx hc)
 have HK:=Lib.hid hk
 have HCK:=Lib.hid hc
 have HLB:=Lib.hid hL.base
 have HV:=Lib.hid (fun (key:Tx) (W:World) (hb:Below w.heap.size w W)=>value_any d h.z0 h.z1 key W (hL.next hb).u)
 have HKW:=Lib.hid (kw_len hk)
 obtain ⟨n,hn⟩:∃ n,(fldL d.kind).length=n:=⟨_,rfl⟩
 have HN:=Lib.hid hn
 have hn4:n≤4:=by rw [←hn];exact di.fld_len d.kind
 obtain ⟨w0,hw0⟩:∃ w0,w.alloc (.cells #[.int .u8 (d.kind:Nat),.string (str d.name),.string (str d.pool),.int .i64 d.size,.bool d.opn] 80)=w0:=⟨_,rfl⟩
 have hb0:Below w.heap.size w w0:=by rw [←hw0];exact (Below.refl _ _).alloc (Nat.le_refl _) _
 have hp0:BoxA w0 w.heap.size 80 (dcs d):=by rw [←hw0];exact BoxA.new _ _ _
 have HB0:=Lib.hid hb0
 have HP0:=Lib.hid hp0
 have H0:=Lib.hid hw0
 have hV:dV d=.agg #[.int .u8 (d.kind:Nat),.string (str d.name),.string (str d.pool),.int .i64 d.size,.bool d.opn]:=rfl
 have HCH:=Lib.hid (Check_any d h w0 (hL.next hb0))
 have hk5:(str (kw d.kind)).size≤50:=by rw [str_size];exact kw_len hk
 rw [hV] at HCH HV ⊢
 clear hV hk h hc hn hL hw0 hb0 hp0
 go_enter Tryz.func53,Tryz.ntmps53
 go_wp2_with (first
  | (go_at_call 94;rw [H0.out];refine HCH.out.mono ?_;rintro e w1 ⟨rfl,hb⟩;rw [HE.out.1];have HP1:=Lib.hid (HP0.out.next hb);have hx1:w1.cell? ⟨w.heap.size,0,none⟩=some (.int .u8 (d.kind:Nat)):=BoxA.cell HP1.out 0 _ rfl;have hz1:=HP1.out.lt;have HB1:=Lib.hid (HB0.out.trans (hb.mono HB0.out.size));clear hb)
  | (go_at_call 95;refine (kfind_yes d.kind HK.out _).mono ?_;rintro e w2 ⟨fa,rfl,hf,hfa,hb⟩;rw [HN.out];have HTK:=Lib.hid (show TK w d fa w2 from ⟨HP1.out.next hb,hf,HB1.out.trans (hb.mono HB1.out.size)⟩);clear hf hfa hb))
 clear HP1 HB1 hx1
 go_loopw [7,25] (fun s7 s25 wr=>∃ (i:Nat) (s:Tx),s25=.int .i64 i∧s7=.string (str s)∧i≤n∧s.length≤60+60 * i∧Aside (TK w d fa wr)∧Aside (trun d ((fldL d.kind).drop i) s=dtx d)) (fun _ s25 _=>n - (intOf s25).toNat)
 case atStart=>exact ⟨0,bbW++32::kw d.kind,rfl,by rw [←str_app];rfl,Nat.zero_le _,by have:=HKW.out;simp [bbW];omega,HTK.out,HA.out⟩
 case round =>
  clear HTK HA
  obtain ⟨i,s,rfl,rfl,hi,hsl,hck,har⟩:=hrel
  have HR:=Lib.hid (show TK w d fa wr from hck)
  have HAR:=Lib.hid (show trun d ((fldL d.kind).drop i) s=dtx d from har)
  clear hck har
  by_cases hin:i < n
  ·have hil:i < (fldL d.kind).length:=by rw [HN.out];exact hin
   obtain ⟨f,hfe⟩:∃ f,(fldL d.kind)[i]?=some f:=⟨_,List.getElem?_eq_getElem hil⟩
   obtain ⟨c0,c1⟩:=HR.out.f.2 i f hfe
   have hhas:=(fld_opt (List.mem_of_getElem? hfe)).2
   have HDR:=Lib.hid (show (fldL d.kind).drop i=f::(fldL d.kind).drop (i+1) by
    obtain ⟨_,rfl⟩:=List.getElem?_eq_some_iff.1 hfe
    exact List.drop_eq_getElem_cons hil)
   have hza:fa < wr.heap.size:=HR.out.f.1
   have hks:=key_short hhas
   have hvs:=val_short HCK.out hhas
   clear hfe hhas hil
   obtain ⟨key,opt⟩:=f
   dsimp only at c0 c1 hks hvs
   obtain ⟨v,hv⟩:∃ v,val d key=v:=⟨_,rfl⟩
   have HVK:=Lib.hid (HV.out key)
   rw [hv] at HVK hvs
   have HCR:=Lib.hid (show trun d ((fldL d.kind).drop i) s=if opt=true∧v=[] then trun d ((fldL d.kind).drop (i+1)) s else trun d ((fldL d.kind).drop (i+1)) (s++32::(key++61::v)) by
    rw [HDR.out,trun_cons]
    dsimp only
    rw [hv])
   obtain ⟨om,hom⟩:∃ om,omi (key,opt) v=om:=⟨_,rfl⟩
   have HOM:=Lib.hid hom
   clear hv hom HDR
   have z1:(str key).size≤8:=by rw [str_size];exact hks
   have z2:(str v).size≤40:=by rw [str_size];exact hvs
   have z3:(str s).size≤300:=by rw [str_size];omega
   have hy9:Below wr.heap.size wr (wr.alloc (.cells #[.string (str key),.bool opt] 133)):=(Below.refl _ _).alloc (Nat.le_refl _) _
   have h9:=BoxA.new wr 133 #[.string (str key),.bool opt]
   have HR9:=Lib.hid (HR.out.next hy9)
   have H9:=Lib.hid h9
   have d0:wr.cell? ⟨w.heap.size,0,none⟩=some (.int .u8 (d.kind:Nat)):=BoxA.cell HR.out.p 0 _ rfl
   have d1:wr.cell? ⟨w.heap.size,1,none⟩=some (.string (str d.name)):=BoxA.cell HR.out.p 1 _ rfl
   have d2:wr.cell? ⟨w.heap.size,2,none⟩=some (.string (str d.pool)):=BoxA.cell HR.out.p 2 _ rfl
   have d3:wr.cell? ⟨w.heap.size,3,none⟩=some (.int .i64 d.size):=BoxA.cell HR.out.p 3 _ rfl
   have d4:wr.cell? ⟨w.heap.size,4,none⟩=some (.bool d.opn):=BoxA.cell HR.out.p 4 _ rfl
   have hzw:w.heap.size < wr.heap.size:=HR.out.p.lt
   clear hy9 h9
   cases om with
   | true =>
    go_wp2_with (first
    | (go_at_call 96;refine (HVK.out _ HR9.out.b).mono ?_;rintro e w3 ⟨rfl,hb3⟩;have HR3:=Lib.hid (HR9.out.next hb3);have h93:=H9.out.next hb3;have k0:w3.cell? ⟨wr.heap.size,0,none⟩=some (.string (str key)):=BoxA.cell h93 0 _ rfl;have k1:w3.cell? ⟨wr.heap.size,1,none⟩=some (.bool opt):=BoxA.cell h93 1 _ rfl;have hzb:=h93.lt;have H93:=Lib.hid h93;clear hb3 h93)
    | (go_at_call 97;refine (omitted_any key opt v _).mono ?_;rintro e w4 ⟨rfl,hb4⟩;rw [HOM.out];have HR4:=Lib.hid (HR3.out.next hb4);have h94:=H93.out.next hb4;have m0:w4.cell? ⟨wr.heap.size,0,none⟩=some (.string (str key)):=BoxA.cell h94 0 _ rfl;have m1:w4.cell? ⟨wr.heap.size,1,none⟩=some (.bool opt):=BoxA.cell h94 1 _ rfl;have hzc:=h94.lt;clear hb4 h94))
    go_roundw
    case rel =>
     refine ⟨i+1,s,by go_num,rfl,by omega,by omega,HR4.out,?_⟩
     rw [←HAR.out,HCR.out,if_pos ((omi_iff (key,opt) v).1 HOM.out)]
     rfl
    case measure=>simp [intOf];omega
   | false =>
    have HNO:=Lib.hid (show ¬ (opt=true∧v=[]) from fun e=>by have:=(omi_iff (key,opt) v).2 e;rw [HOM.out] at this;cases this)
    go_wp2_with (first
    | (go_at_call 96;refine (HVK.out _ HR9.out.b).mono ?_;rintro e w3 ⟨rfl,hb3⟩;have HR3:=Lib.hid (HR9.out.next hb3);have h93:=H9.out.next hb3;have k0:w3.cell? ⟨wr.heap.size,0,none⟩=some (.string (str key)):=BoxA.cell h93 0 _ rfl;have k1:w3.cell? ⟨wr.heap.size,1,none⟩=some (.bool opt):=BoxA.cell h93 1 _ rfl;have hzb:=h93.lt;have H93:=Lib.hid h93;clear hb3 h93)
    | (go_at_call 97;refine (omitted_any key opt v _).mono ?_;rintro e w4 ⟨rfl,hb4⟩;rw [HOM.out];have HR4:=Lib.hid (HR3.out.next hb4);have h94:=H93.out.next hb4;have m0:w4.cell? ⟨wr.heap.size,0,none⟩=some (.string (str key)):=BoxA.cell h94 0 _ rfl;have m1:w4.cell? ⟨wr.heap.size,1,none⟩=some (.bool opt):=BoxA.cell h94 1 _ rfl;have hzc:=h94.lt;clear hb4 h94))
    go_roundw
    case rel =>
     refine ⟨i+1,s++32::(key++61::v),by go_num,by rw [←word_eq],by omega,by simp;omega,HR4.out,?_⟩
     rw [←HAR.out,HCR.out,if_neg HNO.out]
     rfl
    case measure=>simp [intOf];omega
  ·obtain rfl:i=n:=by omega
   have HF:=Lib.hid (show s=dtx d by
    have:=HAR.out
    rw [List.drop_of_length_le (by rw [HN.out];exact Nat.le_refl _)] at this
    exact this)
   go_wp2
   go_ret2
   exact ⟨by rw [HE.out.1,HE.out.2,← HF.out];rfl,HR.out.b⟩
theorem Text_any (d:Dir) (h:DW d) (w:World) (hL:LaidD w):Calls Tryz.prog 53 #[dV d] w (TextT d w):=by
 by_cases hc:chk d=true
 ·exact text_yes d h hc w hL
 ·exact text_no d h hc w hL
end Go.Proofs.YtekcjfdllclphaaGreatDoor.gn
end
section
set_option linter.unusedVariables false
namespace Go.Proofs.YtekcjfdllclphaaGreatDoor.gn
open Go.RowKit
open Go.Proofs.YtekcjfdllclphaaGreatDoor.un
open Go.Proofs.YtekcjfdllclphaaGreatDoor.di
open Go.Proofs.YtekcjfdllclphaaGreatDoor.sp (Slip cuts cutB within? dep? fput frun first? userK nodesK wallK qosK afterK okW anyW jobW pput pline pread chkS Ok shortP soundP waitsP storedP apartP dirsP dropD useD capD innD outD txtS line1 dirsS sread)
theorem flat_len {α:Type} (f:α→List Value) (k:Nat) (hk:∀ x,(f x).length=k):∀ l:List α,(l.flatMap f).length=l.length * k
 | []=>by simp
 | x::l=>by
  rw [List.flatMap_cons,List.length_append,hk,flat_len f k hk l,List.length_cons,Nat.add_mul]
  omega
theorem flat_at {α:Type} (f:α→List Value) (k:Nat) (hk:∀ x,(f x).length=k):∀ (l:List α) (i j:Nat) (x:α),l[i]?=some x→j < k→(l.flatMap f)[i * k+j]?=(f x)[j]?
 | [],i,j,x,h,_=>by cases h
 | y::l,0,j,x,h,hj=>by
  cases h
  rw [List.flatMap_cons,Nat.zero_mul,Nat.zero_add,List.getElem?_append_left (by rw [hk];exact hj)]
 | y::l,i+1,j,x,h,hj=>by
  have e:(i+1) * k+j=k+(i * k+j):=by rw [Nat.add_mul];omega
  rw [List.flatMap_cons,e,List.getElem?_append_right (by rw [hk];omega),hk,Nat.add_sub_cancel_left]
  exact flat_at f k hk l i j x h hj
abbrev Dep:=Int × Bool
def cA (d:Dep):List Value:=[.int .i64 d.1,.bool d.2]
def cM (d:Dir):List Value:=[.int .u8 (d.kind:Nat),.string (str d.name),.string (str d.pool),.int .i64 d.size,.bool d.opn]
def cS (s:Tx):List Value:=[.string (str s)]
def flA (l:List Dep):List Value:=l.flatMap cA
def flM (l:List Dir):List Value:=l.flatMap cM
def flS (l:List Tx):List Value:=l.flatMap cS
theorem flM_len (l:List Dir):(flM l).length=l.length * 5:=flat_len cM 5 (fun _=>rfl) l
theorem flS_len (l:List Tx):(flS l).length=l.length * 1:=flat_len cS 1 (fun _=>rfl) l
theorem flA_app (a b:List Dep):flA (a++b)=flA a++flA b:=List.flatMap_append
theorem flM_app (a b:List Dir):flM (a++b)=flM a++flM b:=List.flatMap_append
theorem flS_app (a b:List Tx):flS (a++b)=flS a++flS b:=List.flatMap_append
theorem flA_one (l:List Dep):∀ u∈flA l,u.oneCell'=true:=fun u hu=>by
 obtain ⟨d,_,h⟩:=List.mem_flatMap.1 hu
 simp only [cA,List.mem_cons,List.not_mem_nil,or_false] at h
 rcases h with rfl | rfl <;> rfl
theorem flM_one (l:List Dir):∀ u∈flM l,u.oneCell'=true:=fun u hu=>by
 obtain ⟨d,_,h⟩:=List.mem_flatMap.1 hu
 simp only [cM,List.mem_cons,List.not_mem_nil,or_false] at h
 rcases h with rfl | rfl | rfl | rfl | rfl <;> rfl
theorem flS_one (l:List Tx):∀ u∈flS l,u.oneCell'=true:=fun u hu=>by
 obtain ⟨d,_,h⟩:=List.mem_flatMap.1 hu
 simp only [cS,List.mem_cons,List.not_mem_nil,or_false] at h
 subst h;rfl
theorem elt_of {t e:TypeId} {z:Value} {size bytes:Nat} (hu:Tryz.prog.underlying t=some (.slice e)) (hi:(Tryz.prog.info? e).map (fun i=>(i.zero,i.size,i.bytes))=some (some z,size,bytes)) (hz:z.cells.size=size) (h0:0 < size):EltI t e z size bytes:=by
 refine ⟨hu,?_,hz,h0⟩
 cases hj:Tryz.prog.info? e with
 | none=>rw [hj] at hi;cases hi
 | some i0 =>
  rw [hj] at hi
  simp only [Option.map_some,Option.some.injEq,Prod.mk.injEq] at hi
  exact ⟨i0,rfl,hi.1,hi.2.1,hi.2.2⟩
theorem eltA:EltI 23 88 (.agg #[.int .i64 0,.bool false]) 2 16:=elt_of Tryz.underlying23 (by kernel_rfl) rfl (by decide)
theorem eltM:EltI 24 80 (.agg #[.int .u8 0,.string ⟨#[]⟩,.string ⟨#[]⟩,.int .i64 0,.bool false]) 5 56:=elt_of Tryz.underlying24 (by kernel_rfl) rfl (by decide)
theorem eltS:EltI 25 9 (.string ⟨#[]⟩) 1 16:=elt_of Tryz.underlying25 (by kernel_rfl) rfl (by decide)
structure Gh where
 a:Value
 m:Value
 d:Value
 u:Value
def scs (x:Slip) (g:Gh):Array Value:=#[.string (str x.user),.int .i64 x.nodes,.int .i64 x.wall,.int .i64 x.qos,g.a,.int .i64 x.cap,.int .i64 x.inn,.int .i64 x.out,.string (str x.pool),g.m,g.d,g.u]
def rcs (x:Slip) (g:Gh) (line:Int):Array Value:=#[.string (str x.user),.int .i64 x.nodes,.int .i64 x.wall,.int .i64 x.qos,g.a,.int .i64 x.cap,.int .i64 x.inn,.int .i64 x.out,.string (str x.pool),g.m,g.d,g.u,.int .i64 line]
def sV (x:Slip) (g:Gh):Value:=.agg (scs x g)
def Cp (v:Value) (n:Nat):Prop:=∃ p c,v=.slice p n c∧n≤c∧c≤maxLen
theorem cp_own {w:World} {base:Nat} {e:TypeId} {size:Nat} {v:Value} {n:Nat} {cs:List Value} (h:w.ownsRow base e size v n cs):Cp v n:=by
 rcases h.2 with ⟨rfl,rfl⟩ | ⟨g,cap,cur,rfl,_,_,h1,h2,_⟩
 ·exact ⟨_,_,rfl,Nat.le_refl _,Nat.zero_le _⟩
 ·exact ⟨_,_,rfl,h1,h2⟩
structure SR (w:World) (x:Slip) (g:Gh):Prop where
 a:RdC w g.a x.after.length (flA x.after)
 m:RdC w g.m x.make.length (flM x.make)
 d:RdC w g.d x.drop.length (flS x.drop)
 u:RdC w g.u x.use.length (flS x.use)
 ca:Cp g.a x.after.length
 cm:Cp g.m x.make.length
 cd:Cp g.d x.drop.length
 cu:Cp g.u x.use.length
theorem SR.next {w w':World} {x:Slip} {g:Gh} (h:SR w x g) (hb:Below w.heap.size w w'):SR w' x g:=⟨h.a.next hb,h.m.next hb,h.d.next hb,h.u.next hb,h.ca,h.cm,h.cd,h.cu⟩
structure Rdr (w:World) (R:Nat) (x:Slip) (line:Int) (g:Gh):Prop where
 box:BoxA w R 107 (rcs x g line)
 a:w.ownsRow (R+1) 88 2 g.a x.after.length (flA x.after)
 m:w.ownsRow (R+1) 80 5 g.m x.make.length (flM x.make)
 d:w.ownsRow (R+1) 9 1 g.d x.drop.length (flS x.drop)
 u:w.ownsRow (R+1) 9 1 g.u x.use.length (flS x.use)
 du:∀ b,g.d.ownBlock=some b→g.u.ownBlock≠some b
def Mr (R:Nat) (g:Gh) (b:Nat):Prop:=b=R∨g.a.ownBlock=some b∨g.m.ownBlock=some b∨g.d.ownBlock=some b∨g.u.ownBlock=some b
section
variable {w w' : World} {R : Nat} {x : Slip} {line : Int} {g : Gh}
theorem own_cells {base:Nat} {e:TypeId} {size:Nat} {v:Value} {n:Nat} {cs:List Value} (h:w.ownsRow base e size v n cs) {b:Nat} (hb:v.ownBlock=some b):∃ cur,w.heap[b]?=some (.cells cur e (0,0)):=by
 rcases h.2 with ⟨rfl,_⟩ | ⟨k,cap,cur,rfl,_,hk,_⟩
 ·cases hb
 ·cases hb
  exact ⟨_,hk⟩
theorem own_apart {base base':Nat} {e e':TypeId} {size size':Nat} {v v':Value} {n n':Nat} {cs cs':List Value} (h:w.ownsRow base e size v n cs) (h':w.ownsRow base' e' size' v' n' cs') (he:e≠e') {b:Nat} (hb:v.ownBlock=some b):v'.ownBlock≠some b:=fun hb'=>by
 obtain ⟨c1,h1⟩:=own_cells h hb
 obtain ⟨c2,h2⟩:=own_cells h' hb'
 rw [h1] at h2
 simp only [Option.some.injEq,Obj.cells.injEq] at h2
 exact he h2.2.1
theorem Rdr.lM (h:Rdr w R x line g) {b:Nat} (hb:Mr R g b):R≤b∧b < w.heap.size∧∃ o,w.heap[b]?=some o∧o.isCells=true:=by
 have key:∀ {e:TypeId} {size:Nat} {v:Value} {n:Nat} {cs:List Value},w.ownsRow (R+1) e size v n cs→v.ownBlock=some b→R≤b∧b < w.heap.size∧∃ o,w.heap[b]?=some o∧o.isCells=true:=fun ho hv=>by
  have:=World.ownsRow.lt ho b hv
  obtain ⟨cur,hc⟩:=own_cells ho hv
  exact ⟨by omega,this.2,_,hc,rfl⟩
 rcases hb with rfl | hb | hb | hb | hb
 ·exact ⟨Nat.le_refl _,h.box.lt,_,h.box,rfl⟩
 ·exact key h.a hb
 ·exact key h.m hb
 ·exact key h.d hb
 ·exact key h.u hb
theorem own_same {base:Nat} {e:TypeId} {size:Nat} {v:Value} {n:Nat} {cs:List Value} (h:w.ownsRow base e size v n cs) (hk:∀ b,v.ownBlock=some b→w'.heap[b]?=w.heap[b]?):w'.ownsRow base e size v n cs:=by
 refine ⟨h.1,?_⟩
 rcases h.2 with hn | ⟨k,cap,cur,rfl,hb,hk',r⟩
 ·exact .inl hn
 ·exact .inr ⟨k,cap,cur,rfl,hb,(hk k rfl).trans hk',r⟩
theorem Rdr.kept (h:Rdr w R x line g) (hk:∀ b,Mr R g b→w'.heap[b]?=w.heap[b]?):Rdr w' R x line g :=
 ⟨(hk R (.inl rfl)).trans h.box,own_same h.a fun b hb=>hk b (.inr (.inl hb)),own_same h.m fun b hb=>hk b (.inr (.inr (.inl hb))),own_same h.d fun b hb=>hk b (.inr (.inr (.inr (.inl hb)))),own_same h.u fun b hb=>hk b (.inr (.inr (.inr (.inr hb)))),h.du⟩
theorem Rdr.next (h:Rdr w R x line g) (hb:Below w.heap.size w w'):Rdr w' R x line g:=h.kept fun b hm=>hb.block b (h.lM hm).2.1
theorem Rdr.sr (h:Rdr w R x line g):SR w x g:=⟨(ApC.rdc (.inr h.a)),(ApC.rdc (.inr h.m)),(ApC.rdc (.inr h.d)),(ApC.rdc (.inr h.u)),cp_own h.a,cp_own h.m,cp_own h.d,cp_own h.u⟩
structure Kp (R:Nat) (g g':Gh) (w w':World):Prop where
 low:Below R w w'
 same:∀ b,b < w.heap.size→¬ Mr R g b→w'.heap[b]?=w.heap[b]?
 mv:∀ b,Mr R g' b→Mr R g b∨w.heap.size≤b
theorem Kp.of (g:Gh) (hb:Below w.heap.size w w') (hR:R≤w.heap.size):Kp R g g w w':=⟨hb.mono hR,fun b hl _=>hb.block b hl,fun _ h=>.inl h⟩
theorem Kp.trans {g1 g2 g3:Gh} {a b c:World} (h:Kp R g1 g2 a b) (k:Kp R g2 g3 b c):Kp R g1 g3 a c:=by
 refine ⟨h.low.trans k.low,fun i hi hm=>?_,fun i hm=>?_⟩
 ·refine (k.same i (Nat.lt_of_lt_of_le hi h.low.size) fun hm2=>?_).trans (h.same i hi hm)
  rcases h.mv i hm2 with h1 | h1
  ·exact hm h1
  ·omega
 ·rcases k.mv i hm with h1 | h1
  ·exact h.mv i h1
  ·exact .inr (Nat.le_trans h.low.size h1)
theorem Kp.off {g1 g2:Gh} (h:Kp R g1 g2 w w') {b:Nat} (hb:b < w.heap.size) (hm:¬ Mr R g1 b):¬ Mr R g2 b:=fun h2=>(h.mv b h2).elim hm (fun h3=>by omega)
def Lk (R:Nat) (g:Gh) (w w':World):Prop:=Below R w w'∧∀ b,b < w.heap.size→¬ Mr R g b→w'.heap[b]?=w.heap[b]?
theorem Lk.of (g:Gh) (hb:Below w.heap.size w w') (hR:R≤w.heap.size):Lk R g w w':=⟨hb.mono hR,fun b hl _=>hb.block b hl⟩
theorem Kp.lk {g1 g2:Gh} {a b c:World} (h:Kp R g1 g2 a b) (k:Lk R g2 b c):Lk R g1 a c :=
 ⟨h.low.trans k.1,fun i hi hm=>(k.2 i (Nat.lt_of_lt_of_le hi h.low.size) (fun hm2=>(h.mv i hm2).elim hm (fun h1=>by omega))).trans (h.same i hi hm)⟩
theorem Kp.set (g:Gh) (w:World) (R j:Nat) (u:Value):Kp R g g w (w.setCell ⟨R,j,none⟩ u) :=
 ⟨(Below.refl _ _).setCell (p:=⟨R,j,none⟩) (Nat.le_refl _) u,fun b _ hm=>Below.heap_setCell _ _ _ _ (fun e=>hm (.inl e)),fun _ h=>.inl h⟩
theorem Rdr.put (h:Rdr w R x line g) {y:Slip} {l2:Int} (j:Nat) (u:Value) (hc:(rcs x g line).setIfInBounds j u=rcs y g l2) (ha:y.after=x.after) (hm:y.make=x.make) (hd:y.drop=x.drop) (hu:y.use=x.use):Rdr (w.setCell ⟨R,j,none⟩ u) R y l2 g:=by
 have hk:∀ b,R+1≤b→(w.setCell ⟨R,j,none⟩ u).heap[b]?=w.heap[b]?:=fun b hb=>Below.heap_setCell _ _ _ _ (by simp only;omega)
 refine ⟨?_,own_same (by rw [ha];exact h.a) fun b hb=>hk b (World.ownsRow.lt h.a b hb).1,own_same (by rw [hm];exact h.m) fun b hb=>hk b (World.ownsRow.lt h.m b hb).1,own_same (by rw [hd];exact h.d) fun b hb=>hk b (World.ownsRow.lt h.d b hb).1,own_same (by rw [hu];exact h.u) fun b hb=>hk b (World.ownsRow.lt h.u b hb).1,h.du⟩
 rw [←hc]
 exact h.box.set j u
end
def spV (e line:Int):Value:=.iface 32 (.agg #[.int .i64 e,.int .i64 line])
def pnc (e line:Int):List PanicEntry:=[{ v:=spV e line,recovered:=false }]
theorem fail_any {w:World} {R:Nat} {x:Slip} {line:Int} {g:Gh} (h:Rdr w R x line g) (e:Int):Calls Tryz.prog 111 #[.pointer (some ⟨R,0,none⟩),.int .i64 e] w fun en w'=>en=.panicked (pnc e line)∧w=w':=by
 have c12:w.cell? ⟨R,12,none⟩=some (.int .i64 line):=h.box.cell 12 _
 have hlt:=h.box.lt
 clear h
 go_enter Tryz.func111,Tryz.ntmps111
 go_wp2
 exact ⟨rfl,rfl,rfl⟩
theorem must_any {w:World} {R:Nat} {x:Slip} {line:Int} {g:Gh} (h:Rdr w R x line g) (b:Bool):Calls Tryz.prog 70 #[.pointer (some ⟨R,0,none⟩),.bool b] w fun en w'=>en=(if b=true then .returned (.tuple #[]) else .panicked (pnc 150 line))∧w=w':=by
 have HF:=Lib.hid (fail_any h 150)
 clear h
 cases b with
 | true =>
  go_enter Tryz.func70,Tryz.ntmps70
  go_wp2
  go_end0
  exact ⟨rfl,rfl⟩
 | false =>
  go_enter Tryz.func70,Tryz.ntmps70
  go_wp2_with (go_at_call 111;((with_reducible refine HF.out.mono ?_);rintro e w' ⟨rfl,rfl⟩))
  exact ⟨rfl,rfl,rfl⟩
theorem must_yes {w:World} {R:Nat} {x:Slip} {line:Int} {g:Gh} (h:Rdr w R x line g):Calls Tryz.prog 70 #[.pointer (some ⟨R,0,none⟩),.bool true] w fun en w'=>en=.returned (.tuple #[])∧w=w':=must_any h true
theorem must_no {w:World} {R:Nat} {x:Slip} {line:Int} {g:Gh} (h:Rdr w R x line g):Calls Tryz.prog 70 #[.pointer (some ⟨R,0,none⟩),.bool false] w fun en w'=>en=.panicked (pnc 150 line)∧w=w':=must_any h false
theorem within_any_s (n a b:Int) (w:World):Calls Tryz.prog 99 #[.int .i64 n,.int .i64 a,.int .i64 b] w fun en w'=>en=.returned (.bool (decide (a≤n) && decide (n≤b)))∧w=w':=by
 by_cases h:a≤n
 ·have hd:decide (a≤n)=true:=decide_eq_true h
  rw [hd]
  go_enter Tryz.func99,Tryz.ntmps99
  go_wp2
  go_ret
  exact ⟨rfl,rfl⟩
 ·have hd:decide (a≤n)=false:=decide_eq_false h
  rw [hd]
  go_enter Tryz.func99,Tryz.ntmps99
  go_wp2
  go_ret
  exact ⟨rfl,rfl⟩
theorem within_at {n a b:Int} {t:Bool} (h:(decide (a≤n) && decide (n≤b))=t) (w:World):Calls Tryz.prog 99 #[.int .i64 n,.int .i64 a,.int .i64 b] w fun en w'=>en=.returned (.bool t)∧w=w':=by
 subst h
 exact within_any_s n a b w
def NumT (o:Option Nat) (line:Int) (w:World) (en:Ending) (w':World):Prop:=match o with
 | some n=>en=.returned (.int .i64 (n:Int))∧Below w.heap.size w w'
 | none=>en=.panicked (pnc 150 line)∧Below w.heap.size w w'
set_option maxRecDepth 100000 in
theorem number_any {w:World} {R:Nat} {x:Slip} {line:Int} {g:Gh} (h:Rdr w R x line g) (v:Tx) (hv:v.length≤140737488355328) (a b:Nat) (hL:LaidU w) :
  Calls Tryz.prog 154 #[.pointer (some ⟨R,0,none⟩),.string (str v),.int .i64 (a:Int),.int .i64 (b:Int)] w (NumT (within? v a b) line w):=by
 have HN:=Lib.hid (number_unit v hv w hL)
 have HR:=Lib.hid fun (W:World) (hb:Below w.heap.size w W)=>must_yes (h.next hb)
 have HX:=Lib.hid fun (W:World) (hb:Below w.heap.size w W)=>must_no (h.next hb)
 clear h hL hv
 cases hn:num? v with
 | none =>
  have HW:=Lib.hid (show within? v a b=none by unfold within?;rw [hn])
  rw [hn] at HN
  clear hn
  go_enter Tryz.func154,Tryz.ntmps154
  go_wp2_with (first
   | (go_at_call 114;((with_reducible refine HN.out.mono ?_);rintro e w1 ⟨rfl,hb⟩);rw [qv_none,qe_none];have HB:=Lib.hid hb;clear hb)
   | (go_at_call 70;((with_reducible refine (HX.out _ HB.out).mono ?_);rintro e w2 ⟨rfl,rfl⟩)))
  refine ⟨rfl,?_⟩
  rw [HW.out]
  exact ⟨rfl,HB.out⟩
 | some n =>
  rw [hn] at HN
  by_cases ha:a≤n
  ·have hd:decide ((a:Int)≤(n:Int))=true:=decide_eq_true (by omega)
   by_cases hb2:n≤b
   ·have hd2:decide ((n:Int)≤(b:Int))=true:=decide_eq_true (by omega)
    have HI:=Lib.hid (within_at (show (decide ((a:Int)≤(n:Int)) && decide ((n:Int)≤(b:Int)))=true by rw [hd,hd2];rfl))
    have HW:=Lib.hid (show within? v a b=some n by unfold within?;rw [hn];dsimp only;rw [if_pos ⟨ha,hb2⟩])
    clear hn ha hb2 hd hd2
    go_enter Tryz.func154,Tryz.ntmps154
    go_wp2_with (first
     | (go_at_call 114;((with_reducible refine HN.out.mono ?_);rintro e w1 ⟨rfl,hb⟩);rw [qv_some,qe_some];have HB:=Lib.hid hb;clear hb)
     | (go_at_call 99;((with_reducible refine (HI.out _).mono ?_);rintro e w2 ⟨rfl,rfl⟩))
     | (go_at_call 70;((with_reducible refine (HR.out _ HB.out).mono ?_);rintro e w2 ⟨rfl,rfl⟩)))
    go_ret
    unfold NumT
    rw [HW.out]
    exact ⟨rfl,HB.out⟩
   ·have hd2:decide ((n:Int)≤(b:Int))=false:=decide_eq_false (by omega)
    have HI:=Lib.hid (within_at (show (decide ((a:Int)≤(n:Int)) && decide ((n:Int)≤(b:Int)))=false by rw [hd,hd2];rfl))
    have HW:=Lib.hid (show within? v a b=none by unfold within?;rw [hn];dsimp only;rw [if_neg (fun h=>hb2 h.2)])
    clear hn ha hb2 hd hd2
    go_enter Tryz.func154,Tryz.ntmps154
    go_wp2_with (first
     | (go_at_call 114;((with_reducible refine HN.out.mono ?_);rintro e w1 ⟨rfl,hb⟩);rw [qv_some,qe_some];have HB:=Lib.hid hb;clear hb)
     | (go_at_call 99;((with_reducible refine (HI.out _).mono ?_);rintro e w2 ⟨rfl,rfl⟩))
     | (go_at_call 70;((with_reducible refine (HX.out _ HB.out).mono ?_);rintro e w2 ⟨rfl,rfl⟩)))
    refine ⟨rfl,?_⟩
    rw [HW.out]
    exact ⟨rfl,HB.out⟩
  ·have hd:decide ((a:Int)≤(n:Int))=false:=decide_eq_false (by omega)
   have HI:=Lib.hid (within_at (show (decide ((a:Int)≤(n:Int)) && decide ((n:Int)≤(b:Int)))=false by rw [hd];rfl))
   have HW:=Lib.hid (show within? v a b=none by unfold within?;rw [hn];dsimp only;rw [if_neg (fun h=>ha h.1)])
   clear hn ha hd
   go_enter Tryz.func154,Tryz.ntmps154
   go_wp2_with (first
    | (go_at_call 114;((with_reducible refine HN.out.mono ?_);rintro e w1 ⟨rfl,hb⟩);rw [qv_some,qe_some];have HB:=Lib.hid hb;clear hb)
    | (go_at_call 99;((with_reducible refine (HI.out _).mono ?_);rintro e w2 ⟨rfl,rfl⟩))
    | (go_at_call 70;((with_reducible refine (HX.out _ HB.out).mono ?_);rintro e w2 ⟨rfl,rfl⟩)))
   refine ⟨rfl,?_⟩
   rw [HW.out]
   exact ⟨rfl,HB.out⟩
def StoT2 (R:Nat) (g:Gh) (o:Option Slip) (line:Int) (w:World) (en:Ending) (w':World):Prop:=match o with
 | some y=>en=.returned (.tuple #[])∧∃ g',Rdr w' R y line g'∧Kp R g g' w w'
 | none=>en=.panicked (pnc 150 line)∧Lk R g w w'
set_option maxRecDepth 100000 in
theorem user_any {w:World} {R:Nat} {x:Slip} {line:Int} {g:Gh} (h:Rdr w R x line g) (v:Tx) (hv:v.length≤140737488355328) :
  Calls Tryz.prog 131 #[.pointer (some ⟨R,0,none⟩),.string (str v)] w (StoT2 R g (some { x with user:=v }) line w):=by
 have HR:=Lib.hid h
 have hz:(str v).size≤281474976710656:=by rw [str_size];omega
 clear h hv
 go_enter Tryz.func131,Tryz.ntmps131
 go_wp2_with (go_at_call 117;((with_reducible refine (clone_any _ _ hz).mono ?_);rintro e w1 ⟨rfl,hb⟩);have HB:=Lib.hid hb;have c0:=(HR.out.next hb).box.cell 0 _;have f0:=(HR.out.next hb).box.free 0;have l0:=(HR.out.next hb).box.lt;clear hb)
 go_end0
 have h1:=HR.out.next HB.out
 exact ⟨rfl,g,h1.put 0 _ rfl rfl rfl rfl rfl,(Kp.of g HB.out (Nat.le_of_lt HR.out.box.lt)).trans (Kp.set g _ R 0 _)⟩
end Go.Proofs.YtekcjfdllclphaaGreatDoor.gn
end
section
namespace Go.Proofs.YtekcjfdllclphaaGreatDoor.gn
open Go.RowKit
def Strs (w:World) (v:Value) (L:List (List UInt8)):Prop :=
 ∃ A c,v=.slice A L.length c∧L.length≤c∧c≤maxLen∧(L.length=0∨∃ b o,A=some ⟨b,o,none⟩∧∀ j (h:j < L.length),w.cell? ⟨b,o+j,none⟩=some (.string (str L[j])))∧∀ s∈L,s.length≤maxLen
theorem Strs.take {w:World} {A:Option Addr} {n c:Nat} {L:List (List UInt8)} (h:Strs w (.slice A n c) L) (k:Nat) (hk:k≤L.length):Strs w (.slice A k c) (L.take k):=by
 obtain ⟨A',c',h1,h2,h3,h4,h5⟩:=h
 injection h1 with e1 e2 e3
 subst e1;subst e3
 have hl:(L.take k).length=k:=by rw [List.length_take];omega
 refine ⟨A,c,by rw [hl],by omega,h3,?_,fun s hs=>h5 s (List.mem_of_mem_take hs)⟩
 rcases h4 with h4 | ⟨b,o,hA,hc⟩
 ·exact .inl (by omega)
 ·exact .inr ⟨b,o,hA,fun j hj=>by rw [hc j (by omega),List.getElem_take]⟩
theorem Strs.len {w:World} {A:Option Addr} {n c:Nat} {L:List (List UInt8)} (h:Strs w (.slice A n c) L):n=L.length∧L.length≤c∧c≤maxLen:=by
 obtain ⟨A',c',h1,h2,h3,h4,h5⟩:=h
 injection h1 with e1 e2 e3
 subst e3
 exact ⟨e2,h2,h3⟩
end Go.Proofs.YtekcjfdllclphaaGreatDoor.gn
end
section
set_option linter.unusedVariables false
namespace Go.Proofs.YtekcjfdllclphaaGreatDoor.gn
open Go.ChangeShapes Go.WideShapes Go.ChangeAt Go.RowKit
open Go.Proofs.YtekcjfdllclphaaGreatDoor.di
section
variable {H : Type} {enc : TypeId × Value → H} {W : World}
theorem dStr:Tryz.prog.cellsOf 9=1:=by kernel_rfl
theorem dU8:Tryz.prog.cellsOf 5=1:=by kernel_rfl
theorem dI64:Tryz.prog.cellsOf 2=1:=by kernel_rfl
theorem dBool:Tryz.prog.cellsOf 4=1:=by kernel_rfl
theorem dDir5:Tryz.prog.cellsOf 80=5:=by kernel_rfl
end
end Go.Proofs.YtekcjfdllclphaaGreatDoor.gn
end
