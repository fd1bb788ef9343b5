/- For any seat: strings as lists of bytes, slices of bytes that are owned, worlds that are as they were but for one block. -/
import Derived.Test.YtekcjfdllclphaaGreatDoorRows
import Derived.WalkKit
import Derived.ProofKit
import Derived.OwnWalk
import Derived.OneCell
import Derived.Lib.VarintMem
import Derived.Lib.Hide
import Derived.Laws.AppendOwnNone
import Derived.Laws.BytesString
import Derived.Laws.Rows
import Derived.Lib.ItoaNum
import Derived.Lib.AtoiTie
import Derived.Lib.ParseIntBTie
import Derived.Lib.Strings
import Derived.Below
import GoSem.ClaimWide
import Derived.Maps.RangeWalk
import Derived.Maps.OwnSet
import Derived.Carry
import Derived.Ground.NamesProg
import Derived.Shelf.Small.Wraps
import Derived.Shelf.Strconv.ErrVarParseInt
import Derived.Shelf.Strconv.Itoa4
import Derived.Test.YtekcjfdllclphaaGreatDoorProg
import Derived.Lib.SmallJoins
import Derived.Lib.AppendIntMem
import Derived.Lib.AtoiBound
set_option linter.unusedVariables false
section
namespace Go.Proofs.YtekcjfdllclphaaGreatDoor.gn
open Go.RowKit
def str (l:List UInt8):ByteArray:=⟨l.toArray⟩
theorem str_size (l:List UInt8):(str l).size=l.length:=by simp [str,ByteArray.size]
theorem str_toList (l:List UInt8):(str l).toList=l:=by rw [ByteArray.toList_eq];rfl
theorem heap_setCell {w:World} {b j:Nat} {cs:Array Value} {t:TypeId} {fr:Nat × Nat} (h:w.heap[b]?=some (.cells cs t fr)) (u:Value) :
  (w.setCell ⟨b,j,none⟩ u).heap[b]?=some (.cells (cs.setIfInBounds j u) t fr):=by
 have hlt:=lt_of_block h
 have h':w.heap[b]=.cells cs t fr:=by simpa [Array.getElem?_eq_getElem hlt] using h
 show (w.heap.modify b _)[b]?=_
 rw [Array.getElem?_eq_getElem (by simpa using hlt),Array.getElem_modify_self,h']
 rfl
def But (R:Nat) (w w':World):Prop:=w.grownBy w' (some R)
theorem But.refl (R:Nat) (w:World):But R w w:=⟨rfl,rfl,rfl,Nat.le_refl _,fun _ _ _=>rfl⟩
theorem But.trans {R:Nat} {a b c:World} (h:But R a b) (k:But R b c):But R a c :=
 ⟨k.os.trans h.os,k.tape.trans h.tape,k.output.trans h.output,Nat.le_trans h.size k.size,fun i hi hr=>(k.block i (Nat.lt_of_lt_of_le hi h.size) hr).trans (h.block i hi hr)⟩
theorem But.setCell {R:Nat} {a b:World} (h:But R a b) (j:Nat) (u:Value):But R a (b.setCell ⟨R,j,none⟩ u) :=
 h.trans ⟨rfl,rfl,rfl,by simp [World.setCell],fun k _ hr=>Below.heap_setCell _ _ _ _ (fun e=>hr (by rw [e]))⟩
theorem But.cell {R:Nat} {a b:World} (h:But R a b) {p:Addr} {v:Value} (hc:a.cell? p=some v) (hne:p.block≠R):b.cell? p=some v :=
 World.grownBy.cell h hc (fun e=>hne (by simpa using e))
theorem Tryz.info5:(Tryz.prog.info? 5).map (fun i=>(i.zero,i.size,i.bytes))=some (some (.int .u8 0),1,1):=by kernel_rfl
theorem str_take (r:List UInt8) (n:Nat):(str r).extract 0 n=str (r.take n):=by
 apply ByteArray.ext
 simp [str]
theorem str_drop (r:List UInt8) (n:Nat):(str r).extract n (str r).size=str (r.drop n):=by
 apply ByteArray.ext
 simp [str,ByteArray.size]
 exact List.take_of_length_le (by simp)
theorem str_app (p q:List UInt8):str p++str q=str (p++q):=by
 apply ByteArray.ext
 simp [str]
theorem str_of (s:ByteArray):str s.data.toList=s:=by
 apply ByteArray.ext
 simp [str]
theorem str_at (l:List UInt8) (i:Nat) (h:i < (str l).size):(str l)[i]=l[i]'(by rw [str_size] at h;exact h):=by
 simp [str]
 rfl
end Go.Proofs.YtekcjfdllclphaaGreatDoor.gn
end
section
namespace Go.Proofs.YtekcjfdllclphaaGreatDoor.un
open Go.Lib
def dig (b:UInt8):Bool:=decide (48≤b.toNat∧b.toNat≤57)
theorem digitVal_dig {b:UInt8}:digitVal b=if dig b then some (b.toNat - 48) else none:=by
 unfold digitVal dig
 by_cases h:48≤b.toNat∧b.toNat≤57
 ·rw [if_pos h,if_pos (by simpa using h)]
 ·rw [if_neg h,if_neg (by simpa using h)]
theorem digitVal_some {b:UInt8} {d:Nat} (h:digitVal b=some d):dig b=true∧b=UInt8.ofNat (48+d)∧d < 10:=by
 obtain ⟨h1,h2,rfl⟩:=digitVal_eq h
 refine ⟨by simp [dig,h1,h2],?_,by omega⟩
 apply UInt8.toNat_inj.1
 rw [show 48+(b.toNat - 48)=b.toNat by omega]
 simp
theorem dig_ofNat {d:Nat} (h:d < 10):digitVal (UInt8.ofNat (48+d))=some d:=by
 unfold digitVal
 have e:(UInt8.ofNat (48+d)).toNat=48+d:=by
  rw [UInt8.toNat_ofNat_of_lt']
  exact Nat.lt_of_lt_of_le (show 48+d < 58 by omega) (by decide)
 rw [e,if_pos (by omega)]
 congr 1
 omega
theorem decFrom_app:∀ (l r:List UInt8) (acc:Nat),decFrom acc (l++r)=(decFrom acc l).bind fun m=>decFrom m r
 | [],r,acc=>rfl
 | b::l,r,acc=>by
  simp only [List.cons_append,decFrom]
  cases digitVal b with
  | none=>rfl
  | some d=>exact decFrom_app l r _
theorem decFrom_one (acc:Nat) (b:UInt8):decFrom acc [b]=(digitVal b).map fun d=>acc * 10+d:=by
 simp only [decFrom]
 cases digitVal b <;> rfl
theorem dec_small {n:Nat} (h:n < 10):decDigits n=[UInt8.ofNat (48+n)]:=decDigits_one h
theorem dec_big {n:Nat} (h:¬ n < 10):decDigits n=decDigits (n / 10)++[UInt8.ofNat (48+n % 10)]:=by rw [decDigits,dif_neg h]
theorem dec_ne (n:Nat):decDigits n≠[]:=by
 intro h
 have:=decDigits_length n
 rw [h] at this
 have:=nDigits_pos n
 simp at *
 omega
theorem from_dec (n:Nat):decFrom 0 (decDigits n)=some n:=by
 induction n using Nat.strongRecOn with
 | _ n ih =>
  by_cases h:n < 10
  ·rw [dec_small h,decFrom_one,dig_ofNat h]
   simp
  ·rw [dec_big h,decFrom_app,ih (n / 10) (by omega)]
   show decFrom (n / 10) [_]=_
   rw [decFrom_one,dig_ofNat (Nat.mod_lt _ (by decide))]
   simp
   omega
def lead (l:List UInt8):Prop:=1 < l.length→l.head?≠some 48
theorem dec_head {n:Nat} (h:0 < n):(decDigits n).head?≠some 48:=by
 induction n using Nat.strongRecOn with
 | _ n ih =>
  by_cases hn:n < 10
  ·rw [dec_small hn]
   intro hc
   simp only [List.head?_cons,Option.some.injEq] at hc
   have:=congrArg digitVal hc
   rw [dig_ofNat hn,show digitVal 48=some 0 from rfl] at this
   simp at this
   omega
  ·rw [dec_big hn,List.head?_append]
   have h1:=ih (n / 10) (by omega) (by omega)
   cases hd:(decDigits (n / 10)).head? with
   | none=>exact absurd (List.head?_eq_none_iff.1 hd) (dec_ne _)
   | some b =>
    rw [hd] at h1
    simpa using h1
theorem dec_lead (n:Nat):lead (decDigits n):=by
 intro hl
 by_cases h:n < 10
 ·rw [dec_small h] at hl
  simp at hl
 ·exact dec_head (by omega)
theorem dec_from_rev:∀ (k:Nat) (l:List UInt8) (n:Nat),l.length=k→l≠[]→lead l→decFrom 0 l=some n→decDigits n=l∧(l.head?≠some 48→0 < n)
 | 0,l,n,hk,hne,_,_=>absurd (List.eq_nil_of_length_eq_zero hk) hne
 | k+1,l,n,hk,hne,hld,h=>by
  obtain ⟨l',c,rfl⟩:∃ l' c,l=l'++[c]:=⟨l.dropLast,l.getLast hne,(List.dropLast_concat_getLast hne).symm⟩
  rw [decFrom_app] at h
  cases hm:decFrom 0 l' with
  | none=>rw [hm] at h;simp at h
  | some m =>
   rw [hm] at h
   simp only [Option.bind_some,decFrom_one] at h
   cases hd:digitVal c with
   | none=>rw [hd] at h;simp at h
   | some d =>
    rw [hd] at h
    simp only [Option.map_some,Option.some.injEq] at h
    obtain ⟨_,hc,hd10⟩:=digitVal_some hd
    by_cases hl':l'=[]
    ·subst hl'
     simp only [decFrom,Option.some.injEq] at hm
     subst hm
     have hn:n=d:=by omega
     subst hn
     refine ⟨by rw [dec_small hd10,hc];rfl,fun hh=>?_⟩
     rcases Nat.eq_zero_or_pos n with h0 | h0
     ·subst h0
      exact absurd (by rw [hc];rfl) hh
     ·exact h0
    ·have hlen:1≤l'.length:=by
      cases l' with
      | nil=>exact absurd rfl hl'
      | cons _ _=>simp
     have hh:(l'++[c]).head?≠some 48:=hld (by simp;omega)
     have hh':l'.head?≠some 48:=by
      cases l' with
      | nil=>exact absurd rfl hl'
      | cons _ _=>simpa using hh
     obtain ⟨e1,e2⟩:=dec_from_rev k l' m (by simp at hk;omega) hl' (fun _=>hh') hm
     have hm0:=e2 hh'
     refine ⟨?_,fun _=>by omega⟩
     rw [dec_big (by omega),show n / 10=m by omega,show n % 10=d by omega,e1,hc]
theorem dec_from {l:List UInt8} {n:Nat} (hne:l≠[]) (hld:lead l) (h:decFrom 0 l=some n):decDigits n=l:=(dec_from_rev l.length l n rfl hne hld h).1
def top:Nat:=1099511627776
def num? (l:List UInt8):Option Nat:=if l=[]∨13 < l.length∨(1 < l.length∧l.head?=some 48) then none else
 match decFrom 0 l with
 | some n=>if n≤top then some n else none
 | none=>none
theorem num_some {l:List UInt8} {n:Nat} (h:num? l=some n):l≠[]∧l.length≤13∧decFrom 0 l=some n∧n≤top∧decDigits n=l:=by
 unfold num? at h
 split at h
 ·cases h
 ·rename_i hc
  have h1:¬ l=[]:=fun e=>hc (.inl e)
  have h2:¬ 13 < l.length:=fun e=>hc (.inr (.inl e))
  have h3:lead l:=fun a b=>hc (.inr (.inr ⟨a,b⟩))
  split at h
  ·rename_i m hm
   split at h
   ·rename_i ht
    simp only [Option.some.injEq] at h
    subst h
    exact ⟨h1,by omega,hm,ht,dec_from h1 h3 hm⟩
   ·cases h
  ·cases h
theorem nDigits_top {n:Nat} (h:n≤top):nDigits n≤13:=by
 rcases Nat.lt_or_ge 13 (nDigits n) with h1 | h1
 ·exfalso
  have e:=decDigits_length n
  have h2:10 ^ 13≤n:=by
   rcases Nat.lt_or_ge n (10 ^ 13) with h3 | h3
   ·exfalso
    have key:∀ (k m:Nat),m < 10 ^ (k+1)→nDigits m≤k+1:=by
     intro k
     induction k with
     | zero=>intro m hm;rw [nDigits_small (by simpa using hm)];exact Nat.le_refl _
     | succ k ih =>
      intro m hm
      by_cases hs:m < 10
      ·rw [nDigits_small hs];omega
      ·rw [nDigits_big hs]
       have:=ih (m / 10) (by rw [Nat.pow_succ] at hm;omega)
       omega
    have:=key 12 n h3
    omega
   ·exact h3
  unfold top at h
  omega
 ·exact h1
theorem num_dec {n:Nat} (h:n≤top):num? (decDigits n)=some n:=by
 unfold num?
 rw [if_neg,from_dec n]
 ·simp [h]
 ·rintro (h1 | h1 | ⟨h1,h2⟩)
  ·exact dec_ne n h1
  ·rw [decDigits_length] at h1
   have:=nDigits_top h
   omega
  ·exact dec_lead n h1 h2
theorem num_iff {l:List UInt8} {n:Nat}:num? l=some n↔n≤top∧decDigits n=l :=
 ⟨fun h=>⟨(num_some h).2.2.2.1,(num_some h).2.2.2.2⟩,fun ⟨h1,h2⟩=>h2 ▸ num_dec h1⟩
theorem num_none_long {l:List UInt8} (h:13 < l.length):num? l=none:=by
 unfold num?
 rw [if_pos (.inr (.inl h))]
def txt (n:Int):List UInt8:=if 0≤n∧n≤1099511627776 then decDigits n.toNat else []
theorem txt_in {n:Nat} (h:n≤top):txt (n:Int)=decDigits n:=by
 unfold txt
 unfold top at h
 rw [if_pos (by omega)]
 rfl
theorem txt_out {n:Int} (h:¬ (0≤n∧n≤1099511627776)):txt n=[]:=by
 unfold txt
 rw [if_neg h]
theorem parse_short {l:List UInt8} (h:l.length≤13):parseIntB 64 l=NumEnd.ofOption (atoi l):=by
 rw [parseIntB_64,atoiAll_short l (by omega)]
theorem num_of_atoi_none {l:List UInt8} (h:atoi l=none):num? l=none:=by
 cases hn:num? l with
 | none=>rfl
 | some n =>
  exfalso
  obtain ⟨h1,_,h3,_,h5⟩:=num_some hn
  cases l with
  | nil=>exact h1 rfl
  | cons b r =>
   have hb:∃ d,digitVal b=some d:=digit_of_decFrom _ _ _ h3 0 b rfl
   obtain ⟨d,hd⟩:=hb
   obtain ⟨_,hbe,hd10⟩:=digitVal_some hd
   obtain ⟨g1,g2,_⟩:=digitVal_eq hd
   have n45:(b == 45)=false:=by
    rw [beq_eq_false_iff_ne]
    intro e
    subst e
    exact absurd g1 (by decide)
   have n43:(b == 43)=false:=by
    rw [beq_eq_false_iff_ne]
    intro e
    subst e
    exact absurd g1 (by decide)
   simp [atoi,n45,n43,decNat,h3] at h
theorem num_of_atoi {l:List UInt8} {n:Int} (h:atoi l=some n) (hl:l.length≤13):num? l=if txt n=l then some n.toNat else none:=by
 by_cases hq:0≤n∧n≤1099511627776
 ·unfold txt
  rw [if_pos hq]
  by_cases he:decDigits n.toNat=l
  ·rw [if_pos he]
   exact num_iff.2 ⟨by unfold top;omega,he⟩
  ·rw [if_neg he]
   cases hn:num? l with
   | none=>rfl
   | some m =>
    exfalso
    obtain ⟨h1,_,h3,h4,h5⟩:=num_some hn
    have:n=(m:Int):=by
     cases l with
     | nil=>exact absurd rfl h1
     | cons b r =>
      have hb:∃ d,digitVal b=some d:=digit_of_decFrom _ _ _ h3 0 b rfl
      obtain ⟨d,hd⟩:=hb
      obtain ⟨g1,g2,_⟩:=digitVal_eq hd
      have n45:(b == 45)=false:=by
       rw [beq_eq_false_iff_ne]
       intro e
       subst e
       exact absurd g1 (by decide)
      have n43:(b == 43)=false:=by
       rw [beq_eq_false_iff_ne]
       intro e
       subst e
       exact absurd g1 (by decide)
      simp [atoi,n45,n43,decNat,h3] at h
      exact h.symm
    subst this
    exact he (by simpa using h5)
 ·rw [txt_out hq]
  have hne:l≠[]:=by
   rintro rfl
   simp [atoi] at h
  rw [if_neg (fun e=>hne e.symm)]
  cases hn:num? l with
  | none=>rfl
  | some m =>
   exfalso
   obtain ⟨h1,_,h3,h4,h5⟩:=num_some hn
   have:n=(m:Int):=by
    cases l with
    | nil=>exact absurd rfl h1
    | cons b r =>
     have hb:∃ d,digitVal b=some d:=digit_of_decFrom _ _ _ h3 0 b rfl
     obtain ⟨d,hd⟩:=hb
     obtain ⟨g1,g2,_⟩:=digitVal_eq hd
     have n45:(b == 45)=false:=by
      rw [beq_eq_false_iff_ne]
      intro e
      subst e
      exact absurd g1 (by decide)
     have n43:(b == 43)=false:=by
      rw [beq_eq_false_iff_ne]
      intro e
      subst e
      exact absurd g1 (by decide)
     simp [atoi,n45,n43,decNat,h3] at h
     exact h.symm
   unfold top at h4
   omega
end Go.Proofs.YtekcjfdllclphaaGreatDoor.un
end
section
namespace Go.Proofs.YtekcjfdllclphaaGreatDoor.un
open Go.Lib
def unitsL:List (List UInt8 × Nat):=[([84,105,66],1099511627776),([71,105,66],1073741824),([77,105,66],1048576),([75,105,66],1024),([84,66],1000000000000),([71,66],1000000000),([77,66],1000000),([75,66],1000)]
def nm (k:Nat):List UInt8:=(unitsL.getD k ([],1)).1
def sz (k:Nat):Nat:=(unitsL.getD k ([],1)).2
def spl (l:List UInt8):List UInt8 × Nat:=match unitsL.find? fun p=>hasSuffix l p.1 with
 | some p=>(trimSuffix l p.1,p.2)
 | none=>(l,1)
theorem lt8 {k:Nat} (h:k < 8):k=0∨k=1∨k=2∨k=3∨k=4∨k=5∨k=6∨k=7:=by omega
theorem sz_bd {k:Nat} (h:k < 8):0 < sz k∧sz k≤top:=by
 rcases lt8 h with rfl | rfl | rfl | rfl | rfl | rfl | rfl | rfl <;> decide
theorem spl_at {l:List UInt8} {k:Nat} (hk:k < 8) (hno:∀ i,i < k→hasSuffix l (nm i)=false) (hy:hasSuffix l (nm k)=true):spl l=(trimSuffix l (nm k),sz k):=by
 rcases lt8 hk with rfl | rfl | rfl | rfl | rfl | rfl | rfl | rfl
 ·have e:hasSuffix l [84,105,66]=true:=hy
  simp [spl,unitsL,e,nm,sz]
 ·have e0:hasSuffix l [84,105,66]=false:=hno 0 (by omega)
  have e:hasSuffix l [71,105,66]=true:=hy
  simp [spl,unitsL,List.find?,e0,e,nm,sz]
 ·have e0:hasSuffix l [84,105,66]=false:=hno 0 (by omega)
  have e1:hasSuffix l [71,105,66]=false:=hno 1 (by omega)
  have e:hasSuffix l [77,105,66]=true:=hy
  simp [spl,unitsL,List.find?,e0,e1,e,nm,sz]
 ·have e0:hasSuffix l [84,105,66]=false:=hno 0 (by omega)
  have e1:hasSuffix l [71,105,66]=false:=hno 1 (by omega)
  have e2:hasSuffix l [77,105,66]=false:=hno 2 (by omega)
  have e:hasSuffix l [75,105,66]=true:=hy
  simp [spl,unitsL,List.find?,e0,e1,e2,e,nm,sz]
 ·have e0:hasSuffix l [84,105,66]=false:=hno 0 (by omega)
  have e1:hasSuffix l [71,105,66]=false:=hno 1 (by omega)
  have e2:hasSuffix l [77,105,66]=false:=hno 2 (by omega)
  have e3:hasSuffix l [75,105,66]=false:=hno 3 (by omega)
  have e:hasSuffix l [84,66]=true:=hy
  simp [spl,unitsL,List.find?,e0,e1,e2,e3,e,nm,sz]
 ·have e0:hasSuffix l [84,105,66]=false:=hno 0 (by omega)
  have e1:hasSuffix l [71,105,66]=false:=hno 1 (by omega)
  have e2:hasSuffix l [77,105,66]=false:=hno 2 (by omega)
  have e3:hasSuffix l [75,105,66]=false:=hno 3 (by omega)
  have e4:hasSuffix l [84,66]=false:=hno 4 (by omega)
  have e:hasSuffix l [71,66]=true:=hy
  simp [spl,unitsL,List.find?,e0,e1,e2,e3,e4,e,nm,sz]
 ·have e0:hasSuffix l [84,105,66]=false:=hno 0 (by omega)
  have e1:hasSuffix l [71,105,66]=false:=hno 1 (by omega)
  have e2:hasSuffix l [77,105,66]=false:=hno 2 (by omega)
  have e3:hasSuffix l [75,105,66]=false:=hno 3 (by omega)
  have e4:hasSuffix l [84,66]=false:=hno 4 (by omega)
  have e5:hasSuffix l [71,66]=false:=hno 5 (by omega)
  have e:hasSuffix l [77,66]=true:=hy
  simp [spl,unitsL,List.find?,e0,e1,e2,e3,e4,e5,e,nm,sz]
 ·have e0:hasSuffix l [84,105,66]=false:=hno 0 (by omega)
  have e1:hasSuffix l [71,105,66]=false:=hno 1 (by omega)
  have e2:hasSuffix l [77,105,66]=false:=hno 2 (by omega)
  have e3:hasSuffix l [75,105,66]=false:=hno 3 (by omega)
  have e4:hasSuffix l [84,66]=false:=hno 4 (by omega)
  have e5:hasSuffix l [71,66]=false:=hno 5 (by omega)
  have e6:hasSuffix l [77,66]=false:=hno 6 (by omega)
  have e:hasSuffix l [75,66]=true:=hy
  simp [spl,unitsL,List.find?,e0,e1,e2,e3,e4,e5,e6,e,nm,sz]
theorem spl_none {l:List UInt8} (hno:∀ i,i < 8→hasSuffix l (nm i)=false):spl l=(l,1):=by
 have e0:hasSuffix l [84,105,66]=false:=hno 0 (by omega)
 have e1:hasSuffix l [71,105,66]=false:=hno 1 (by omega)
 have e2:hasSuffix l [77,105,66]=false:=hno 2 (by omega)
 have e3:hasSuffix l [75,105,66]=false:=hno 3 (by omega)
 have e4:hasSuffix l [84,66]=false:=hno 4 (by omega)
 have e5:hasSuffix l [71,66]=false:=hno 5 (by omega)
 have e6:hasSuffix l [77,66]=false:=hno 6 (by omega)
 have e7:hasSuffix l [75,66]=false:=hno 7 (by omega)
 simp [spl,unitsL,List.find?,e0,e1,e2,e3,e4,e5,e6,e7]
theorem spl_cases (l:List UInt8):(∃ k,k < 8∧hasSuffix l (nm k)=true∧spl l=(trimSuffix l (nm k),sz k))∨((∀ i,i < 8→hasSuffix l (nm i)=false)∧spl l=(l,1)):=by
 by_cases h:∀ i,i < 8→hasSuffix l (nm i)=false
 ·exact .inr ⟨h,spl_none h⟩
 ·left
  have key:∀ m,m≤8→(∀ i,i < m→hasSuffix l (nm i)=false)∨∃ k,k < m∧(∀ i,i < k→hasSuffix l (nm i)=false)∧hasSuffix l (nm k)=true:=by
   intro m
   induction m with
   | zero=>intro _;exact .inl fun i hi=>by omega
   | succ m ih =>
    intro hm
    rcases ih (by omega) with h1 | ⟨k,h1,h2,h3⟩
    ·cases hc:hasSuffix l (nm m) with
     | true=>exact .inr ⟨m,by omega,h1,hc⟩
     | false =>
      refine .inl fun i hi=>?_
      rcases Nat.lt_or_ge i m with h4 | h4
      ·exact h1 i h4
      ·rw [show i=m by omega];exact hc
    ·exact .inr ⟨k,by omega,h2,h3⟩
  rcases key 8 (Nat.le_refl _) with h1 | ⟨k,h1,h2,h3⟩
  ·exact absurd h1 h
  ·exact ⟨k,h1,h3,spl_at h1 h2 h3⟩
theorem spl_bd (l:List UInt8):0 < (spl l).2∧(spl l).2≤top:=by
 rcases spl_cases l with ⟨k,hk,_,h⟩ | ⟨_,h⟩
 ·rw [h];exact sz_bd hk
 ·rw [h];show 0 < 1∧1≤top;decide
theorem trim_le (l u:List UInt8):(trimSuffix l u).length≤l.length:=by
 unfold trimSuffix
 split
 ·rw [List.length_take];omega
 ·exact Nat.le_refl _
theorem spl_len (l:List UInt8):(spl l).1.length≤l.length:=by
 rcases spl_cases l with ⟨k,hk,_,h⟩ | ⟨_,h⟩
 ·rw [h];exact trim_le _ _
 ·rw [h];exact Nat.le_refl _
theorem suffix_app {l u:List UInt8} (h:hasSuffix l u=true):l=trimSuffix l u++u:=by
 unfold trimSuffix
 rw [if_pos h]
 unfold hasSuffix at h
 obtain ⟨a,rfl⟩:=List.isSuffixOf_iff_suffix.1 h
 simp
theorem suffix_of (a u:List UInt8):hasSuffix (a++u) u=true:=by
 unfold hasSuffix
 rw [List.isSuffixOf_iff_suffix]
 exact List.suffix_append _ _
theorem trim_app (a u:List UInt8):trimSuffix (a++u) u=a:=by
 unfold trimSuffix
 rw [if_pos (suffix_of a u)]
 simp
theorem apart_fin:∀ i j:Fin 8,(nm i.val).isSuffixOf (nm j.val)=true→i=j:=by decide
theorem suffix_one {l:List UInt8} {i j:Nat} (hi:i < 8) (hj:j < 8) (h1:hasSuffix l (nm i)=true) (h2:hasSuffix l (nm j)=true):i=j:=by
 unfold hasSuffix at h1 h2
 rw [List.isSuffixOf_iff_suffix] at h1 h2
 rcases Nat.le_total (nm i).length (nm j).length with h | h
 ·have:=List.suffix_of_suffix_length_le h1 h2 h
  have:=apart_fin ⟨i,hi⟩ ⟨j,hj⟩ (List.isSuffixOf_iff_suffix.2 this)
  simpa using this
 ·have:=List.suffix_of_suffix_length_le h2 h1 h
  have:=apart_fin ⟨j,hj⟩ ⟨i,hi⟩ (List.isSuffixOf_iff_suffix.2 this)
  have:j=i:=by simpa using this
  exact this.symm
def size? (l:List UInt8):Option Nat:=match num? (spl l).1 with
 | some n=>if n≤top / (spl l).2 then some (n * (spl l).2) else none
 | none=>none
def byL:List (List UInt8 × Nat):=[([],1),([75,66],1000),([77,66],1000000),([71,66],1000000000),([84,66],1000000000000),([75,105,66],1024),([77,105,66],1048576),([71,105,66],1073741824),([84,105,66],1099511627776)]
def by_ (u:List UInt8):Nat:=match byL.find? fun p=>p.1 == u with
 | some p=>p.2
 | none=>0
theorem by_nil:by_ []=1:=rfl
theorem by_nm {k:Nat} (h:k < 8):by_ (nm k)=sz k:=by
 rcases lt8 h with rfl | rfl | rfl | rfl | rfl | rfl | rfl | rfl <;> decide
theorem by_other {u:List UInt8} (h:u≠[]) (hn:∀ k,k < 8→nm k≠u):by_ u=0:=by
 have e0:(([]:List UInt8) == u)=false:=by rw [beq_eq_false_iff_ne];exact fun e=>h e.symm
 have e1:(([75,66]:List UInt8) == u)=false:=by rw [beq_eq_false_iff_ne];exact hn 7 (by omega)
 have e2:(([77,66]:List UInt8) == u)=false:=by rw [beq_eq_false_iff_ne];exact hn 6 (by omega)
 have e3:(([71,66]:List UInt8) == u)=false:=by rw [beq_eq_false_iff_ne];exact hn 5 (by omega)
 have e4:(([84,66]:List UInt8) == u)=false:=by rw [beq_eq_false_iff_ne];exact hn 4 (by omega)
 have e5:(([75,105,66]:List UInt8) == u)=false:=by rw [beq_eq_false_iff_ne];exact hn 3 (by omega)
 have e6:(([77,105,66]:List UInt8) == u)=false:=by rw [beq_eq_false_iff_ne];exact hn 2 (by omega)
 have e7:(([71,105,66]:List UInt8) == u)=false:=by rw [beq_eq_false_iff_ne];exact hn 1 (by omega)
 have e8:(([84,105,66]:List UInt8) == u)=false:=by rw [beq_eq_false_iff_ne];exact hn 0 (by omega)
 simp [by_,byL,List.find?,e0,e1,e2,e3,e4,e5,e6,e7,e8]
theorem by_le (u:List UInt8):by_ u≤top:=by
 by_cases h:u=[]
 ·subst h;decide
 ·by_cases hk:∃ k,k < 8∧nm k=u
  ·obtain ⟨k,hk,rfl⟩:=hk
   rw [by_nm hk]
   exact (sz_bd hk).2
  ·rw [by_other h fun k hk' e=>hk ⟨k,hk',e⟩]
   exact Nat.zero_le _
def dsize (l:List UInt8):Option Nat:=match num? (l.takeWhile dig) with
 | some n=>if by_ (l.dropWhile dig)=0∨top / by_ (l.dropWhile dig) < n then none else some (n * by_ (l.dropWhile dig))
 | none=>none
theorem tw_app {f u:List UInt8} (hf:∀ b∈f,dig b=true) (hu:∀ b r,u=b::r→dig b=false):(f++u).takeWhile dig=f∧(f++u).dropWhile dig=u:=by
 induction f with
 | nil =>
  cases u with
  | nil=>exact ⟨rfl,rfl⟩
  | cons b r =>
   have:=hu b r rfl
   simp [this]
 | cons a f ih =>
  have h1:=hf a (by simp)
  obtain ⟨e1,e2⟩:=ih fun b hb=>hf b (by simp [hb])
  simp only [List.cons_append,List.takeWhile_cons,List.dropWhile_cons,h1,if_true]
  exact ⟨by rw [e1],e2⟩
theorem nm_head {k:Nat} (h:k < 8):∀ b r,nm k=b::r→dig b=false:=by
 rcases lt8 h with rfl | rfl | rfl | rfl | rfl | rfl | rfl | rfl <;>
 ·intro b r e
  have:b=_:=(List.cons.inj e).1.symm
  subst this
  decide
theorem nm_last {k:Nat} (h:k < 8):∃ a,nm k=a++[66]:=by
 rcases lt8 h with rfl | rfl | rfl | rfl | rfl | rfl | rfl | rfl
 ·exact ⟨[84,105],rfl⟩
 ·exact ⟨[71,105],rfl⟩
 ·exact ⟨[77,105],rfl⟩
 ·exact ⟨[75,105],rfl⟩
 ·exact ⟨[84],rfl⟩
 ·exact ⟨[71],rfl⟩
 ·exact ⟨[77],rfl⟩
 ·exact ⟨[75],rfl⟩
theorem num_dig {l:List UInt8} {n:Nat} (h:num? l=some n):∀ b∈l,dig b=true:=by
 intro b hb
 obtain ⟨k,hk,rfl⟩:=List.getElem_of_mem hb
 obtain ⟨d,hd⟩:=digit_of_decFrom _ _ _ (num_some h).2.2.1 k l[k] (List.getElem?_eq_getElem hk)
 exact (digitVal_some hd).1
theorem dec_dig (n:Nat):∀ b∈decDigits n,dig b=true:=by
 intro b hb
 obtain ⟨k,hk,rfl⟩:=List.getElem_of_mem hb
 obtain ⟨d,hd⟩:=digit_of_decFrom _ _ _ (from_dec n) k (decDigits n)[k] (List.getElem?_eq_getElem hk)
 exact (digitVal_some hd).1
theorem tw_mem:∀ (l:List UInt8) (b:UInt8),b∈l.takeWhile dig→dig b=true
 | [],b,h=>by simp at h
 | a::l,b,h=>by
  rw [List.takeWhile_cons] at h
  split at h
  ·rename_i ha
   rcases List.mem_cons.1 h with rfl | h
   ·exact ha
   ·exact tw_mem l b h
  ·simp at h
theorem tw_all {l:List UInt8} (h:l.dropWhile dig=[]):∀ b∈l,dig b=true:=by
 intro b hb
 have e:=List.takeWhile_append_dropWhile (p:=dig) (l:=l)
 rw [h,List.append_nil] at e
 rw [←e] at hb
 exact tw_mem l b hb
theorem size_eq (l:List UInt8):dsize l=size? l:=by
 have E:=List.takeWhile_append_dropWhile (p:=dig) (l:=l)
 rcases spl_cases l with ⟨k,hk,hs,h⟩ | ⟨hno,h⟩
 ·unfold size?
  rw [h]
  dsimp only
  have hl:=suffix_app hs
  cases hn:num? (trimSuffix l (nm k)) with
  | none =>
   unfold dsize
   cases hm:num? (l.takeWhile dig) with
   | none=>rfl
   | some m =>
    dsimp only
    rw [if_pos]
    left
    apply by_other
    ·intro e
     obtain ⟨a,ha⟩:=nm_last hk
     have:=tw_all e 66 (by rw [hl,ha];simp)
     exact absurd this (by decide)
    ·intro j hj e
     have h2:hasSuffix l (nm j)=true:=by
      rw [←E,← e];exact suffix_of _ _
     have:=suffix_one hj hk h2 hs
     subst this
     have h3:=hl
     rw [←E,← e,trim_app] at h3
     have h4:=List.append_cancel_right (E.trans hl |>.symm ▸ by rw [e]:l.takeWhile dig++nm j=trimSuffix l (nm j)++nm j)
     rw [h4,hn] at hm
     cases hm
  | some n =>
   obtain ⟨e1,e2⟩:=tw_app (num_dig hn) (nm_head hk)
   rw [←hl] at e1 e2
   unfold dsize
   rw [e1,e2,hn,by_nm hk]
   dsimp only
   have:=sz_bd hk
   by_cases hc:n≤top / sz k
   ·rw [if_pos hc,if_neg (by omega)]
   ·rw [if_neg hc,if_pos (.inr (by omega))]
 ·unfold size?
  rw [h]
  dsimp only
  by_cases hd:l.dropWhile dig=[]
  ·rw [hd,List.append_nil] at E
   unfold dsize
   rw [E,hd,by_nil]
   cases hn:num? l with
   | none=>rfl
   | some n =>
    dsimp only
    have:=(num_some hn).2.2.2.1
    rw [Nat.div_one,if_pos this,if_neg (by omega)]
  ·have hn:num? l=none:=by
    cases hn:num? l with
    | none=>rfl
    | some n =>
     exfalso
     obtain ⟨e1,e2⟩:=tw_app (f:=l) (u:=[]) (num_dig hn) (fun b r e=>by cases e)
     rw [List.append_nil] at e2
     exact hd e2
   rw [hn]
   unfold dsize
   cases hm:num? (l.takeWhile dig) with
   | none=>rfl
   | some m =>
    dsimp only
    rw [if_pos]
    left
    apply by_other hd
    intro j hj e
    have:=hno j hj
    rw [←E,← e,suffix_of] at this
    cases this
theorem size_unit {k m:Nat} (hk:k < 8) (hm:m≤top):size? (decDigits m++nm k)=if m≤top / sz k then some (m * sz k) else none:=by
 rw [←size_eq]
 obtain ⟨e1,e2⟩:=tw_app (dec_dig m) (nm_head hk)
 unfold dsize
 rw [e1,e2,num_dec hm,by_nm hk]
 dsimp only
 have:=sz_bd hk
 by_cases hc:m≤top / sz k
 ·rw [if_pos hc,if_neg (by omega)]
 ·rw [if_neg hc,if_pos (.inr (by omega))]
theorem size_dec {m:Nat} (hm:m≤top):size? (decDigits m)=some m:=by
 rw [←size_eq]
 obtain ⟨e1,e2⟩:=tw_app (f:=decDigits m) (u:=[]) (dec_dig m) (fun b r e=>by cases e)
 rw [List.append_nil] at e1 e2
 unfold dsize
 rw [e1,e2,num_dec hm,by_nil]
 dsimp only
 rw [Nat.div_one,if_neg (by omega),Nat.mul_one]
theorem size_nil:size? []=none:=by decide
theorem size_le {l:List UInt8} {n:Nat} (h:size? l=some n):n≤top:=by
 unfold size? at h
 split at h
 ·split at h
  ·rename_i hc
   simp only [Option.some.injEq] at h
   rw [←h]
   exact Nat.le_trans (Nat.mul_le_mul_right _ hc) (Nat.div_mul_le_self _ _)
  ·cases h
 ·cases h
def stxt (n:Int):List UInt8:=if 0 < n∧n≤1099511627776 then
  match (unitsL.take 4).find? fun p=>n.toNat % p.2 == 0 with
  | some p=>decDigits (n.toNat / p.2)++p.1
  | none=>decDigits n.toNat
 else txt n
theorem stxt_at {n:Nat} {k:Nat} (h0:0 < n) (ht:n≤top) (hk:k < 4) (hno:∀ i,i < k→n % sz i≠0) (hy:n % sz k=0):stxt (n:Int)=decDigits (n / sz k)++nm k:=by
 unfold top at ht
 unfold stxt
 rw [if_pos (by omega)]
 have hc:k=0∨k=1∨k=2∨k=3:=by omega
 have e0:0 < k→(n % 1099511627776 == 0)=false:=fun hl=>by rw [beq_eq_false_iff_ne];exact hno 0 hl
 have e1:1 < k→(n % 1073741824 == 0)=false:=fun hl=>by rw [beq_eq_false_iff_ne];exact hno 1 hl
 have e2:2 < k→(n % 1048576 == 0)=false:=fun hl=>by rw [beq_eq_false_iff_ne];exact hno 2 hl
 rcases hc with rfl | rfl | rfl | rfl
 ·have e:(n % 1099511627776 == 0)=true:=by rw [beq_iff_eq];exact hy
  simp only [unitsL,List.take,List.find?,Int.toNat_natCast,e]
  rfl
 ·have e:(n % 1073741824 == 0)=true:=by rw [beq_iff_eq];exact hy
  simp only [unitsL,List.take,List.find?,Int.toNat_natCast,e0 (by omega),e]
  rfl
 ·have e:(n % 1048576 == 0)=true:=by rw [beq_iff_eq];exact hy
  simp only [unitsL,List.take,List.find?,Int.toNat_natCast,e0 (by omega),e1 (by omega),e]
  rfl
 ·have e:(n % 1024 == 0)=true:=by rw [beq_iff_eq];exact hy
  simp only [unitsL,List.take,List.find?,Int.toNat_natCast,e0 (by omega),e1 (by omega),e2 (by omega),e]
  rfl
theorem stxt_none {n:Nat} (h0:0 < n) (ht:n≤top) (hno:∀ i,i < 4→n % sz i≠0):stxt (n:Int)=decDigits n:=by
 unfold top at ht
 unfold stxt
 rw [if_pos (by omega)]
 have e0:(n % 1099511627776 == 0)=false:=by rw [beq_eq_false_iff_ne];exact hno 0 (by omega)
 have e1:(n % 1073741824 == 0)=false:=by rw [beq_eq_false_iff_ne];exact hno 1 (by omega)
 have e2:(n % 1048576 == 0)=false:=by rw [beq_eq_false_iff_ne];exact hno 2 (by omega)
 have e3:(n % 1024 == 0)=false:=by rw [beq_eq_false_iff_ne];exact hno 3 (by omega)
 simp only [unitsL,List.take,List.find?,Int.toNat_natCast,e0,e1,e2,e3]
theorem stxt_out {n:Int} (h:¬ (0 < n∧n≤1099511627776)):stxt n=txt n:=by
 unfold stxt
 rw [if_neg h]
theorem stxt_cases {n:Nat} (h0:0 < n) (ht:n≤top):(∃ k,k < 4∧n % sz k=0∧stxt (n:Int)=decDigits (n / sz k)++nm k)∨stxt (n:Int)=decDigits n:=by
 have key:∀ m,m≤4→(∀ i,i < m→n % sz i≠0)∨∃ k,k < m∧(∀ i,i < k→n % sz i≠0)∧n % sz k=0:=by
  intro m
  induction m with
  | zero=>intro _;exact .inl fun i hi=>by omega
  | succ m ih =>
   intro hm
   rcases ih (by omega) with h1 | ⟨k,h1,h2,h3⟩
   ·by_cases hc:n % sz m=0
    ·exact .inr ⟨m,by omega,h1,hc⟩
    ·refine .inl fun i hi=>?_
     rcases Nat.lt_or_ge i m with h4 | h4
     ·exact h1 i h4
     ·rw [show i=m by omega];exact hc
   ·exact .inr ⟨k,by omega,h2,h3⟩
 rcases key 4 (Nat.le_refl _) with h1 | ⟨k,h1,h2,h3⟩
 ·exact .inr (stxt_none h0 ht h1)
 ·exact .inl ⟨k,h1,h3,stxt_at h0 ht h1 h2 h3⟩
theorem size_stxt {n:Nat} (ht:n≤top):size? (stxt (n:Int))=some n:=by
 rcases Nat.eq_zero_or_pos n with rfl | h0
 ·decide +kernel
 ·rcases stxt_cases h0 ht with ⟨k,hk,hd,e⟩ | e
  ·have hb:=sz_bd (show k < 8 by omega)
   have hle:n / sz k≤top:=Nat.le_trans (Nat.div_le_self _ _) ht
   rw [e,size_unit (by omega) hle,if_pos (Nat.div_le_div_right ht),Nat.div_mul_cancel (Nat.dvd_of_mod_eq_zero hd)]
  ·rw [e]
   exact size_dec ht
theorem nm_len {k:Nat} (h:k < 8):(nm k).length≤3:=by
 rcases lt8 h with rfl | rfl | rfl | rfl | rfl | rfl | rfl | rfl <;> decide
theorem dec_len {n:Nat} (h:n≤top):(decDigits n).length≤13:=by
 rw [decDigits_length]
 exact nDigits_top h
theorem txt_len (n:Int):(txt n).length≤13:=by
 unfold txt
 split
 ·exact dec_len (by unfold top;omega)
 ·exact Nat.zero_le _
theorem stxt_len (n:Int):(stxt n).length≤16:=by
 by_cases h:0 < n∧n≤1099511627776
 ·obtain ⟨m,rfl⟩:∃ m:Nat,n=(m:Int):=⟨n.toNat,by omega⟩
  have ht:m≤top:=by unfold top;omega
  rcases stxt_cases (show 0 < m by omega) ht with ⟨k,hk,hd,e⟩ | e
  ·rw [e,List.length_append]
   have h1:=dec_len (Nat.le_trans (Nat.div_le_self m (sz k)) ht)
   have h2:=nm_len (show k < 8 by omega)
   omega
  ·rw [e]
   have:=dec_len ht
   omega
 ·rw [stxt_out h]
  have:=txt_len n
  omega
def wordb (b:UInt8):Bool:=decide (97≤b.toNat∧b.toNat≤122) || decide (65≤b.toNat∧b.toNat≤90) || decide (48≤b.toNat∧b.toNat≤57) || decide (b.toNat=95)
def nmAt (i:Nat) (b:UInt8):Bool:=wordb b || (decide (i≠0) && (decide (b.toNat=45) || decide (b.toNat=46)))
def okFrom:Nat→List UInt8→Bool
 | _,[]=>true
 | i,b::r=>nmAt i b && okFrom (i+1) r
def isName (l:List UInt8):Bool:=decide (1≤l.length) && decide (l.length≤32) && okFrom 0 l
theorem okFrom_drop {l:List UInt8} {i:Nat} (h:i < l.length):okFrom i (l.drop i)=(nmAt i l[i] && okFrom (i+1) (l.drop (i+1))):=by
 rw [List.drop_eq_getElem_cons h,okFrom]
theorem okFrom_end (l:List UInt8) {i:Nat} (h:l.length≤i):okFrom i (l.drop i)=true:=by
 rw [List.drop_eq_nil_of_le h,okFrom]
theorem okFrom_get:∀ (l:List UInt8) (i:Nat),okFrom i l=true→∀ j (hj:j < l.length),nmAt (i+j) l[j]=true
 | [],i,_,j,hj=>by simp at hj
 | b::l,i,h,j,hj=>by
  rw [okFrom,Bool.and_eq_true] at h
  cases j with
  | zero=>exact h.1
  | succ j =>
   have:=okFrom_get l (i+1) h.2 j (by simpa using hj)
   rw [show i+(j+1)=i+1+j by omega]
   simpa using this
theorem name_one {l:List UInt8} (h:isName l=true):1≤l.length∧l.length≤32∧okFrom 0 l=true:=by
 unfold isName at h
 simp only [Bool.and_eq_true,decide_eq_true_eq] at h
 exact ⟨h.1.1,h.1.2,h.2⟩
theorem nmAt_bytes {i:Nat} {b:UInt8} (h:nmAt i b=true):b.toNat≠32∧b.toNat≠61∧b.toNat≠10∧b.toNat≠44∧b.toNat≠58∧b.toNat < 128:=by
 unfold nmAt wordb at h
 simp only [Bool.or_eq_true,Bool.and_eq_true,decide_eq_true_eq] at h
 omega
theorem name_bytes {l:List UInt8} (h:isName l=true) (j:Nat) (hj:j < l.length):l[j].toNat≠32∧l[j].toNat≠61∧l[j].toNat≠10∧l[j].toNat≠44∧l[j].toNat≠58∧l[j].toNat < 128 :=
 nmAt_bytes (okFrom_get l 0 (name_one h).2.2 j hj)
theorem name_high {l:List UInt8} {i:Nat} {b:UInt8} (h:128≤b.toNat):nmAt i b=false:=by
 cases hc:nmAt i b with
 | false=>rfl
 | true =>
  have:=nmAt_bytes hc
  omega
theorem byte_cases (r:Int):r < 45∨r=45∨r=46∨r=47∨(48≤r∧r≤57)∨(58≤r∧r≤64)∨(65≤r∧r≤90)∨(91≤r∧r≤94)∨r=95∨r=96∨(97≤r∧r≤122)∨123≤r:=by omega
end Go.Proofs.YtekcjfdllclphaaGreatDoor.un
end
section
namespace Go.Proofs.YtekcjfdllclphaaGreatDoor.di
open Go.Proofs.YtekcjfdllclphaaGreatDoor.un
abbrev Tx:=List UInt8
def words:Tx→List Tx
 | []=>[[]]
 | b::r=>if b=32 then []::words r else match words r with
  | h::t=>(b::h)::t
  | []=>[[b]]
theorem words_bl (r:Tx):words (32::r)=[]::words r:=by rw [words,if_pos rfl]
theorem words_nb {b:UInt8} (h:b≠32) (r:Tx):words (b::r)=match words r with
  | h::t=>(b::h)::t
  | []=>[[b]]:=by rw [words,if_neg h]
theorem words_ne:∀ l:Tx,words l≠[]
 | []=>by simp [words]
 | b::r=>by
  unfold words
  split
  ·simp
  ·split <;> simp
def joinW:List Tx→Tx
 | []=>[]
 | [a]=>a
 | a::b::r=>a++32::joinW (b::r)
theorem joinW_cons (a:Tx) {L:List Tx} (h:L≠[]):joinW (a::L)=a++32::joinW L:=by
 cases L with
 | nil=>exact absurd rfl h
 | cons b r=>rfl
theorem join_words:∀ l:Tx,joinW (words l)=l
 | []=>rfl
 | b::r=>by
  have ih:=join_words r
  unfold words
  by_cases hb:b=32
  ·rw [if_pos hb,joinW_cons [] (words_ne r),ih,hb]
   rfl
  ·rw [if_neg hb]
   cases hw:words r with
   | nil=>exact absurd hw (words_ne r)
   | cons h t =>
    rw [hw] at ih
    dsimp only
    cases t with
    | nil=>rw [←ih];rfl
    | cons c t =>
     rw [←ih]
     rfl
theorem words_clean:∀ (l:Tx) (w:Tx),w∈words l→(32:UInt8) ∉ w
 | [],w,h=>by
  simp [words] at h
  subst h
  simp
 | b::r,w,h=>by
  have ih:=words_clean r
  unfold words at h
  by_cases hb:b=32
  ·rw [if_pos hb] at h
   rcases List.mem_cons.1 h with rfl | h
   ·simp
   ·exact ih w h
  ·rw [if_neg hb] at h
   cases hw:words r with
   | nil=>exact absurd hw (words_ne r)
   | cons x t =>
    rw [hw] at h ih
    dsimp only at h
    rcases List.mem_cons.1 h with rfl | h
    ·have:=ih x (by simp)
     simp only [List.mem_cons,not_or]
     exact ⟨fun e=>hb e.symm,this⟩
    ·exact ih w (by simp [h])
theorem words_app:∀ (a:Tx) (r:Tx),(32:UInt8) ∉ a→words (a++32::r)=a::words r
 | [],r,_=>by
  exact words_bl r
 | b::a,r,h=>by
  simp only [List.mem_cons,not_or] at h
  have ih:=words_app a r h.2
  show words (b::(a++32::r))=_
  rw [words_nb (fun e=>h.1 e.symm),ih]
theorem words_one:∀ (a:Tx),(32:UInt8) ∉ a→words a=[a]
 | [],_=>rfl
 | b::a,h=>by
  simp only [List.mem_cons,not_or] at h
  rw [words_nb (fun e=>h.1 e.symm),words_one a h.2]
def cut:Tx→Option (Tx × Tx)
 | []=>none
 | b::r=>if b=61 then some ([],r) else (cut r).map fun p=>(b::p.1,p.2)
theorem cut_at:∀ (k v:Tx),(61:UInt8) ∉ k→cut (k++61::v)=some (k,v)
 | [],v,_=>by
  show cut (61::v)=_
  unfold cut
  rw [if_pos rfl]
 | b::k,v,h=>by
  simp only [List.mem_cons,not_or] at h
  show cut (b::(k++61::v))=_
  unfold cut
  rw [if_neg (fun e=>h.1 e.symm),cut_at k v h.2]
  rfl
theorem cut_some:∀ (w k v:Tx),cut w=some (k,v)→w=k++61::v∧(61:UInt8) ∉ k
 | [],k,v,h=>by simp [cut] at h
 | b::r,k,v,h=>by
  unfold cut at h
  by_cases hb:b=61
  ·rw [if_pos hb] at h
   simp only [Option.some.injEq,Prod.mk.injEq] at h
   obtain ⟨rfl,rfl⟩:=h
   subst hb
   simp
  ·rw [if_neg hb] at h
   cases hc:cut r with
   | none=>rw [hc] at h;simp at h
   | some p =>
    obtain ⟨k',v'⟩:=p
    rw [hc] at h
    simp only [Option.map_some,Option.some.injEq,Prod.mk.injEq] at h
    obtain ⟨rfl,rfl⟩:=h
    obtain ⟨e,hn⟩:=cut_some r k' v' hc
    refine ⟨by rw [e];rfl,?_⟩
    simp only [List.mem_cons,not_or]
    exact ⟨fun e=>hb e.symm,hn⟩
theorem cut_none:∀ (w:Tx),cut w=none→(61:UInt8) ∉ w
 | [],_=>by simp
 | b::r,h=>by
  unfold cut at h
  by_cases hb:b=61
  ·rw [if_pos hb] at h
   cases h
  ·rw [if_neg hb] at h
   simp only [Option.map_eq_none_iff] at h
   simp only [List.mem_cons,not_or]
   exact ⟨fun e=>hb e.symm,cut_none r h⟩
def capK:Tx:=[99,97,112,97,99,105,116,121]
def sizeK:Tx:=[115,105,122,101]
def nameK:Tx:=[110,97,109,101]
def poolK:Tx:=[112,111,111,108]
def accK:Tx:=[97,99,99,101,115,115]
def pubV:Tx:=[112,117,98,108,105,99]
def priV:Tx:=[112,114,105,118,97,116,101]
def bbW:Tx:=[35,66,66]
def kindL:List Tx:=[[106,111,98,100,119],[115,116,97,103,101,95,105,110],[115,116,97,103,101,95,111,117,116],
 [99,114,101,97,116,101,95,112,101,114,115,105,115,116,101,110,116],[100,101,115,116,114,111,121,95,112,101,114,115,105,115,116,101,110,116],[117,115,101,95,112,101,114,115,105,115,116,101,110,116]]
def kw (k:Nat):Tx:=kindL.getD (k - 1) []
structure Dir where
 kind:Nat
 name:Tx
 pool:Tx
 size:Int
 opn:Bool
deriving DecidableEq
def Dir.zero:Dir:=⟨0,[],[],0,false⟩
def hasPool (k:Nat):Bool:=k == 1 || k == 4
def hasName (k:Nat):Bool:=decide (4≤k)
def hasSize (k:Nat):Bool:=decide (k≤4)
def szK (k:Nat):Tx:=if hasPool k then capK else sizeK
abbrev Fl:=Tx × Tx
def allow (k:Nat) (key:Tx):Bool:=(hasSize k && key == szK k) || (hasName k && key == nameK) || (hasPool k && key == poolK) || (k == 4 && key == accK)
def okv (key v:Tx):Bool:=if key=capK∨key=sizeK then decide (0 < (size? v).getD 0) else if key=nameK∨key=poolK then isName v else v == pubV || v == priV
def keys (fs:List Fl):List Tx:=fs.map (·.1)
def req (k:Nat):List Tx:=(if hasName k then [nameK] else [])++(if hasSize k then [szK k] else [])++(if hasPool k then [poolK] else [])
def good (k:Nat) (fs:List Fl):Prop:=(keys fs).Nodup∧(∀ f∈fs,allow k f.1=true∧okv f.1 f.2=true)∧∀ r∈req k,r∈keys fs
instance (k:Nat) (fs:List Fl):Decidable (good k fs):=by unfold good;infer_instance
def look (fs:List Fl) (key:Tx):Tx:=match fs.find? fun f=>f.1 == key with
 | some f=>f.2
 | none=>[]
def dirOf (k:Nat) (fs:List Fl):Dir:=⟨k,look fs nameK,look fs poolK,(((size? (look fs (szK k))).getD 0:Nat):Int),look fs accK == pubV⟩
def fields? (k:Nat) (ws:List Tx):Option Dir:=match ws.mapM cut with
 | some fs=>if good k fs then some (dirOf k fs) else none
 | none=>none
def kind? (w:Tx):Option Nat:=(kindL.findIdx? fun x=>x == w).map (·+1)
def line? (l:Tx):Option Dir:=match words l with
 | b::w::ws=>if b=bbW then match kind? w with
  | some k=>fields? k ws
  | none=>none
  else none
 | _=>none
def lerr (l:Tx):Int:=if 500 < l.length then 3 else if (line? l).isSome then 0 else 140
def ldir (l:Tx):Dir:=if 500 < l.length then Dir.zero else (line? l).getD Dir.zero
theorem look_snoc {fs:List Fl} {f:Fl} (h:f.1 ∉ keys fs) (key:Tx):look (fs++[f]) key=if f.1=key then f.2 else look fs key:=by
 unfold look
 rw [List.find?_append]
 by_cases e:f.1=key
 ·rw [if_pos e]
  have hn:fs.find? (fun g=>g.1 == key)=none:=by
   rw [List.find?_eq_none]
   intro g hg hk
   apply h
   rw [e,← (beq_iff_eq.1 hk)]
   exact List.mem_map.2 ⟨g,hg,rfl⟩
  rw [hn]
  simp [e]
 ·rw [if_neg e]
  have:[f].find? (fun g=>g.1 == key)=none:=by simp [e]
  rw [this]
  cases fs.find? (fun g=>g.1 == key) <;> rfl
theorem look_none {fs:List Fl} {key:Tx} (h:key ∉ keys fs):look fs key=[]:=by
 unfold look
 rw [show fs.find? (fun g=>g.1 == key)=none by
  rw [List.find?_eq_none]
  intro g hg hk
  exact h (List.mem_map.2 ⟨g,hg,beq_iff_eq.1 hk⟩)]
theorem look_mem {fs:List Fl} {f:Fl} (hn:(keys fs).Nodup) (h:f∈fs):look fs f.1=f.2:=by
 induction fs with
 | nil=>simp at h
 | cons g fs ih =>
  unfold keys at hn
  rw [List.map_cons,List.nodup_cons] at hn
  unfold look
  rw [List.find?_cons]
  rcases List.mem_cons.1 h with rfl | h
  ·simp
  ·have hne:(g.1 == f.1)=false:=by
    rw [beq_eq_false_iff_ne]
    intro e
    exact hn.1 (List.mem_map.2 ⟨f,h,e.symm⟩)
   rw [hne]
   exact ih hn.2 h
theorem keys_snoc (fs:List Fl) (f:Fl):keys (fs++[f])=keys fs++[f.1]:=by simp [keys]
end Go.Proofs.YtekcjfdllclphaaGreatDoor.di
end
section
namespace Go.Proofs.YtekcjfdllclphaaGreatDoor.di
open Go.Proofs.YtekcjfdllclphaaGreatDoor.un
def dstep (k:Nat) (s:Dir × Bool) (f:Fl):Option (Dir × Bool) :=
 if f.1=szK k then if (size? f.2).getD 0=0∨0 < s.1.size then none else some ({ s.1 with size:=(((size? f.2).getD 0:Nat):Int) },s.2)
 else if f.1=nameK then if s.1.name≠[]∨isName f.2=false then none else some ({ s.1 with name:=f.2 },s.2)
 else if f.1=poolK then if s.1.pool≠[]∨isName f.2=false then none else some ({ s.1 with pool:=f.2 },s.2)
 else if f.1=accK∧k=4 then if s.2=true∨(f.2≠pubV∧f.2≠priV) then none else some ({ s.1 with opn:=f.2 == pubV },true)
 else none
def drun (k:Nat):Dir × Bool→List Tx→Option (Dir × Bool)
 | s,[]=>some s
 | s,w::ws=>match cut w with
  | none=>none
  | some f=>match dstep k s f with
   | none=>none
   | some s'=>drun k s' ws
def chk (d:Dir):Bool:=decide ((1≤d.kind∧d.kind≤6)∧(hasSize d.kind=true↔0 < d.size)∧(0≤d.size∧d.size≤1099511627776)∧(hasName d.kind=true↔isName d.name=true)∧(hasName d.kind=true∨d.name=[]) ∧
 (hasPool d.kind=true↔isName d.pool=true)∧(hasPool d.kind=true∨d.pool=[])∧(d.opn=false∨d.kind=4))
theorem szK_cases (k:Nat):szK k=capK∨szK k=sizeK:=by
 unfold szK
 cases hasPool k
 ·exact .inr rfl
 ·exact .inl rfl
theorem sz_ne (k:Nat):szK k≠nameK∧szK k≠poolK∧szK k≠accK:=by
 rcases szK_cases k with h | h <;> rw [h] <;> decide
theorem okv_sz (k:Nat) (v:Tx):okv (szK k) v=decide (0 < (size? v).getD 0):=by
 unfold okv
 rw [if_pos (szK_cases k)]
theorem okv_name (v:Tx):okv nameK v=isName v:=by
 unfold okv
 rw [if_neg (by decide),if_pos (.inl rfl)]
theorem okv_pool (v:Tx):okv poolK v=isName v:=by
 unfold okv
 rw [if_neg (by decide),if_pos (.inr rfl)]
theorem okv_acc (v:Tx):okv accK v=(v == pubV || v == priV):=by
 unfold okv
 rw [if_neg (by decide),if_neg (by decide)]
theorem isName_nil:isName []=false:=by decide
theorem isName_ne {v:Tx} (h:isName v=true):v≠[]:=by
 rintro rfl
 rw [isName_nil] at h
 cases h
structure Inv (k:Nat) (fs:List Fl) (s:Dir × Bool):Prop where
 nd:(keys fs).Nodup
 ok:∀ f∈fs,okv f.1 f.2=true
 al:∀ f∈fs,f.1=szK k∨f.1=nameK∨f.1=poolK∨(f.1=accK∧k=4)
 dir:s.1=dirOf k fs
 acc:s.2=decide (accK∈keys fs)
theorem Inv.start (k:Nat):Inv k [] (⟨k,[],[],0,false⟩,false):=by
 refine ⟨by simp [keys],by simp,by simp,?_,by simp [keys]⟩
 show _=dirOf k []
 unfold dirOf
 have h:∀ key,look [] key=[]:=fun key=>rfl
 rw [h,h,h,h,size_nil]
 rfl
theorem Inv.val {k:Nat} {fs:List Fl} {s:Dir × Bool} (h:Inv k fs s) {key:Tx} (hk:key∈keys fs):okv key (look fs key)=true:=by
 obtain ⟨f,hf,rfl⟩:=List.mem_map.1 hk
 rw [look_mem h.nd hf]
 exact h.ok f hf
theorem Inv.size {k:Nat} {fs:List Fl} {s:Dir × Bool} (h:Inv k fs s):0 < s.1.size↔szK k∈keys fs:=by
 rw [h.dir]
 show 0 < (((size? (look fs (szK k))).getD 0:Nat):Int)↔_
 constructor
 ·intro hp
  by_cases hm:szK k∈keys fs
  ·exact hm
  ·rw [look_none hm,size_nil] at hp
   simp at hp
 ·intro hm
  have:=h.val hm
  rw [okv_sz,decide_eq_true_eq] at this
  omega
theorem Inv.name {k:Nat} {fs:List Fl} {s:Dir × Bool} (h:Inv k fs s):s.1.name≠[]↔nameK∈keys fs:=by
 rw [h.dir]
 show look fs nameK≠[]↔_
 constructor
 ·intro hp
  by_cases hm:nameK∈keys fs
  ·exact hm
  ·exact absurd (look_none hm) hp
 ·intro hm
  have:=h.val hm
  rw [okv_name] at this
  exact isName_ne this
theorem Inv.pool {k:Nat} {fs:List Fl} {s:Dir × Bool} (h:Inv k fs s):s.1.pool≠[]↔poolK∈keys fs:=by
 rw [h.dir]
 show look fs poolK≠[]↔_
 constructor
 ·intro hp
  by_cases hm:poolK∈keys fs
  ·exact hm
  ·exact absurd (look_none hm) hp
 ·intro hm
  have:=h.val hm
  rw [okv_pool] at this
  exact isName_ne this
theorem Inv.more {k:Nat} {fs:List Fl} {s:Dir × Bool} (h:Inv k fs s) {f:Fl} (hn:f.1 ∉ keys fs) (ho:okv f.1 f.2=true) (ha:f.1=szK k∨f.1=nameK∨f.1=poolK∨(f.1=accK∧k=4)) {s':Dir × Bool}
  (hd:s'.1=dirOf k (fs++[f])) (hb:s'.2=decide (accK∈keys (fs++[f]))):Inv k (fs++[f]) s':=by
 refine ⟨?_,?_,?_,hd,hb⟩
 ·rw [keys_snoc,List.nodup_append]
  refine ⟨h.nd,by simp,?_⟩
  intro a ha b hb e
  simp only [List.mem_singleton] at hb
  subst hb;subst e
  exact hn ha
 ·intro g hg
  rcases List.mem_append.1 hg with hg | hg
  ·exact h.ok g hg
  ·simp only [List.mem_singleton] at hg
   subst hg
   exact ho
 ·intro g hg
  rcases List.mem_append.1 hg with hg | hg
  ·exact h.al g hg
  ·simp only [List.mem_singleton] at hg
   subst hg
   exact ha
theorem Inv.step {k:Nat} {fs:List Fl} {s:Dir × Bool} (h:Inv k fs s) (f:Fl) :
  match dstep k s f with
  | some s'=>Inv k (fs++[f]) s'
  | none=>¬ (f.1 ∉ keys fs∧okv f.1 f.2=true∧(f.1=szK k∨f.1=nameK∨f.1=poolK∨(f.1=accK∧k=4))):=by
 obtain ⟨key,v⟩:=f
 obtain ⟨n1,n2,n3⟩:=sz_ne k
 have m1:nameK≠poolK:=by decide
 have m2:nameK≠accK:=by decide
 have m3:poolK≠accK:=by decide
 by_cases e1:key=szK k
 ·subst e1
  by_cases hb:(size? v).getD 0=0∨0 < s.1.size
  ·have:dstep k s (szK k,v)=none:=by
    unfold dstep
    rw [if_pos rfl,if_pos hb]
   rw [this]
   rintro ⟨hn,ho,_⟩
   rcases hb with hb | hb
   ·rw [okv_sz,hb] at ho
    cases ho
   ·exact hn (h.size.1 hb)
  ·have:dstep k s (szK k,v)=some ({ s.1 with size:=(((size? v).getD 0:Nat):Int) },s.2):=by
    unfold dstep
    rw [if_pos rfl,if_neg hb]
   rw [this]
   have hn:szK k ∉ keys fs:=fun e=>hb (.inr (h.size.2 e))
   refine h.more hn (by rw [okv_sz,decide_eq_true_eq];show 0 < (size? v).getD 0;omega) (.inl rfl) ?_ ?_
   ·rw [h.dir]
    unfold dirOf
    rw [look_snoc hn,look_snoc hn,look_snoc hn,look_snoc hn,if_neg n1,if_neg n2,if_pos rfl,if_neg n3]
   ·rw [keys_snoc,h.acc]
    simp [Ne.symm n3]
 ·by_cases e2:key=nameK
  ·subst e2
   by_cases hb:s.1.name≠[]∨isName v=false
   ·have:dstep k s (nameK,v)=none:=by
     unfold dstep
     rw [if_neg (Ne.symm n1),if_pos rfl,if_pos hb]
    rw [this]
    rintro ⟨hn,ho,_⟩
    rcases hb with hb | hb
    ·exact hn (h.name.1 hb)
    ·rw [okv_name,hb] at ho
     cases ho
   ·have:dstep k s (nameK,v)=some ({ s.1 with name:=v },s.2):=by
     unfold dstep
     rw [if_neg (Ne.symm n1),if_pos rfl,if_neg hb]
    rw [this]
    have hn:nameK ∉ keys fs:=fun e=>hb (.inl (h.name.2 e))
    have hv:isName v=true:=by
     cases hv:isName v with
     | true=>rfl
     | false=>exact absurd (.inr hv) hb
    refine h.more hn (by rw [okv_name];exact hv) (.inr (.inl rfl)) ?_ ?_
    ·rw [h.dir]
     unfold dirOf
     rw [look_snoc hn,look_snoc hn,look_snoc hn,look_snoc hn,if_pos rfl,if_neg m1,if_neg (Ne.symm n1),if_neg m2]
    ·rw [keys_snoc,h.acc]
     simp [Ne.symm m2]
  ·by_cases e3:key=poolK
   ·subst e3
    by_cases hb:s.1.pool≠[]∨isName v=false
    ·have:dstep k s (poolK,v)=none:=by
      unfold dstep
      rw [if_neg (Ne.symm n2),if_neg (Ne.symm m1),if_pos rfl,if_pos hb]
     rw [this]
     rintro ⟨hn,ho,_⟩
     rcases hb with hb | hb
     ·exact hn (h.pool.1 hb)
     ·rw [okv_pool,hb] at ho
      cases ho
    ·have:dstep k s (poolK,v)=some ({ s.1 with pool:=v },s.2):=by
      unfold dstep
      rw [if_neg (Ne.symm n2),if_neg (Ne.symm m1),if_pos rfl,if_neg hb]
     rw [this]
     have hn:poolK ∉ keys fs:=fun e=>hb (.inl (h.pool.2 e))
     have hv:isName v=true:=by
      cases hv:isName v with
      | true=>rfl
      | false=>exact absurd (.inr hv) hb
     refine h.more hn (by rw [okv_pool];exact hv) (.inr (.inr (.inl rfl))) ?_ ?_
     ·rw [h.dir]
      unfold dirOf
      rw [look_snoc hn,look_snoc hn,look_snoc hn,look_snoc hn,if_neg (Ne.symm m1),if_pos rfl,if_neg (Ne.symm n2),if_neg m3]
     ·rw [keys_snoc,h.acc]
      simp [Ne.symm m3]
   ·by_cases e4:key=accK∧k=4
    ·obtain ⟨e4,hk⟩:=e4
     subst e4
     by_cases hb:s.2=true∨(v≠pubV∧v≠priV)
     ·have:dstep k s (accK,v)=none:=by
       unfold dstep
       rw [if_neg (Ne.symm n3),if_neg (Ne.symm m2),if_neg (Ne.symm m3),if_pos ⟨rfl,hk⟩,if_pos hb]
      rw [this]
      rintro ⟨hn,ho,_⟩
      rcases hb with hb | hb
      ·rw [h.acc,decide_eq_true_eq] at hb
       exact hn hb
      ·rw [okv_acc] at ho
       simp [hb.1,hb.2] at ho
     ·have:dstep k s (accK,v)=some ({ s.1 with opn:=v == pubV },true):=by
       unfold dstep
       rw [if_neg (Ne.symm n3),if_neg (Ne.symm m2),if_neg (Ne.symm m3),if_pos ⟨rfl,hk⟩,if_neg hb]
      rw [this]
      have hn:accK ∉ keys fs:=fun e=>hb (.inl (by rw [h.acc];exact decide_eq_true e))
      refine h.more hn ?_ (.inr (.inr (.inr ⟨rfl,hk⟩))) ?_ ?_
      ·rw [okv_acc]
       by_cases hv:v=pubV
       ·simp [hv]
       ·by_cases hv2:v=priV
        ·simp [hv2]
        ·exact absurd (.inr ⟨hv,hv2⟩) hb
      ·rw [h.dir]
       unfold dirOf
       rw [look_snoc hn,look_snoc hn,look_snoc hn,look_snoc hn,if_neg (Ne.symm m2),if_neg (Ne.symm m3),if_neg (Ne.symm n3),if_pos rfl]
      ·rw [keys_snoc]
       simp
    ·have:dstep k s (key,v)=none:=by
      unfold dstep
      rw [if_neg e1,if_neg e2,if_neg e3,if_neg e4]
     rw [this]
     rintro ⟨_,_,ha⟩
     rcases ha with ha | ha | ha | ha
     ·exact e1 ha
     ·exact e2 ha
     ·exact e3 ha
     ·exact e4 ha
theorem allow_al {k:Nat} {key:Tx} (h:allow k key=true):key=szK k∨key=nameK∨key=poolK∨(key=accK∧k=4):=by
 unfold allow at h
 simp only [Bool.or_eq_true,Bool.and_eq_true,beq_iff_eq] at h
 rcases h with ((h | h) | h) | h
 ·exact .inl h.2
 ·exact .inr (.inl h.2)
 ·exact .inr (.inr (.inl h.2))
 ·exact .inr (.inr (.inr ⟨h.2,h.1⟩))
theorem drun_spec (k:Nat):∀ (ws:List Tx) (fs:List Fl) (s:Dir × Bool),Inv k fs s →
  match drun k s ws with
  | some s'=>∃ gs,ws.mapM cut=some gs∧Inv k (fs++gs) s'
  | none=>∀ gs,ws.mapM cut=some gs→¬ good k (fs++gs)
 | [],fs,s,h=>⟨[],rfl,by rw [List.append_nil];exact h⟩
 | w::ws,fs,s,h=>by
  unfold drun
  cases hc:cut w with
  | none =>
   dsimp only
   intro gs hg
   rw [List.mapM_cons,hc] at hg
   cases hg
  | some f =>
   dsimp only
   have hs:=h.step f
   cases hd:dstep k s f with
   | none =>
    rw [hd] at hs
    dsimp only at hs ⊢
    intro gs hg hgood
    rw [List.mapM_cons,hc] at hg
    cases hm:ws.mapM cut with
    | none=>rw [hm] at hg;cases hg
    | some hs' =>
     rw [hm] at hg
     have:gs=f::hs':=by
      have:some (f::hs')=some gs:=hg
      exact (Option.some.inj this).symm
     subst this
     obtain ⟨g1,g2,_⟩:=hgood
     apply hs
     refine ⟨?_,(g2 f (by simp)).2,allow_al (g2 f (by simp)).1⟩
     intro hm2
     unfold keys at g1
     rw [List.map_append,List.nodup_append] at g1
     exact g1.2.2 f.1 hm2 f.1 (by simp) rfl
   | some s' =>
    rw [hd] at hs
    dsimp only at hs ⊢
    have ih:=drun_spec k ws (fs++[f]) s' hs
    cases hr:drun k s' ws with
    | none =>
     rw [hr] at ih
     dsimp only at ih ⊢
     intro gs hg
     rw [List.mapM_cons,hc] at hg
     cases hm:ws.mapM cut with
     | none=>rw [hm] at hg;cases hg
     | some hs' =>
      rw [hm] at hg
      have:gs=f::hs':=by
       have:some (f::hs')=some gs:=hg
       exact (Option.some.inj this).symm
      subst this
      have:=ih hs' hm
      rw [List.append_assoc] at this
      exact this
    | some s2 =>
     rw [hr] at ih
     dsimp only at ih ⊢
     obtain ⟨gs,hm,hi⟩:=ih
     refine ⟨f::gs,?_,?_⟩
     ·rw [List.mapM_cons,hc,hm]
      rfl
     ·rw [List.append_assoc] at hi
      exact hi
theorem mem_req {k:Nat} {r:Tx}:r∈req k↔(hasName k=true∧r=nameK)∨(hasSize k=true∧r=szK k)∨(hasPool k=true∧r=poolK):=by
 unfold req
 cases hasName k <;> cases hasSize k <;> cases hasPool k <;> simp
theorem chk_iff (d:Dir):chk d=true↔(1≤d.kind∧d.kind≤6)∧(hasSize d.kind=true↔0 < d.size)∧(0≤d.size∧d.size≤1099511627776)∧(hasName d.kind=true↔isName d.name=true)∧(hasName d.kind=true∨d.name=[]) ∧
  (hasPool d.kind=true↔isName d.pool=true)∧(hasPool d.kind=true∨d.pool=[])∧(d.opn=false∨d.kind=4):=by
 exact decide_eq_true_iff
theorem Inv.chk_good {k:Nat} {fs:List Fl} {s:Dir × Bool} (h:Inv k fs s) (hk:1≤k∧k≤6):chk s.1=true↔good k fs:=by
 have hkind:s.1.kind=k:=by rw [h.dir];rfl
 have hopn:s.1.opn=(look fs accK == pubV):=by rw [h.dir];rfl
 have hsz:=h.size
 have hnm:=h.name
 have hpl:=h.pool
 have hnv:isName s.1.name=true↔nameK∈keys fs:=by
  rw [←hnm]
  constructor
  ·exact isName_ne
  ·intro hne
   have:=h.val (hnm.1 hne)
   rw [okv_name] at this
   rw [h.dir]
   exact this
 have hpv:isName s.1.pool=true↔poolK∈keys fs:=by
  rw [←hpl]
  constructor
  ·exact isName_ne
  ·intro hne
   have:=h.val (hpl.1 hne)
   rw [okv_pool] at this
   rw [h.dir]
   exact this
 have hsb:0≤s.1.size∧s.1.size≤1099511627776:=by
  rw [h.dir]
  show 0≤(((size? (look fs (szK k))).getD 0:Nat):Int)∧(((size? (look fs (szK k))).getD 0:Nat):Int)≤_
  cases hs:size? (look fs (szK k)) with
  | none=>simp
  | some n =>
   have:=size_le hs
   unfold top at this
   simp
   omega
 have hn0:s.1.name=[]↔nameK ∉ keys fs:=by rw [←hnm];simp
 have hp0:s.1.pool=[]↔poolK ∉ keys fs:=by rw [←hpl];simp
 rw [chk_iff,hkind,hsz,hnv,hpv,hn0,hp0]
 constructor
 ·rintro ⟨_,c1,_,c2,c3,c4,c5,c6⟩
  refine ⟨h.nd,fun f hf=>⟨?_,h.ok f hf⟩,fun r hr=>?_⟩
  ·have hm:f.1∈keys fs:=List.mem_map.2 ⟨f,hf,rfl⟩
   unfold allow
   simp only [Bool.or_eq_true,Bool.and_eq_true,beq_iff_eq]
   rcases h.al f hf with ha | ha | ha | ha
   ·exact .inl (.inl (.inl ⟨c1.2 (by rw [←ha];exact hm),ha⟩))
   ·exact .inl (.inl (.inr ⟨c2.2 (by rw [←ha];exact hm),ha⟩))
   ·exact .inl (.inr ⟨c4.2 (by rw [←ha];exact hm),ha⟩)
   ·exact .inr ⟨ha.2,ha.1⟩
  ·rcases mem_req.1 hr with ⟨he,rfl⟩ | ⟨he,rfl⟩ | ⟨he,rfl⟩
   ·exact c2.1 he
   ·exact c1.1 he
   ·exact c4.1 he
 ·rintro ⟨g1,g2,g3⟩
  have al:∀ key,key∈keys fs→allow k key=true:=fun key hm=>by
   obtain ⟨f,hf,rfl⟩:=List.mem_map.1 hm
   exact (g2 f hf).1
  obtain ⟨n1,n2,n3⟩:=sz_ne k
  have m1:nameK≠poolK:=by decide
  have m2:nameK≠accK:=by decide
  have m3:poolK≠accK:=by decide
  have aS:szK k∈keys fs→hasSize k=true:=fun hm=>by
   have:=al _ hm
   unfold allow at this
   simp only [Bool.or_eq_true,Bool.and_eq_true,beq_iff_eq] at this
   rcases this with ((h | h) | h) | h
   ·exact h.1
   ·exact absurd h.2 n1
   ·exact absurd h.2 n2
   ·exact absurd h.2 n3
  have aN:nameK∈keys fs→hasName k=true:=fun hm=>by
   have:=al _ hm
   unfold allow at this
   simp only [Bool.or_eq_true,Bool.and_eq_true,beq_iff_eq] at this
   rcases this with ((h | h) | h) | h
   ·exact absurd h.2.symm n1
   ·exact h.1
   ·exact absurd h.2 m1
   ·exact absurd h.2 m2
  have aP:poolK∈keys fs→hasPool k=true:=fun hm=>by
   have:=al _ hm
   unfold allow at this
   simp only [Bool.or_eq_true,Bool.and_eq_true,beq_iff_eq] at this
   rcases this with ((h | h) | h) | h
   ·exact absurd h.2.symm n2
   ·exact absurd h.2.symm m1
   ·exact h.1
   ·exact absurd h.2 m3
  have rS:hasSize k=true→szK k∈keys fs:=fun e=>g3 _ (mem_req.2 (.inr (.inl ⟨e,rfl⟩)))
  have rN:hasName k=true→nameK∈keys fs:=fun e=>g3 _ (mem_req.2 (.inl ⟨e,rfl⟩))
  have rP:hasPool k=true→poolK∈keys fs:=fun e=>g3 _ (mem_req.2 (.inr (.inr ⟨e,rfl⟩)))
  refine ⟨hk,⟨rS,aS⟩,hsb,⟨rN,aN⟩,?_,⟨rP,aP⟩,?_,?_⟩
  ·by_cases hm:nameK∈keys fs
   ·exact .inl (aN hm)
   ·exact .inr hm
  ·by_cases hm:poolK∈keys fs
   ·exact .inl (aP hm)
   ·exact .inr hm
  ·by_cases hm:accK∈keys fs
   ·right
    have:=al _ hm
    unfold allow at this
    simp only [Bool.or_eq_true,Bool.and_eq_true,beq_iff_eq] at this
    rcases this with ((h | h) | h) | h
    ·exact absurd h.2.symm n3
    ·exact absurd h.2.symm m2
    ·exact absurd h.2.symm m3
    ·exact h.1
   ·left
    rw [hopn,look_none hm]
    rfl
theorem fields_eq {k:Nat} (hk:1≤k∧k≤6) (ws:List Tx):(match drun k (⟨k,[],[],0,false⟩,false) ws with
  | some s=>if chk s.1=true then some s.1 else none
  | none=>none)=fields? k ws:=by
 have h:=drun_spec k ws [] _ (Inv.start k)
 unfold fields?
 cases hr:drun k (⟨k,[],[],0,false⟩,false) ws with
 | none =>
  rw [hr] at h
  dsimp only at h ⊢
  cases hm:ws.mapM cut with
  | none=>rfl
  | some gs =>
   dsimp only
   have:=h gs hm
   rw [List.nil_append] at this
   rw [if_neg this]
 | some s =>
  rw [hr] at h
  dsimp only at h ⊢
  obtain ⟨gs,hm,hi⟩:=h
  rw [List.nil_append] at hi
  rw [hm]
  dsimp only
  have hg:=hi.chk_good hk
  by_cases hc:chk s.1=true
  ·rw [if_pos hc,if_pos (hg.1 hc),hi.dir]
  ·rw [if_neg hc,if_neg fun e=>hc (hg.2 e)]
end Go.Proofs.YtekcjfdllclphaaGreatDoor.di
end
section
namespace Go.Proofs.YtekcjfdllclphaaGreatDoor.fi
abbrev Nm:=List UInt8
abbrev Fl:=List UInt8 × Bool
section
variable {V V' : Type}
def ins (x:Nm × V):List (Nm × V)→List (Nm × V)
 | []=>[x]
 | y::r=>if bytesBefore x.1 y.1 then x::y::r else y::ins x r
def del (k:Nm) (l:List (Nm × V)):List (Nm × V):=l.filter fun p=>!(p.1 == k)
def put (k:Nm) (v:V) (l:List (Nm × V)):List (Nm × V):=ins (k,v) (del k l)
def get (k:Nm) (l:List (Nm × V)):Option V:=(l.find? fun p=>p.1 == k).map (·.2)
theorem ins_map (f:V→V') (x:Nm × V):∀ l:List (Nm × V),(ins x l).map (fun p=>(p.1,f p.2))=ins (x.1,f x.2) (l.map fun p=>(p.1,f p.2))
 | []=>rfl
 | y::r=>by
  simp only [ins,List.map_cons]
  split
  ·simp
  ·simp [ins_map f x r]
theorem ins_perm (x:Nm × V):∀ l:List (Nm × V),(ins x l).Perm (x::l)
 | []=>.refl _
 | y::r=>by
  unfold ins
  split
  ·exact .refl _
  ·exact ((ins_perm x r).cons y).trans (.swap x y r)
theorem mem_del {k:Nm} {z:Nm × V} {l:List (Nm × V)}:z∈del k l↔z∈l∧z.1≠k:=by simp [del]
theorem get_none {k:Nm} {l:List (Nm × V)}:get k l=none↔∀ z∈l,z.1≠k:=by
 simp [get,List.find?_eq_none]
theorem find_ins_hit {k:Nm} {v:V}:∀ {l:List (Nm × V)},(∀ z∈l,z.1≠k)→(ins (k,v) l).find? (fun p=>p.1 == k)=some (k,v)
 | [],_=>by simp [ins]
 | y::r,h=>by
  unfold ins
  split
  ·simp
  ·have:(y.1 == k)=false:=by simpa using h y (by simp)
   rw [List.find?_cons,this]
   exact find_ins_hit fun z hz=>h z (by simp [hz])
theorem find_ins_miss {k j:Nm} {v:V} (hne:j≠k):∀ {l:List (Nm × V)},(ins (k,v) l).find? (fun p=>p.1 == j)=l.find? (fun p=>p.1 == j)
 | []=>by simp [ins,hne.symm]
 | y::r=>by
  unfold ins
  have hkj:(k == j)=false:=by simpa using hne.symm
  split
  ·rw [List.find?_cons,hkj]
  ·rw [List.find?_cons,List.find?_cons,find_ins_miss hne]
theorem get_put_same (k:Nm) (v:V) (l:List (Nm × V)):get k (put k v l)=some v:=by
 unfold get put
 rw [find_ins_hit fun z hz=>(mem_del.1 hz).2]
 rfl
theorem find_del {k j:Nm} (hne:j≠k) (l:List (Nm × V)):(del k l).find? (fun p=>p.1 == j)=l.find? (fun p=>p.1 == j):=by
 unfold del
 induction l with
 | nil=>rfl
 | cons y r ih =>
  by_cases hy:y.1=k
  ·have h1:(y.1 == k)=true:=by simpa using hy
   have h2:(y.1 == j)=false:=by simpa [hy] using hne.symm
   simp only [List.filter_cons,h1,Bool.not_true,Bool.false_eq_true,if_false,List.find?_cons,h2]
   exact ih
  ·have h1:(y.1 == k)=false:=by simpa using hy
   simp only [List.filter_cons,h1,Bool.not_false,if_true,List.find?_cons]
   split
   ·rfl
   ·exact ih
theorem get_del_other {k j:Nm} (hne:j≠k) (l:List (Nm × V)):get j (del k l)=get j l:=by unfold get;rw [find_del hne]
theorem get_del_same (k:Nm) (l:List (Nm × V)):get k (del k l)=none:=get_none.2 fun _ hz=>(mem_del.1 hz).2
theorem get_put_other {k j:Nm} (hne:j≠k) (v:V) (l:List (Nm × V)):get j (put k v l)=get j l:=by
 have h1:get j (put k v l)=get j (del k l):=by unfold get put;rw [find_ins_miss hne]
 rw [h1,get_del_other hne]
theorem put_length {l:List (Nm × V)} (k:Nm) (v:V):(put k v l).length≤l.length+1:=by
 unfold put
 rw [(ins_perm _ _).length_eq,List.length_cons]
 have:=List.length_filter_le (fun p:Nm × V=>!(p.1 == k)) l
 unfold del
 omega
end
end Go.Proofs.YtekcjfdllclphaaGreatDoor.fi
end
section
namespace Go.Proofs.YtekcjfdllclphaaGreatDoor.gn
open Go.RowKit
def hR (v:Value):Option (DataW Value × List MemPlace):=some (.held v,[])
theorem hR_inv {v u:Value} {ps:List MemPlace} (h:hR v=some (.held u,ps)):v=u:=by
 unfold hR at h
 simp only [Option.some.injEq,Prod.mk.injEq,DataW.held.injEq] at h
 exact h.1
def datV (L:List (List UInt8 × Value)):DataW Value:=.map (L.map fun p=>(.string p.1,.held p.2))
theorem datV_ins (k:List UInt8) (v:Value):∀ L:List (List UInt8 × Value),(fi.ins (k,v) L).map (fun p=>(Lit.string p.1,(DataW.held p.2:DataW Value)))=DataW.insert (.string k,.held v) (L.map fun p=>(.string p.1,.held p.2))
 | []=>rfl
 | y::r=>by
  unfold fi.ins
  have:=datV_ins k v r
  cases h:bytesBefore k y.1 with
  | true=>simp [DataW.insert,Lit.before,h]
  | false=>simp [DataW.insert,Lit.before,h,this]
theorem datV_del (k:List UInt8) (L:List (List UInt8 × Value)):(fi.del k L).map (fun p=>(Lit.string p.1,(DataW.held p.2:DataW Value)))=(L.map fun p=>(Lit.string p.1,(DataW.held p.2:DataW Value))).filter fun p=>!p.1.sameKey (.string k):=by
 unfold fi.del
 rw [List.filter_map]
 rfl
theorem datV_put (k:List UInt8) (v:Value) (L:List (List UInt8 × Value)):(datV L).put (.string k) (.held v)=datV (fi.put k v L):=by
 show DataW.map (DataW.insert _ ((L.map _).filter fun p=>!p.1.sameKey (.string k)))=.map _
 rw [←datV_del,← datV_ins]
 rfl
theorem datV_cut (k:List UInt8) (L:List (List UInt8 × Value)):(datV L).del (.string k)=datV (fi.del k L):=by
 show DataW.map ((L.map _).filter fun p=>!p.1.sameKey (.string k))=.map _
 rw [←datV_del]
theorem find_datV (k:List UInt8) (L:List (List UInt8 × Value)):(L.map fun p=>(Lit.string p.1,(DataW.held p.2:DataW Value))).find? (fun p=>p.1.sameKey (.string k))=(L.find? fun p=>p.1 == k).map fun p=>(.string p.1,.held p.2):=by
 rw [List.find?_map]
 rfl
theorem datV_at (k:List UInt8) (z:Value) (L:List (List UInt8 × Value)):(datV L).atKey (.string k) (.held z)=.held ((fi.get k L).getD z):=by
 simp only [datV,DataW.atKey,find_datV,fi.get]
 cases L.find? fun p=>p.1 == k <;> rfl
theorem datV_has (k:List UInt8) (L:List (List UInt8 × Value)):Maps.has (datV L) (.string k)=(fi.get k L).isSome:=by
 show (L.map fun p=>(Lit.string p.1,(DataW.held p.2:DataW Value))).any (fun p=>p.1.sameKey (.string k))=_
 have h:=find_datV k L
 rw [Bool.eq_iff_iff,List.any_eq_true,← List.find?_isSome,h]
 unfold fi.get
 cases L.find? fun p=>p.1 == k <;> simp
theorem datV_size (L:List (List UInt8 × Value)):Maps.size (datV L)=L.length:=by simp [datV,Maps.size]
theorem get_put (j k:List UInt8) (v:Value) (L:List (List UInt8 × Value)):fi.get j (fi.put k v L)=if j=k then some v else fi.get j L:=by
 by_cases h:j=k
 ·rw [if_pos h,h,fi.get_put_same]
 ·rw [if_neg h,fi.get_put_other h]
theorem get_del (j k:List UInt8) (L:List (List UInt8 × Value)):fi.get j (fi.del k L)=if j=k then none else fi.get j L:=by
 by_cases h:j=k
 ·rw [if_pos h,h,fi.get_del_same]
 ·rw [if_neg h,fi.get_del_other h]
theorem keyStr:Go.Maps.Keyed Tryz.prog 9:=Go.Maps.string_keyed Tryz.underlying9
theorem keyS {l:List UInt8} (h:l.length≤maxLen):keyOf Tryz.prog 9 (.string (str l))=some (.string l):=by
 have:=Go.WideMaps.keyOf_string_mk (P:=Tryz.prog) Tryz.underlying9 (s:=str l) (by rw [str_size];exact h)
 simpa [str] using this
def MapV (w:World) (b:Nat) (L:List (List UInt8 × Value)):Prop:=∃ n,w.ownsMap Tryz.prog 9 hR b n (datV L)
theorem MapV.exact {w:World} {b:Nat} {L:List (List UInt8 × Value)} (h:MapV w b L):w.ownsMap Tryz.prog 9 hR b L.length (datV L):=by
 obtain ⟨n,es,clock,hb,F,_,hD⟩:=h
 refine ⟨es,clock,hb,F,?_,hD⟩
 have h1:=congrArg Maps.size hD
 rw [datV_size] at h1
 simp only [Maps.size,length_sorted,List.length_map,Array.length_toList] at h1
 omega
theorem MapV.lt {w:World} {b:Nat} {L:List (List UInt8 × Value)} (h:MapV w b L):b < w.heap.size:=by
 obtain ⟨n,hn⟩:=h
 exact World.ownsMap.lt hn
theorem MapV.kept {w w':World} {b:Nat} {L:List (List UInt8 × Value)} (h:MapV w b L) (hb:w'.heap[b]?=w.heap[b]?):MapV w' b L:=by
 obtain ⟨n,es,clock,h1,h2⟩:=h
 exact ⟨n,es,clock,hb.trans h1,h2⟩
theorem MapV.next {w w':World} {b:Nat} {L:List (List UInt8 × Value)} (h:MapV w b L) (hb:Below w.heap.size w w'):MapV w' b L:=h.kept (hb.block b h.lt)
theorem MapV.but {R:Nat} {w w':World} {b:Nat} {L:List (List UInt8 × Value)} (h:MapV w b L) (hb:But R w w') (hne:b≠R):MapV w' b L:=h.kept (hb.block b h.lt (fun e=>hne (Option.some.inj e)))
theorem MapV.new (w:World):MapV (w.alloc (.map #[] 0)) w.heap.size []:=⟨0,World.ownsMap_made w _ _ _⟩
theorem MapV.look {w:World} {b:Nat} {L:List (List UInt8 × Value)} (h:MapV w b L) {t e:TypeId} (ht:Tryz.prog.underlying t=some (.map 9 e)) {z:Value} (hz:(zeroValue e).run Tryz.prog w=.ok z w) {k:List UInt8} (hk:k.length≤maxLen) :
  (Instr.lookup t (.map (some b)) (.string (str k)) false).run Tryz.prog w=.ok ((fi.get k L).getD z) w:=by
 obtain ⟨n,hn⟩:=h
 obtain ⟨v,ps,hrun,hv⟩:=hn.lookup keyStr ht hz (show hR z=some (.held z,[]) from rfl) (keyS hk)
 rw [datV_at] at hv
 rw [hrun,hR_inv hv]
theorem MapV.look_ok {w:World} {b:Nat} {L:List (List UInt8 × Value)} (h:MapV w b L) {t e:TypeId} (ht:Tryz.prog.underlying t=some (.map 9 e)) {z:Value} (hz:(zeroValue e).run Tryz.prog w=.ok z w) {k:List UInt8} (hk:k.length≤maxLen) :
  (Instr.lookup t (.map (some b)) (.string (str k)) true).run Tryz.prog w=.ok (.tuple #[(fi.get k L).getD z,.bool (fi.get k L).isSome]) w:=by
 obtain ⟨n,hn⟩:=h
 obtain ⟨v,ps,hrun,hv⟩:=hn.look_ok keyStr ht hz (show hR z=some (.held z,[]) from rfl) (keyS hk)
 rw [datV_at] at hv
 rw [hrun,hR_inv hv,datV_has]
theorem MapV.put {w:World} {b:Nat} {L:List (List UInt8 × Value)} (h:MapV w b L) {t e:TypeId} (ht:Tryz.prog.underlying t=some (.map 9 e)) {k:List UInt8} (hk:k.length≤maxLen) (hL:L.length < maxLen) (v:Value) :
  ∃ w',(Instr.mapUpdate t (.map (some b)) (.string (str k)) v).run Tryz.prog w=.ok () w'∧MapV w' b (fi.put k v L)∧But b w w':=by
 obtain ⟨w',hrun,h1,h2⟩:=h.exact.update keyStr ht hL (keyS hk) (show hR v=some (.held v,[]) from rfl)
 exact ⟨w',hrun,⟨_,by rw [←datV_put];exact h1⟩,h2⟩
theorem MapV.put2 {w:World} {b n:Nat} {L:List (List UInt8 × Value)} (h:MapV w b L) (hn:L.length≤n) {t e:TypeId} (ht:Tryz.prog.underlying t=some (.map 9 e)) {k:List UInt8} (hk:k.length≤maxLen) (hL:n < 1000) (v:Value) :
  ∃ w' L',(Instr.mapUpdate t (.map (some b)) (.string (str k)) v).run Tryz.prog w=.ok () w'∧MapV w' b L'∧L'.length≤n+1∧(∀ j,fi.get j L'=if j=k then some v else fi.get j L)∧But b w w':=by
 obtain ⟨w',h1,h2,h3⟩:=h.put ht hk (show L.length < maxLen by unfold maxLen;omega) v
 exact ⟨w',_,h1,h2,Nat.le_trans (fi.put_length k v) (by omega),fun j=>get_put j k v L,h3⟩
theorem mapTurned_but {w w':World} {b:Nat} (h:w.mapTurned w' b):But b w w':=by
 obtain ⟨es,c,es',c',hb,rfl⟩:=h
 exact ⟨rfl,rfl,rfl,by simp [Go.ChangeMaps.setBlock],fun i _ hi=>Go.ChangeMaps.heap_setBlock_other hb _ fun e=>hi (by rw [e])⟩
theorem MapV.del {w:World} {b:Nat} {L:List (List UInt8 × Value)} (h:MapV w b L) {t e:TypeId} (ht:Tryz.prog.underlying t=some (.map 9 e)) {k:List UInt8} (hk:k.length≤maxLen) (ty:TypeId) :
  ∃ w',(Builtin.delete_ #[t,9] ty #[.map (some b),.string (str k)]).run Tryz.prog w=.ok (.tuple #[]) w'∧MapV w' b (fi.del k L)∧But b w w':=by
 obtain ⟨w',hrun,h1,h2⟩:=h.exact.drop keyStr ht (keyS hk) ty
 exact ⟨w',hrun,⟨_,by rw [←datV_cut];exact h1⟩,mapTurned_but h2⟩
def RngV (w:World) (b r:Nat) (L:List (List UInt8 × Value)) (left:Lit→Bool) (cnt:Nat):Prop:=w.ranges Tryz.prog 9 hR b r L.length (datV L) left cnt
theorem RngV.next {w w':World} {b r:Nat} {L:List (List UInt8 × Value)} {left:Lit→Bool} {cnt:Nat} (h:RngV w b r L left cnt) (hb:Below w.heap.size w w'):RngV w' b r L left cnt :=
 World.ranges.kept h (row:=none) ⟨hb.os,hb.tape,hb.output,hb.size,fun i hi _=>hb.block i hi⟩ (by simp) (by simp)
theorem RngV.left_eq {w:World} {b r:Nat} {L:List (List UInt8 × Value)} {left:Lit→Bool} {cnt:Nat} (h:RngV w b r L left cnt):w.rangeLeft b r=cnt:=World.ranges.left_eq h
theorem key_str2 {v:Value} {kl:Lit} (hk:keyOf Tryz.prog 9 v=some kl):∃ k:List UInt8,v=.string (str k)∧kl=.string k:=by
 rw [keyOf_string Tryz.underlying9] at hk
 cases v <;> simp [mapKey,Tryz.underlying9] at hk
 obtain ⟨_,rfl⟩:=hk
 exact ⟨_,by rw [str_of],rfl⟩
theorem wpList_range_map (w:World) {ops:Array Oper} {rest:List Oper} {o:Oper} {a:Act} {Q:Exit→Act→World→Prop} (hg:o.guard=none) (m:Operand) (t e:TypeId) (hop:o.op=Op.range t m) (ht:Tryz.prog.underlying t=some (.map 9 e))
  (b:Nat) (L:List (List UInt8 × Value)) (hm:a.eval m=.map (some b)) (h:MapV w b L)
  (hK:∀ w',RngV w' b w.heap.size L (fun kl=>Maps.has (datV L) kl) L.length→Below w.heap.size w w'→w'.heap.size=w.heap.size+1→wpList Tryz.prog ops Q rest (a.put o.dst (.pointer (some ⟨w.heap.size,0,none⟩))) w') :
  wpList Tryz.prog ops Q (o::rest) a w:=by
 refine wpList_range_own w hg m t hop 9 e keyStr ht hR b _ _ hm h.exact ?_
 intro w' h1 h2 h3
 rw [datV_size] at h1
 exact hK w' h1 ⟨h2.os,h2.tape,h2.output,h2.size,fun i hi=>h2.block i hi (by simp)⟩ h3
theorem wpList_next_map (w:World) {ops:Array Oper} {rest:List Oper} {o:Oper} {a:Act} {Q:Exit→Act→World→Prop} (hg:o.guard=none) (it:Operand) (hop:o.op=Op.next it false)
  (b r:Nat) (L:List (List UInt8 × Value)) (left:Lit→Bool) (cnt:Nat) (hit:a.eval it=.pointer (some ⟨r,0,none⟩)) (h:RngV w b r L left cnt)
  (hDone:cnt=0→(∀ kl,left kl=false)→wpList Tryz.prog ops Q rest (a.put o.dst (.tuple #[.bool false])) w)
  (hMore:∀ (k:List UInt8) (v:Value) (w':World) (cnt':Nat),fi.get k L=some v→left (.string k)=true→RngV w' b r L (fun z=>left z && !z.sameKey (.string k)) cnt'→cnt' < cnt →
   But r w w'→w'.heap.size=w.heap.size→(Instr.entry (.pointer (some ⟨r,0,none⟩))).run Tryz.prog w'=.ok (.tuple #[.string (str k),v]) w' →
   wpList Tryz.prog ops Q rest (a.put o.dst (.tuple #[.bool true,.string (str k),v])) w') :
  wpList Tryz.prog ops Q (o::rest) a w:=by
 refine wpList_plain hg fun K' hK'=>?_
 unfold Oper.wp
 rcases World.ranges.next h keyStr o.type with ⟨h0,hl,hrun⟩ | ⟨key,v,kl,y,w',cnt',hkey,hlk,hv,hat,hrun,hrg,hlt,hgr,hsz,hen⟩
 ·simp [execOp,hop,hit,hrun,Result.andThen]
  exact hK' _ _ (hDone h0 hl)
 ·obtain ⟨k,rfl,rfl⟩:=key_str2 hkey
  have hy:y=(.held v,[]):=(Option.some.inj hv).symm
  subst hy
  have hp:fi.get k L=some v:=by
   have h1:=hat (.held v)
   have h2:=hat (.held (.bool true))
   have h3:=hat (.held (.bool false))
   rw [datV_at] at h1 h2 h3
   cases hgk:fi.get k L with
   | some u =>
    rw [hgk] at h1
    simp only [Option.getD_some,DataW.held.injEq] at h1
    rw [h1]
   | none =>
    rw [hgk] at h2 h3
    simp only [Option.getD_none,DataW.held.injEq] at h2 h3
    rw [←h3] at h2
    cases h2
  simp [execOp,hop,hit,hrun,Result.andThen]
  exact hK' _ _ (hMore k v w' cnt' hp hlk hrg hlt hgr hsz hen)
theorem wpList_look_yes (w:World) {ops:Array Oper} {rest:List Oper} {o:Oper} {a:Act} {Q:Exit→Act→World→Prop} (hg:o.guard=none) (m x:Operand) (t e:TypeId) (hop:o.op=Op.lookup t m x true) (ht:Tryz.prog.underlying t=some (.map 9 e))
  {z:Value} (hz:∀ W,(zeroValue e).run Tryz.prog W=.ok z W) (b:Nat) (L:List (List UInt8 × Value)) (hm:a.eval m=.map (some b)) (h:MapV w b L) (k:List UInt8) (hx:a.eval x=.string (str k)) (hk:k.length≤maxLen) (v:Value) (hv:fi.get k L=some v)
  (hK:wpList Tryz.prog ops Q rest (a.put o.dst (.tuple #[v,.bool true])) w) :
  wpList Tryz.prog ops Q (o::rest) a w:=by
 refine wpList_plain hg fun K' hK'=>?_
 have hrun:=h.look_ok ht (hz w) hk
 rw [hv] at hrun
 unfold Oper.wp
 simp [execOp,hop,hm,hx,hrun,Result.andThen]
 exact hK' _ _ hK
theorem wpList_look_no (w:World) {ops:Array Oper} {rest:List Oper} {o:Oper} {a:Act} {Q:Exit→Act→World→Prop} (hg:o.guard=none) (m x:Operand) (t e:TypeId) (hop:o.op=Op.lookup t m x true) (ht:Tryz.prog.underlying t=some (.map 9 e))
  {z:Value} (hz:∀ W,(zeroValue e).run Tryz.prog W=.ok z W) (b:Nat) (L:List (List UInt8 × Value)) (hm:a.eval m=.map (some b)) (h:MapV w b L) (k:List UInt8) (hx:a.eval x=.string (str k)) (hk:k.length≤maxLen) (hv:fi.get k L=none)
  (hK:wpList Tryz.prog ops Q rest (a.put o.dst (.tuple #[z,.bool false])) w) :
  wpList Tryz.prog ops Q (o::rest) a w:=by
 refine wpList_plain hg fun K' hK'=>?_
 have hrun:=h.look_ok ht (hz w) hk
 rw [hv] at hrun
 unfold Oper.wp
 simp [execOp,hop,hm,hx,hrun,Result.andThen]
 exact hK' _ _ hK
theorem wpList_del_map (w:World) {ops:Array Oper} {rest:List Oper} {o:Oper} {a:Act} {Q:Exit→Act→World→Prop} (hg:o.guard=none) (m x:Operand) (t e:TypeId) (hop:o.op=Op.call { callee:=Callee.builtin Builtin.delete,args:=#[m,x],argTypes:=#[t,9] }) (ht:Tryz.prog.underlying t=some (.map 9 e))
  (b:Nat) (L:List (List UInt8 × Value)) (hm:a.eval m=.map (some b)) (h:MapV w b L) (k:List UInt8) (hx:a.eval x=.string (str k)) (hk:k.length≤maxLen)
  (hK:∀ w',MapV w' b (fi.del k L)→But b w w'→wpList Tryz.prog ops Q rest (a.put o.dst (.tuple #[])) w') :
  wpList Tryz.prog ops Q (o::rest) a w:=by
 refine wpList_plain hg fun K' hK'=>?_
 obtain ⟨w',hrun,r1,r2⟩:=h.del ht hk o.type
 unfold Oper.wp
 simp [execOp,hop,resolve,invoke,builtin,hm,hx,hrun,Result.andThen]
 exact hK' _ _ (hK w' r1 r2)
theorem wpList_put_map (w:World) {ops:Array Oper} {rest:List Oper} {o:Oper} {a:Act} {Q:Exit→Act→World→Prop} (hg:o.guard=none) (m x y:Operand) (t e:TypeId) (hop:o.op=Op.mapUpdate t m x y) (ht:Tryz.prog.underlying t=some (.map 9 e))
  (b n:Nat) (L:List (List UInt8 × Value)) (hm:a.eval m=.map (some b)) (h:MapV w b L) (hn:L.length≤n) (hn2:n < 1000) (k:List UInt8) (hx:a.eval x=.string (str k)) (hk:k.length≤maxLen) (v:Value) (hy:a.eval y=v)
  (hK:∀ w' L',MapV w' b L'→L'.length≤n+1→(∀ j,fi.get j L'=if j=k then some v else fi.get j L)→But b w w'→wpList Tryz.prog ops Q rest (a.put o.dst undef) w') :
  wpList Tryz.prog ops Q (o::rest) a w:=by
 refine wpList_plain hg fun K' hK'=>?_
 obtain ⟨w',L',hrun,r1,r2,r3,r4⟩:=h.put2 hn ht hk hn2 v
 unfold Oper.wp
 simp [execOp,hop,hm,hx,hy,hrun,Result.andThen]
 exact hK' _ _ (hK w' L' r1 r2 r3 r4)
end Go.Proofs.YtekcjfdllclphaaGreatDoor.gn
end
section
namespace Go.Proofs.YtekcjfdllclphaaGreatDoor.gn
open Go.RowKit
theorem str_mid (l:List UInt8) (a n:Nat):(str l).extract a (a+n)=str ((l.drop a).take n):=by
 apply ByteArray.ext
 simp [str]
theorem sl_mid (l:List UInt8) (i j:Int) (a n:Nat) (hi:i=(a:Int)) (hj:j=((a+n:Nat):Int)) (h:a+n≤l.length) (w:World) :
  (Instr.slice 9 (.string (str l)) (some (.int .i64 i)) (some (.int .i64 j)) none).run Tryz.prog w=.ok (.string (str ((l.drop a).take n))) w:=by
 subst hi;subst hj
 have h1:=run_slice_string (P:=Tryz.prog) w 9 (str l) .i64 .i64 (a:Int) ((a+n:Nat):Int) Tryz.underlying9 (by omega) (by omega) (by rw [str_size];omega)
 rw [Int.toNat_natCast,Int.toNat_natCast,str_mid] at h1
 exact h1
theorem sl_upto (l:List UInt8) (j:Int) (n:Nat) (hj:j=(n:Int)) (h:n≤l.length) (w:World) :
  (Instr.slice 9 (.string (str l)) none (some (.int .i64 j)) none).run Tryz.prog w=.ok (.string (str (l.take n))) w:=by
 subst hj
 have h1:=run_slice_string_h (P:=Tryz.prog) w 9 (str l) Tryz.underlying9 .i64 (n:Int) (by omega) (by rw [str_size];omega)
 rw [Int.toNat_natCast,str_take] at h1
 exact h1
theorem sl_from (l:List UInt8) (i:Int) (a:Nat) (hi:i=(a:Int)) (h:a≤l.length) (w:World) :
  (Instr.slice 9 (.string (str l)) (some (.int .i64 i)) none none).run Tryz.prog w=.ok (.string (str (l.drop a))) w:=by
 subst hi
 have h1:=run_slice_string_l (P:=Tryz.prog) w 9 (str l) Tryz.underlying9 .i64 (a:Int) (by omega) (by rw [str_size];omega)
 rw [Int.toNat_natCast,str_drop] at h1
 exact h1
end Go.Proofs.YtekcjfdllclphaaGreatDoor.gn
end
section
namespace Go.Proofs.YtekcjfdllclphaaGreatDoor.gn
open Go.Shelf
def layParseInt_ren:Go.Shelf.Ren:=⟨fun | 174=>138 | 247=>155 | 245=>156 | 287=>165 | 279=>166 | 280=>167 | 281=>168 | 282=>169 | 321=>177 | 322=>178 | 316=>139 | 171=>180 | 205=>179 | 243=>184 | 246=>143 | 283=>158 | 284=>159 | 285=>160 | 286=>161 | 129=>172 | 317=>171 | 318=>173 | 319=>174 | 320=>175 | 337=>182 | 338=>183 | n=>n,fun | 9=>9 | 3=>3 | 2=>2 | 75=>172 | 85=>173 | 4=>4 | 167=>200 | 5=>5 | 53=>192 | 175=>201 | 46=>140 | 168=>203 | 37=>100 | 0=>0 | 210=>213 | 21=>21 | 127=>189 | 145=>222 | 143=>220 | 171=>191 | 173=>195 | 212=>207 | 51=>165 | 20=>20 | 213=>208 | 232=>223 | 233=>224 | 80=>225 | n=>n,fun | 15=>2 | 16=>3 | 17=>1 | 18=>6 | 19=>7 | n=>n⟩
theorem layParseInt:Go.Proofs.LaysC.n174 Tryz.prog layParseInt_ren:={
 mixed:=by kernel_rfl
 f129:=Tryz.func172.trans (congrArg some (by kernel_rfl))
 f171:=Tryz.func180.trans (congrArg some (by kernel_rfl))
 f174:=Tryz.func138.trans (congrArg some (by kernel_rfl))
 f205:=Tryz.func179.trans (congrArg some (by kernel_rfl))
 f243:=Tryz.func184.trans (congrArg some (by kernel_rfl))
 f245:=Tryz.func156.trans (congrArg some (by kernel_rfl))
 f246:=Tryz.func143.trans (congrArg some (by kernel_rfl))
 f247:=Tryz.func155.trans (congrArg some (by kernel_rfl))
 f279:=Tryz.func166.trans (congrArg some (by kernel_rfl))
 f280:=Tryz.func167.trans (congrArg some (by kernel_rfl))
 f281:=Tryz.func168.trans (congrArg some (by kernel_rfl))
 f282:=Tryz.func169.trans (congrArg some (by kernel_rfl))
 f283:=Tryz.func158.trans (congrArg some (by kernel_rfl))
 f284:=Tryz.func159.trans (congrArg some (by kernel_rfl))
 f285:=Tryz.func160.trans (congrArg some (by kernel_rfl))
 f286:=Tryz.func161.trans (congrArg some (by kernel_rfl))
 f287:=Tryz.func165.trans (congrArg some (by kernel_rfl))
 f316:=Tryz.func139.trans (congrArg some (by kernel_rfl))
 f317:=Tryz.func171.trans (congrArg some (by kernel_rfl))
 f318:=Tryz.func173.trans (congrArg some (by kernel_rfl))
 f319:=Tryz.func174.trans (congrArg some (by kernel_rfl))
 f320:=Tryz.func175.trans (congrArg some (by kernel_rfl))
 f321:=Tryz.func177.trans (congrArg some (by kernel_rfl))
 f322:=Tryz.func178.trans (congrArg some (by kernel_rfl))
 f337:=Tryz.func182.trans (congrArg some (by kernel_rfl))
 f338:=Tryz.func183.trans (congrArg some (by kernel_rfl))
 t0:=Tryz.underlying0
 a0:=Tryz.isAgg0
 z0:=Tryz.sizeOf0
 v0:=Tryz.zeroValue0
 t2:=Tryz.underlying2
 a2:=Tryz.isAgg2
 z2:=Tryz.sizeOf2
 v2:=Tryz.zeroValue2
 t3:=Tryz.underlying3
 a3:=Tryz.isAgg3
 z3:=Tryz.sizeOf3
 v3:=Tryz.zeroValue3
 t4:=Tryz.underlying4
 a4:=Tryz.isAgg4
 z4:=Tryz.sizeOf4
 v4:=Tryz.zeroValue4
 t5:=Tryz.underlying5
 a5:=Tryz.isAgg5
 z5:=Tryz.sizeOf5
 v5:=Tryz.zeroValue5
 t9:=Tryz.underlying9
 a9:=Tryz.isAgg9
 z9:=Tryz.sizeOf9
 v9:=Tryz.zeroValue9
 t20:=Tryz.underlying20
 a20:=Tryz.isAgg20
 z20:=Tryz.sizeOf20
 v20:=Tryz.zeroValue20
 t21:=Tryz.underlying21
 a21:=Tryz.isAgg21
 z21:=Tryz.sizeOf21
 v21:=Tryz.zeroValue21
 t37:=Tryz.underlying100
 a37:=Tryz.isAgg100
 z37:=Tryz.sizeOf100
 v37:=Tryz.zeroValue100
 t46:=Tryz.underlying140
 a46:=Tryz.isAgg140
 z46:=Tryz.sizeOf140
 v46:=Tryz.zeroValue140
 t51:=Tryz.underlying165
 a51:=Tryz.isAgg165
 z51:=Tryz.sizeOf165
 v51:=Tryz.zeroValue165
 t53:=Tryz.underlying192
 a53:=Tryz.isAgg192
 z53:=Tryz.sizeOf192
 v53:=Tryz.zeroValue192
 t75:=Tryz.underlying172
 a75:=Tryz.isAgg172
 z75:=Tryz.sizeOf172
 v75:=Tryz.zeroValue172
 t85:=Tryz.underlying173
 a85:=Tryz.isAgg173
 z85:=Tryz.sizeOf173
 v85:=Tryz.zeroValue173
 t127:=Tryz.underlying189
 a127:=Tryz.isAgg189
 z127:=Tryz.sizeOf189
 v127:=Tryz.zeroValue189
 t143:=Tryz.underlying220
 a143:=Tryz.isAgg220
 z143:=Tryz.sizeOf220
 v143:=Tryz.zeroValue220
 t145:=Tryz.underlying222
 a145:=Tryz.isAgg222
 z145:=Tryz.sizeOf222
 v145:=Tryz.zeroValue222
 t167:=Tryz.underlying200
 a167:=Tryz.isAgg200
 z167:=Tryz.sizeOf200
 v167:=Tryz.zeroValue200
 t168:=Tryz.underlying203
 a168:=Tryz.isAgg203
 z168:=Tryz.sizeOf203
 v168:=Tryz.zeroValue203
 t171:=Tryz.underlying191
 a171:=Tryz.isAgg191
 z171:=Tryz.sizeOf191
 v171:=Tryz.zeroValue191
 t173:=Tryz.underlying195
 a173:=Tryz.isAgg195
 z173:=Tryz.sizeOf195
 v173:=Tryz.zeroValue195
 t175:=Tryz.underlying201
 a175:=Tryz.isAgg201
 z175:=Tryz.sizeOf201
 v175:=Tryz.zeroValue201
 t210:=Tryz.underlying213
 a210:=Tryz.isAgg213
 z210:=Tryz.sizeOf213
 v210:=Tryz.zeroValue213
 t212:=Tryz.underlying207
 a212:=Tryz.isAgg207
 z212:=Tryz.sizeOf207
 v212:=Tryz.zeroValue207
 t213:=Tryz.underlying208
 a213:=Tryz.isAgg208
 z213:=Tryz.sizeOf208
 t232:=Tryz.underlying223
 a232:=Tryz.isAgg223
 z232:=Tryz.sizeOf223
 v232:=Tryz.zeroValue223
 t233:=Tryz.underlying224
 a233:=Tryz.isAgg224
 z233:=Tryz.sizeOf224
 v233:=Tryz.zeroValue224
 g15:=by kernel_rfl
 g16:=by kernel_rfl
 g17:=by kernel_rfl
 g18:=by kernel_rfl
 g19:=by kernel_rfl
 t80:=Tryz.underlying225
 a80:=Tryz.isAgg225
 z80:=Tryz.sizeOf225
 v80:=Tryz.zeroValue225
 i0:=by kernel_rfl
 i2:=by kernel_rfl
 i3:=by kernel_rfl
 i4:=by kernel_rfl
 i5:=by kernel_rfl
 i9:=by kernel_rfl
 i20:=by kernel_rfl
 i21:=by kernel_rfl
 i37:=by kernel_rfl
 i46:=by kernel_rfl
 i51:=by kernel_rfl
 i53:=by kernel_rfl
 i75:=by kernel_rfl
 i80:=by kernel_rfl
 i85:=by kernel_rfl
 i127:=by kernel_rfl
 i143:=by kernel_rfl
 i145:=by kernel_rfl
 i167:=by kernel_rfl
 i168:=by kernel_rfl
 i171:=by kernel_rfl
 i173:=by kernel_rfl
 i175:=by kernel_rfl
 i210:=by kernel_rfl
 i212:=by kernel_rfl
 i232:=by kernel_rfl
 i233:=by kernel_rfl
 m15:=by kernel_rfl
 m16:=by kernel_rfl
 m17:=by kernel_rfl
 m18:=by kernel_rfl
 m19:=by kernel_rfl
 c0:=by kernel_rfl
 c2:=by kernel_rfl
 c3:=by kernel_rfl
 c4:=by kernel_rfl
 c5:=by kernel_rfl
 c9:=by kernel_rfl
 c20:=by kernel_rfl
 c21:=by kernel_rfl
 c37:=by kernel_rfl
 c46:=by kernel_rfl
 c51:=by kernel_rfl
 c53:=by kernel_rfl
 c75:=by kernel_rfl
 c80:=by kernel_rfl
 c85:=by kernel_rfl
 c127:=by kernel_rfl
 c143:=by kernel_rfl
 c145:=by kernel_rfl
 c167:=by kernel_rfl
 c168:=by kernel_rfl
 c171:=by kernel_rfl
 c173:=by kernel_rfl
 c175:=by kernel_rfl
 c210:=by kernel_rfl
 c212:=by kernel_rfl
 c213:=by kernel_rfl
 c232:=by kernel_rfl
 c233:=by kernel_rfl }
def layFormatInt_ren:Go.Shelf.Ren:=⟨fun | 173=>122 | 246=>143 | 283=>158 | 284=>159 | 285=>160 | 286=>161 | 129=>172 | 317=>171 | 318=>173 | 319=>174 | 320=>175 | 337=>182 | 338=>183 | n=>n,fun | 2=>2 | 3=>3 | 9=>9 | 4=>4 | 171=>191 | 0=>0 | 53=>192 | 37=>100 | 5=>5 | 173=>195 | 212=>207 | 51=>165 | 20=>20 | 213=>208 | 46=>140 | 232=>223 | 233=>224 | n=>n,fun | 17=>1 | 18=>6 | 19=>7 | n=>n⟩
theorem layFormatInt:Go.Proofs.LaysM.n173 Tryz.prog layFormatInt_ren:={
 mixed:=by kernel_rfl
 f129:=Tryz.func172.trans (congrArg some (by kernel_rfl))
 f173:=Tryz.func122.trans (congrArg some (by kernel_rfl))
 f246:=Tryz.func143.trans (congrArg some (by kernel_rfl))
 f283:=Tryz.func158.trans (congrArg some (by kernel_rfl))
 f284:=Tryz.func159.trans (congrArg some (by kernel_rfl))
 f285:=Tryz.func160.trans (congrArg some (by kernel_rfl))
 f286:=Tryz.func161.trans (congrArg some (by kernel_rfl))
 f317:=Tryz.func171.trans (congrArg some (by kernel_rfl))
 f318:=Tryz.func173.trans (congrArg some (by kernel_rfl))
 f319:=Tryz.func174.trans (congrArg some (by kernel_rfl))
 f320:=Tryz.func175.trans (congrArg some (by kernel_rfl))
 f337:=Tryz.func182.trans (congrArg some (by kernel_rfl))
 f338:=Tryz.func183.trans (congrArg some (by kernel_rfl))
 t0:=Tryz.underlying0
 a0:=Tryz.isAgg0
 z0:=Tryz.sizeOf0
 v0:=Tryz.zeroValue0
 t2:=Tryz.underlying2
 a2:=Tryz.isAgg2
 z2:=Tryz.sizeOf2
 v2:=Tryz.zeroValue2
 t3:=Tryz.underlying3
 a3:=Tryz.isAgg3
 z3:=Tryz.sizeOf3
 v3:=Tryz.zeroValue3
 t4:=Tryz.underlying4
 a4:=Tryz.isAgg4
 z4:=Tryz.sizeOf4
 v4:=Tryz.zeroValue4
 t5:=Tryz.underlying5
 a5:=Tryz.isAgg5
 z5:=Tryz.sizeOf5
 v5:=Tryz.zeroValue5
 t9:=Tryz.underlying9
 a9:=Tryz.isAgg9
 z9:=Tryz.sizeOf9
 v9:=Tryz.zeroValue9
 t20:=Tryz.underlying20
 a20:=Tryz.isAgg20
 z20:=Tryz.sizeOf20
 v20:=Tryz.zeroValue20
 t37:=Tryz.underlying100
 a37:=Tryz.isAgg100
 z37:=Tryz.sizeOf100
 v37:=Tryz.zeroValue100
 t46:=Tryz.underlying140
 a46:=Tryz.isAgg140
 z46:=Tryz.sizeOf140
 v46:=Tryz.zeroValue140
 t51:=Tryz.underlying165
 a51:=Tryz.isAgg165
 z51:=Tryz.sizeOf165
 v51:=Tryz.zeroValue165
 t53:=Tryz.underlying192
 a53:=Tryz.isAgg192
 z53:=Tryz.sizeOf192
 v53:=Tryz.zeroValue192
 t171:=Tryz.underlying191
 a171:=Tryz.isAgg191
 z171:=Tryz.sizeOf191
 v171:=Tryz.zeroValue191
 t173:=Tryz.underlying195
 a173:=Tryz.isAgg195
 z173:=Tryz.sizeOf195
 v173:=Tryz.zeroValue195
 t212:=Tryz.underlying207
 a212:=Tryz.isAgg207
 z212:=Tryz.sizeOf207
 v212:=Tryz.zeroValue207
 t213:=Tryz.underlying208
 a213:=Tryz.isAgg208
 z213:=Tryz.sizeOf208
 t232:=Tryz.underlying223
 a232:=Tryz.isAgg223
 z232:=Tryz.sizeOf223
 v232:=Tryz.zeroValue223
 t233:=Tryz.underlying224
 a233:=Tryz.isAgg224
 z233:=Tryz.sizeOf224
 v233:=Tryz.zeroValue224
 g17:=by kernel_rfl
 g18:=by kernel_rfl
 g19:=by kernel_rfl
 i0:=by kernel_rfl
 i2:=by kernel_rfl
 i3:=by kernel_rfl
 i4:=by kernel_rfl
 i5:=by kernel_rfl
 i9:=by kernel_rfl
 i20:=by kernel_rfl
 i37:=by kernel_rfl
 i46:=by kernel_rfl
 i51:=by kernel_rfl
 i53:=by kernel_rfl
 i171:=by kernel_rfl
 i173:=by kernel_rfl
 i212:=by kernel_rfl
 i232:=by kernel_rfl
 i233:=by kernel_rfl
 m17:=by kernel_rfl
 m18:=by kernel_rfl
 m19:=by kernel_rfl }
def layCutSuffix_ren:Go.Shelf.Ren:=⟨fun | 104=>157 | 211=>170 | 207=>181 | n=>n,fun | 9=>9 | 4=>4 | 24=>52 | 3=>3 | n=>n,fun | n=>n⟩
theorem layCutSuffix:Go.Proofs.Lays.n104 Tryz.prog layCutSuffix_ren:={
 mixed:=by kernel_rfl
 f104:=Tryz.func157.trans (congrArg some (by kernel_rfl))
 f207:=Tryz.func181.trans (congrArg some (by kernel_rfl))
 f211:=Tryz.func170.trans (congrArg some (by kernel_rfl))
 t3:=Tryz.underlying3
 a3:=Tryz.isAgg3
 z3:=Tryz.sizeOf3
 v3:=Tryz.zeroValue3
 t4:=Tryz.underlying4
 a4:=Tryz.isAgg4
 z4:=Tryz.sizeOf4
 v4:=Tryz.zeroValue4
 t9:=Tryz.underlying9
 a9:=Tryz.isAgg9
 z9:=Tryz.sizeOf9
 v9:=Tryz.zeroValue9
 t24:=Tryz.underlying52
 a24:=Tryz.isAgg52
 z24:=Tryz.sizeOf52
 v24:=Tryz.zeroValue52 }
end Go.Proofs.YtekcjfdllclphaaGreatDoor.gn
end
section
namespace Go.Proofs.YtekcjfdllclphaaGreatDoor.gn
open Go.RowKit
open Go.Proofs.YtekcjfdllclphaaGreatDoor.un
structure LaidU (w:World):Prop where
 tab : Lib.TabIs Tryz.prog w "internal/strconv.uint64pow10" .u64 Lib.pow10Tab
 syn : ∃ tp p, w.var? Tryz.prog "strconv.ErrSyntax" = some #[.iface tp p]
theorem gErrSyn : Tryz.prog.globalNamed "strconv.ErrSyntax" = some (layParseInt_ren.g 15) := by kernel_rfl
theorem LaidU.next {w w':World} (h:LaidU w) (hb:Below w.heap.size w w'):LaidU w':=by
 refine ⟨(Lib.tabBelow_of_tabIs h.tab) w' hb,?_⟩
 obtain ⟨tp,p,hs⟩:=h.syn
 exact ⟨tp,p,Joins.var_stays gErrSyn hs hb (Nat.le_refl _)⟩
def Told (v:Value) (w:World) (e:Ending) (w':World):Prop:=e=.returned v∧Below w.heap.size w w'
theorem format_any (n:Int) (h0:-9223372036854775808≤n) (h1:n≤9223372036854775807) (w:World) (hL:LaidU w) :
  Calls Tryz.prog 122 #[.int .i64 n,.int .i64 10] w (Told (.string (str (Lib.itoa n))) w) :=
 (Any.strconv_FormatInt_10 layFormatInt n h0 h1 w hL.tab).mono fun e w' ⟨he,k,os,hw⟩=>⟨he,by subst hw;exact Lib.below_grow _ w (Nat.le_refl _) k os⟩
def TParse (o:Option Int) (w:World) (e:Ending) (w':World):Prop :=
 (∀ n,o=some n→e=.returned (.tuple #[.int .i64 n,.nilIface]))∧(o=none→∃ t a,e=.returned (.tuple #[.int .i64 0,.iface t (.pointer (some a))]))∧Below w.heap.size w w'
theorem parse_any (l:List UInt8) (hl:l.length≤13) (w:World) (hL:LaidU w) :
  Calls Tryz.prog 138 #[.string (str l),.int .i64 10,.int .i64 64] w (TParse (Lib.atoi l) w):=by
 have hz:=str_size l
 have hd:(str l).data.toList=l:=by simp [str]
 have hp:=parse_short hl
 cases ha:Lib.atoi l with
 | none =>
  obtain ⟨tp,p,hs⟩:=hL.syn
  refine (Any.strconv_ParseInt_10_at64_syntax_var layParseInt (str l) (by omega) (by rw [hd,hp,ha];rfl) tp p w hs).mono ?_
  rintro e w' ⟨N,he,_,_,hb⟩
  exact ⟨fun n h=>(by cases h),fun _=>⟨_,_,he⟩,hb⟩
 | some n =>
  refine (Any.strconv_ParseInt_10_at64_ok layParseInt (str l) (by omega) n (by rw [hd,hp,ha];rfl) w).mono ?_
  rintro e w' ⟨he,hw⟩
  refine ⟨fun m h=>(by cases h;exact he),fun h=>(by cases h),?_⟩
  rcases hw with rfl | ⟨t,rfl⟩
  ·exact Below.refl _ _
  ·exact Lib.bytesWorld_below _ _ _
theorem uof_any (n:Int) (w:World):Calls Tryz.prog 121 #[.int .i64 n] w fun e w'=>e=.returned (.int .i64 (min (max n 0) 1099511627776))∧w=w':=by
 go_enter Tryz.func121,Tryz.ntmps121
 go_wp2
 go_ret
 exact ⟨rfl,rfl⟩
set_option maxRecDepth 100000 in
theorem text_any (n:Int) (h0:-9223372036854775808≤n) (h1:n≤9223372036854775807) (w:World) (hL:LaidU w) :
  Calls Tryz.prog 93 #[.int .i64 n] w (Told (.string (str (txt n))) w):=by
 by_cases hq:0≤n∧n≤1099511627776
 ·have e1:txt n=Lib.itoa n:=by
   unfold txt Lib.itoa
   rw [if_pos hq,if_neg (by omega)]
  have E1:=Lib.hid e1
  have HL:=Lib.hid hL
  clear e1 hL
  obtain ⟨q0,q1⟩:=hq
  have hm:min (max n 0) 1099511627776=n:=by omega
  have HM:=Lib.hid hm
  clear hm
  go_enter Tryz.func93,Tryz.ntmps93
  go_wp2_with (first
   | (go_at_call 121;refine (uof_any n _).mono ?_;rintro e w' ⟨rfl,rfl⟩;rw [HM.out])
   | (go_at_call 122;refine (format_any n h0 h1 _ HL.out).mono ?_;rintro e w' ⟨rfl,hb⟩;have HB:=Lib.hid hb;clear hb))
  go_ret
  exact ⟨by rw [E1.out];rfl,HB.out⟩
 ·have e1:txt n=[]:=txt_out hq
  have E1:=Lib.hid e1
  clear e1
  obtain ⟨m,hm⟩:∃ m,m=min (max n 0) 1099511627776:=⟨_,rfl⟩
  have hne:(n == m)=false:=by
   rw [beq_eq_false_iff_ne]
   omega
  have HM:=Lib.hid hm
  clear hm hq
  go_enter Tryz.func93,Tryz.ntmps93
  go_wp2_with (go_at_call 121;refine (uof_any n _).mono ?_;rintro e w' ⟨rfl,rfl⟩;rw [←HM.out])
  go_ret
  exact ⟨by rw [E1.out];rfl,Below.refl _ _⟩
def qv (o:Option Nat):Int:=((o.getD 0:Nat):Int)
def qe (o:Option Nat):Int:=if o.isSome then 0 else 130
def Tnum (o:Option Nat):World→Ending→World→Prop:=Told (.tuple #[.int .i64 (qv o),.int .i64 (qe o)])
theorem qv_none:qv none=0:=rfl
theorem qe_none:qe none=130:=rfl
theorem qv_some (n:Nat):qv (some n)=(n:Int):=rfl
theorem qe_some (n:Nat):qe (some n)=0:=rfl
set_option maxRecDepth 100000 in
theorem number_long (l:List UInt8) (hl:13 < l.length) (hm:l.length≤140737488355328) (w:World):Calls Tryz.prog 114 #[.string (str l)] w (Tnum (num? l) w):=by
 rw [num_none_long hl]
 have hz:13 < (str l).size:=by rw [str_size];exact hl
 have hz2:(str l).size≤140737488355328:=by rw [str_size];exact hm
 clear hl hm
 go_enter Tryz.func114,Tryz.ntmps114
 go_wp2
 go_ret2
 exact ⟨rfl,Below.refl _ _⟩
set_option maxRecDepth 100000 in
set_option maxHeartbeats 800000 in
theorem number_bad (l:List UInt8) (hl:l.length≤13) (ha:Lib.atoi l=none) (w:World) (hL:LaidU w):Calls Tryz.prog 114 #[.string (str l)] w (Tnum (num? l) w):=by
 rw [num_of_atoi_none ha]
 have hz:(str l).size≤13:=by rw [str_size];exact hl
 have HP:=Lib.hid (parse_any l hl w hL)
 have HA:=Lib.hid ha
 clear hl ha hL
 go_enter Tryz.func114,Tryz.ntmps114
 go_wp2_with (go_at_call 138;refine HP.out.mono ?_;rintro e w' ⟨_,h2,hb⟩;obtain ⟨t,a,rfl⟩:=h2 HA.out;have HB:=Lib.hid hb;clear hb h2)
 go_ret2
 exact ⟨rfl,HB.out⟩
set_option maxRecDepth 100000 in
set_option maxHeartbeats 1600000 in
theorem number_ok (l:List UInt8) (hl:l.length≤13) (n:Int) (ha:Lib.atoi l=some n) (w:World) (hL:LaidU w):Calls Tryz.prog 114 #[.string (str l)] w (Tnum (num? l) w):=by
 have hb:=Lib.atoi_bound ha (by omega)
 have hnum:=num_of_atoi ha hl
 have hz:(str l).size≤13:=by rw [str_size];exact hl
 have HP:=Lib.hid (parse_any l hl w hL)
 have HA:=Lib.hid ha
 have HL:=Lib.hid hL
 have hx:-9223372036854775808≤n:=by omega
 have hy:n≤9223372036854775807:=by omega
 by_cases ht:txt n=l
 ·rw [if_pos ht] at hnum
  rw [hnum]
  have q1:((str (txt n)).toList == (str l).toList)=true:=by rw [ht];simp
  have hn0:0≤n:=by
   have:=num_some hnum
   rcases Int.lt_or_le n 0 with h | h
   ·rw [txt_out (by omega)] at ht
    exact absurd ht.symm this.1
   ·exact h
  have HV:=Lib.hid (show qv (some n.toNat)=n by rw [qv_some];omega)
  clear hl ha hL hnum ht hb hn0
  go_enter Tryz.func114,Tryz.ntmps114
  go_wp2_with (first
   | (go_at_call 138;refine HP.out.mono ?_;rintro e w' ⟨h2,_,hb⟩;obtain rfl:=h2 n HA.out;have HB:=Lib.hid hb;clear hb h2)
   | (go_at_call 93;refine (text_any n hx hy _ (HL.out.next HB.out)).mono ?_;rintro e w2 ⟨rfl,hb2⟩;have HB2:=Lib.hid (HB.out.trans (hb2.mono HB.out.size));clear hb2))
  go_ret2
  exact ⟨by rw [HV.out];rfl,HB2.out⟩
 ·rw [if_neg ht] at hnum
  rw [hnum]
  have q1:((str (txt n)).toList == (str l).toList)=false:=by
   rw [str_toList,str_toList,beq_eq_false_iff_ne]
   exact ht
  clear hl ha hL hnum ht hb
  go_enter Tryz.func114,Tryz.ntmps114
  go_wp2_with (first
   | (go_at_call 138;refine HP.out.mono ?_;rintro e w' ⟨h2,_,hb⟩;obtain rfl:=h2 n HA.out;have HB:=Lib.hid hb;clear hb h2)
   | (go_at_call 93;refine (text_any n hx hy _ (HL.out.next HB.out)).mono ?_;rintro e w2 ⟨rfl,hb2⟩;have HB2:=Lib.hid (HB.out.trans (hb2.mono HB.out.size));clear hb2))
  go_ret2
  exact ⟨rfl,HB2.out⟩
theorem number_unit (l:List UInt8) (hm:l.length≤140737488355328) (w:World) (hL:LaidU w):Calls Tryz.prog 114 #[.string (str l)] w (Tnum (num? l) w):=by
 by_cases hl:13 < l.length
 ·exact number_long l hl hm w
 ·cases ha:Lib.atoi l with
  | none=>exact number_bad l (by omega) ha w hL
  | some n=>exact number_ok l (by omega) n ha w hL
end Go.Proofs.YtekcjfdllclphaaGreatDoor.gn
end
