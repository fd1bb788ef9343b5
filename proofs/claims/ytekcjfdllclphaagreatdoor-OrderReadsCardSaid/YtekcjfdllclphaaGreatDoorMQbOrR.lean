/- Orders, plain: errors and their lines; what is refused; a text's length; the head's texts. (Written ahead of the code.) -/
import Derived.Test.YtekcjfdllclphaaGreatDoorMQbOrP
import Derived.Test.YtekcjfdllclphaaGreatDoorMQbOrM
import Derived.Test.YtekcjfdllclphaaGreatDoorMQbGen
import Derived.Maps.Views
import Derived.Recover
import Derived.Defers
import Derived.Test.YtekcjfdllclphaaGreatDoorMQbSlSa
set_option linter.unusedVariables false
set_option linter.unusedSimpArgs false
section
namespace Go.Proofs.YtekcjfdllclphaaGreatDoor.od
open Go.Proofs.YtekcjfdllclphaaGreatDoor.un
open Go.Proofs.YtekcjfdllclphaaGreatDoor.di
open Go.Proofs.YtekcjfdllclphaaGreatDoor.sp
open Go.Lib (decDigits)
theorem lrun_err:∀ (L:List Tx) (s:Slip × List Nat) (i:Nat) (e:Int × Nat),lrun s i L=.error e→e.1≠0∧i≤e.2
 | [],s,i,e,h=>by simp [lrun] at h
 | l::r,s,i,e,h=>by
  unfold lrun at h
  split at h
  ·split at h
   ·next h1=>cases h;exact ⟨h1,Nat.le_refl _⟩
   ·split at h
    ·cases h;exact ⟨by simp,Nat.le_refl _⟩
    ·have:=lrun_err r _ _ _ h
     exact ⟨this.1,by omega⟩
  ·have:=lrun_err r _ _ _ h
   exact ⟨this.1,by omega⟩
theorem sread_cases (s:Tx):(∃ x,sread s=(x,0,0)∧Ok x)∨∃ e i,sread s=(Slip.zero,e,i)∧e≠0:=by
 unfold sread
 split
 ·exact .inr ⟨3,0,rfl,by decide⟩
 ·split
  ·exact .inr ⟨150,1,rfl,by decide⟩
  ·split
   ·exact .inr ⟨150,1,rfl,by decide⟩
   ·split
    ·next h=>exact .inr ⟨_,_,rfl,(lrun_err _ _ _ _ h).1⟩
    ·next st _ =>
     split
     ·next h=>exact .inl ⟨_,rfl,(chkS_iff _).1 h⟩
     ·exact .inr ⟨150,_,rfl,by decide⟩
theorem ok_sub {x:Slip} (h:Ok x):OkO { Ord.at 2 with slip:=x } :=
 ⟨⟨by simp [Ord.at],by simp [Ord.at]⟩,fun _=>h,fun h=>absurd rfl h,fun h=>by simp [hasN,Ord.at] at h,fun _=>rfl,fun h=>by simp [hasJ,Ord.at] at h,fun _=>rfl,fun h=>by simp [hasU,Ord.at] at h,fun _=>⟨rfl,rfl⟩,fun h=>by simp [hasP,Ord.at] at h,fun _=>rfl,fun h=>by simp [Ord.at] at h,fun _=>rfl,fun _ _=>rfl⟩
theorem fs_len {o:Ord} (h:OkO o) {f:Fl} (hf:f∈fsO o):(wtx f).length≤45:=by
  have:f.1.length≤8∧f.2.length≤32:=by
    unfold fsO at hf
    simp only [List.mem_append] at hf
    rcases hf with ((((((hf | hf) | hf) | hf) | hf) | hf) | hf) <;> split at hf <;> simp only [List.mem_cons,List.not_mem_nil,or_false] at hf
    · subst hf;have:=txt_len o.job;exact ⟨by dsimp only;decide,by dsimp only;omega⟩
    · subst hf;have:=txt_len o.n;exact ⟨by dsimp only;decide,by dsimp only;omega⟩
    · subst hf;cases o.yes <;> exact ⟨by decide,by decide⟩
    · next hu => rcases hf with rfl | rfl
                 · have:=name_len (h.name1 hu).2;exact ⟨by dsimp only;decide,this⟩
                 · have:=name_len (h.name1 hu).1;exact ⟨by dsimp only;decide,this⟩
    · subst hf;have:=stxt_len o.size;exact ⟨by dsimp only;decide,by dsimp only;omega⟩
    · next hu=>subst hf;have:=name_len (h.pool1 hu);exact ⟨by dsimp only;decide,this⟩
    · subst hf;cases o.yes <;> exact ⟨by decide,by decide⟩
  unfold wtx
  rw [List.length_append,List.length_cons]
  omega
theorem fs_count (o:Ord):(fsO o).length≤8:=by
 unfold fsO
 simp only [List.length_append]
 repeat' split
 all_goals simp
def o1T:Tx:=[116,105,99,107,32,110,61,53]
def o2T:Tx:=[109,97,107,101,32,117,115,101,114,61,97,32,110,97,109,101,61,98,32,99,97,112,97,99,105,116,121,61,49,75,105,66,32,112,111,111,108,61,112,32,97,99,99,101,115,115,61,112,117,98,108,105,99]
def o3T:Tx:=[101,110,100,32,106,111,98,61,51,32,114,101,115,117,108,116,61,109,97,121,98,101]
def o4T:Tx:=[115,117,98,109,105,116,10,106,111,98,32,117,115,101,114,61,97]
def o1O:Ord:={ Ord.at 1 with n:=5 }
def o2O:Ord:={ Ord.at 15 with user:=[97],name:=[98],size:=1024,pool:=[112],yes:=true }
theorem o1_read:oread o1T=(o1O,0,0):=by decide +kernel
theorem o2_read:oread o2T=(o2O,0,0):=by decide +kernel
theorem o3_read:(oread o3T).2=(160,1):=by decide +kernel
theorem o4_read:(oread o4T).2=(150,2):=by decide +kernel
theorem o2_chk:chkO o2O=true:=by decide +kernel
theorem o2_txt:txtO o2O=o2T:=by decide +kernel
end Go.Proofs.YtekcjfdllclphaaGreatDoor.od
end
section
namespace Go.Proofs.YtekcjfdllclphaaGreatDoor.od
open Go.Proofs.YtekcjfdllclphaaGreatDoor.un
open Go.Proofs.YtekcjfdllclphaaGreatDoor.di
open Go.Proofs.YtekcjfdllclphaaGreatDoor.sp
open Go.Lib (decDigits)
def okO (k:Nat) (key v:Tx):Bool :=
 if key=jobW then (within? v 1 1073741824).isSome
 else if key=nK then (within? v (lo k) (hi k)).isSome
 else if key=resK then (v == okW || v == badW)
 else if key=capK then decide (0 < (size? v).getD 0)
 else if key=accK then (v == pubV || v == priV)
 else isName v
def numV (v:Tx):Int:=(((num? v).getD 0:Nat):Int)
def sizV (v:Tx):Int:=(((size? v).getD 0:Nat):Int)
def stO (key v:Tx) (o:Ord):Ord :=
 if key=jobW then { o with job:=numV v }
 else if key=nK then { o with n:=numV v }
 else if key=resK then { o with yes:=v == okW }
 else if key=accK then { o with yes:=v == pubV }
 else if key=capK then { o with size:=sizV v }
 else if isName v=false then o
 else if key=userK then { o with user:=v }
 else if key=nameK then { o with name:=v }
 else { o with pool:=v }
def Eight (key:Tx):Prop:=key=jobW∨key=nK∨key=resK∨key=userK∨key=nameK∨key=capK∨key=poolK∨key=accK
theorem key_eight {k:Nat} {key:Tx} (h:key∈keysO k):Eight key:=by
 unfold keysO at h
 unfold Eight
 simp only [List.mem_append] at h
 rcases h with ((((((h | h) | h) | h) | h) | h) | h) <;> split at h <;> simp at h <;> first | (rcases h with h | h <;> simp [h]) | simp [h]
theorem eight_ne {key:Tx} (h:Eight key):key≠[]∧(61:UInt8) ∉ key∧key.length≤8:=by
 rcases h with rfl | rfl | rfl | rfl | rfl | rfl | rfl | rfl <;> decide
theorem ostep_st (k:Nat) (o:Ord) {key:Tx} (h:Eight key) (v:Tx):ostep k o (key,v)=if okO k key v=true then some (stO key v o) else none:=by
 have wi:∀ a b:Nat,(∃ n,within? v a b=some n∧num? v=some n)∨within? v a b=none:=fun a b=>by
  cases hw:within? v a b with
  | none=>exact .inr rfl
  | some n=>exact .inl ⟨n,rfl,(within_some hw).2.2.2⟩
 rcases h with rfl | rfl | rfl | rfl | rfl | rfl | rfl | rfl
 ·show (within? v 1 1073741824).map (fun n=>({ o with job:=(n:Int) }:Ord))=if (within? v 1 1073741824).isSome=true then some { o with job:=numV v } else none
  rcases wi 1 1073741824 with ⟨n,h1,h2⟩ | h1
  ·unfold numV;rw [h1,h2];rfl
  ·rw [h1];rfl
 ·show (within? v (lo k) (hi k)).map (fun n=>({ o with n:=(n:Int) }:Ord))=if (within? v (lo k) (hi k)).isSome=true then some { o with n:=numV v } else none
  rcases wi (lo k) (hi k) with ⟨n,h1,h2⟩ | h1
  ·unfold numV;rw [h1,h2];rfl
  ·rw [h1];rfl
 ·show (if v=okW then some { o with yes:=true } else if v=badW then some { o with yes:=false } else none)=if (v == okW || v == badW)=true then some { o with yes:=v == okW } else none
  by_cases h1:v=okW
  ·subst h1;rfl
  ·rw [if_neg h1,show (v == okW)=false by rw [beq_eq_false_iff_ne];exact h1]
   by_cases h2:v=badW
   ·subst h2;rfl
   ·rw [if_neg h2,show (v == badW)=false by rw [beq_eq_false_iff_ne];exact h2];rfl
 ·show (if isName v=true then some { o with user:=v } else none)=if isName v=true then some (if isName v=false then o else { o with user:=v }) else none
  cases isName v <;> rfl
 ·show (if isName v=true then some { o with name:=v } else none)=if isName v=true then some (if isName v=false then o else { o with name:=v }) else none
  cases isName v <;> rfl
 ·show (match size? v with
  | some n=>if 0 < n then some { o with size:=(n:Int) } else none
  | none=>none)=if decide (0 < (size? v).getD 0)=true then some { o with size:=sizV v } else none
  unfold sizV
  cases hs:size? v with
  | none=>rfl
  | some n =>
   dsimp only
   by_cases h0:0 < n
   ·rw [if_pos h0,if_pos (by simpa using h0)];rfl
   ·rw [if_neg h0,if_neg (by simpa using h0)]
 ·show (if isName v=true then some { o with pool:=v } else none)=if isName v=true then some (if isName v=false then o else { o with pool:=v }) else none
  cases isName v <;> rfl
 ·show (if v=pubV then some { o with yes:=true } else if v=priV then some { o with yes:=false } else none)=if (v == pubV || v == priV)=true then some { o with yes:=v == pubV } else none
  by_cases h1:v=pubV
  ·subst h1;rfl
  ·rw [if_neg h1,show (v == pubV)=false by rw [beq_eq_false_iff_ne];exact h1]
   by_cases h2:v=priV
   ·subst h2;rfl
   ·rw [if_neg h2,show (v == priV)=false by rw [beq_eq_false_iff_ne];exact h2];rfl
theorem okO_nil (k:Nat) {key:Tx} (h:Eight key):okO k key []=false:=by
 have w0:∀ a b:Nat,within? [] a b=none:=fun a b=>rfl
 rcases h with rfl | rfl | rfl | rfl | rfl | rfl | rfl | rfl
 ·show (within? [] 1 1073741824).isSome=false;rw [w0];rfl
 ·show (within? [] (lo k) (hi k)).isSome=false;rw [w0];rfl
 ·rfl
 ·rfl
 ·rfl
 ·show decide (0 < (size? []).getD 0)=false;rw [size_nil];rfl
 ·rfl
 ·rfl
theorem stO_kind (key v:Tx) (o:Ord):(stO key v o).kind=o.kind∧(stO key v o).slip=o.slip:=by
 unfold stO
 repeat' split
 all_goals exact ⟨rfl,rfl⟩
theorem orun_step (k:Nat) (o:Ord) {key:Tx} (h:Eight key) (ks:List Tx) (w:Tx) (ws:List Tx):orun k o (key::ks) (w::ws)=if (fldB 61 w).1=key∧okO k key (fldB 61 w).2=true then orun k (stO key (fldB 61 w).2 o) ks ws else none:=by
 rw [orun,cut_B]
 unfold fldB
 cases hc:cutB 61 w with
 | none =>
  rw [if_neg]
  rintro ⟨_,h2⟩
  rw [show ((none:Option (Tx × Tx)).getD (w,[])).2=[] from rfl,okO_nil k h] at h2
  cases h2
 | some f =>
  obtain ⟨a,v⟩:=f
  simp only [Option.getD_some]
  by_cases ha:a=key
  ·subst ha
   rw [if_pos rfl,ostep_st k o h v]
   cases okO k a v
   ·simp
   ·simp
  ·rw [if_neg ha,if_neg fun e=>ha e.1]
theorem cut_join:∀ ws:List Tx,(∀ w∈ws,(32:UInt8) ∉ w)→fldB 32 (joinC 32 ws)=(ws.headD [],joinC 32 ws.tail)∧(cutB 32 (joinC 32 ws)).isSome=decide (ws.tail≠[])
 | [],_=>⟨rfl,rfl⟩
 | [a],h=>by
  have:=(cutB_mem 32).2 (h a (by simp))
  unfold fldB
  show (cutB 32 a).getD (a,[])=(a,[])∧(cutB 32 a).isSome=_
  rw [this]
  exact ⟨rfl,rfl⟩
 | a::b::r,h=>by
  unfold fldB
  rw [joinC_cons 32 a (by simp),cutB_at 32 a _ (h a (by simp))]
  exact ⟨rfl,by simp⟩
structure LO (k:Nat) (ws0:List Tx) (i:Nat) (ws:List Tx) (o:Ord):Prop where
 e:orun k (Ord.at k) (keysO k) ws0=orun k o ((keysO k).drop i) ws
 c:∀ w∈ws,(32:UInt8) ∉ w
 kd:o.kind=k
theorem LO.start (k:Nat) {ws:List Tx} (h:∀ w∈ws,(32:UInt8) ∉ w):LO k ws 0 ws (Ord.at k):=⟨rfl,h,rfl⟩
theorem LO.step {k:Nat} {ws0:List Tx} {i:Nat} {ws:List Tx} {o:Ord} (h:LO k ws0 i ws o) {key:Tx} (hk:(keysO k)[i]?=some key) (h1:(fldB 61 (ws.headD [])).1=key) (h2:okO k key (fldB 61 (ws.headD [])).2=true):LO k ws0 (i+1) ws.tail (stO key (fldB 61 (ws.headD [])).2 o):=by
 have h8:=key_eight (List.mem_of_getElem? hk)
 refine ⟨?_,fun w hw=>h.c w (List.mem_of_mem_tail hw),(stO_kind _ _ _).1.trans h.kd⟩
 rw [h.e]
 obtain ⟨hi,he⟩:=List.getElem?_eq_some_iff.1 hk
 rw [List.drop_eq_getElem_cons hi,he]
 cases ws with
 | nil=>exact absurd h1.symm (eight_ne h8).1
 | cons w ws =>
  rw [orun_step k o h8,if_pos ⟨h1,h2⟩]
  rfl
theorem LO.fail {k:Nat} {ws0:List Tx} {i:Nat} {ws:List Tx} {o:Ord} (h:LO k ws0 i ws o) {key:Tx} (hk:(keysO k)[i]?=some key) (h1:¬ ((fldB 61 (ws.headD [])).1=key∧okO k key (fldB 61 (ws.headD [])).2=true)):orun k (Ord.at k) (keysO k) ws0=none:=by
 have h8:=key_eight (List.mem_of_getElem? hk)
 rw [h.e]
 obtain ⟨hi,he⟩:=List.getElem?_eq_some_iff.1 hk
 rw [List.drop_eq_getElem_cons hi,he]
 cases ws with
 | nil=>rfl
 | cons w ws=>exact (orun_step k o h8 _ _ _).trans (if_neg h1)
theorem LO.fin {k:Nat} {ws0:List Tx} {ws:List Tx} {o:Ord} (h:LO k ws0 (keysO k).length ws o):orun k (Ord.at k) (keysO k) ws0=if ws=[] then some o else none:=by
 rw [h.e,List.drop_length]
 cases ws with
 | nil=>rfl
 | cons w ws=>rfl
def kindN (w:Tx):Nat:=((List.range 19).find? fun k=>decide (wordO k=w)).getD 0
theorem kindN_word {k:Nat} (h:k≤18):kindN (wordO k)=k:=by
 rcases (show k=0∨(1≤k∧k≤18) by omega) with rfl | h
 ·decide +kernel
 ·rcases eighteen h with rfl | rfl | rfl | rfl | rfl | rfl | rfl | rfl | rfl | rfl | rfl | rfl | rfl | rfl | rfl | rfl | rfl | rfl <;> decide +kernel
theorem kindN_none {w:Tx} (h:∀ k,k < 19→wordO k≠w):kindN w=0:=by
 unfold kindN
 rw [List.find?_eq_none.2]
 ·rfl
 ·intro k hk
  have:=h k (List.mem_range.1 hk)
  simpa using this
theorem kindN_le (w:Tx):kindN w≤18∧(kindN w≠0→w=wordO (kindN w)):=by
 unfold kindN
 cases hf:(List.range 19).find? fun k=>decide (wordO k=w) with
 | none=>exact ⟨Nat.zero_le _,fun h=>absurd rfl h⟩
 | some k =>
  have h1:=List.mem_of_find?_eq_some hf
  have h2:=List.find?_some hf
  rw [List.mem_range] at h1
  exact ⟨by simp only [Option.getD_some];omega,fun _=>(of_decide_eq_true h2).symm⟩
theorem kindN_O (w:Tx):kindO? w=if kindN w=0∨kindN w=2 then none else some (kindN w):=by
 obtain ⟨h1,h2⟩:=kindN_le w
 split
 ·next h =>
  cases hk:kindO? w with
  | none=>rfl
  | some k =>
   obtain ⟨a,b,rfl⟩:=kindO_some hk
   rw [kindN_word a.2] at h
   omega
 ·next h =>
  have hw:=h2 (by omega)
  generalize kindN w=k at *
  subst hw
  exact kindO_word (by omega) (by omega)
def pway (k:Nat) (ws:List Tx):Option Ord:=if k=0 then none else orun k (Ord.at k) (keysO k) ws
def pread (l:Tx):Option Ord:=pway (kindN ((cuts 32 l).headD [])) (cuts 32 l).tail
theorem pread_cons {l w:Tx} {ws:List Tx} (h:cuts 32 l=w::ws):pread l=pway (kindN w) ws:=by
 unfold pread
 rw [h]
 all_goals rfl
theorem line_cut (l:Tx):fldB 32 l=((cuts 32 l).headD [],joinC 32 (cuts 32 l).tail)∧(cutB 32 l).isSome=decide ((cuts 32 l).tail≠[])∧∀ w∈(cuts 32 l).tail,(32:UInt8) ∉ w:=by
 have h:=cut_join (cuts 32 l) (cuts_clean 32 l)
 rw [join_cuts] at h
 exact ⟨h.1,h.2,fun w hw=>cuts_clean 32 l w (List.mem_of_mem_tail hw)⟩
theorem pread_sub {l:Tx} {o:Ord} (h:pread l=some o):(o.kind=2→l=wordO 2∧o=Ord.at 2)∧(o.kind≠2→∃ w ws,cuts 32 l=w::ws∧kindO? w=some o.kind∧orun o.kind (Ord.at o.kind) (keysO o.kind) ws=some o):=by
 obtain ⟨w,ws,hc⟩:∃ w ws,cuts 32 l=w::ws:=by
  cases hc:cuts 32 l with
  | nil=>exact absurd hc (cuts_ne 32 l)
  | cons w ws=>exact ⟨w,ws,rfl⟩
 rw [pread_cons hc] at h
 have hw:=kindN_O w
 obtain ⟨h1,h2⟩:=kindN_le w
 generalize kindN w=k at *
 unfold pway at h
 split at h
 ·cases h
 ·next h0 =>
  by_cases hk2:k=2
  ·subst hk2
   have hw2:=h2 (by decide)
   have:ws=[]∧o=Ord.at 2:=by
    cases ws with
    | nil=>exact ⟨rfl,(Option.some.inj h).symm⟩
    | cons a r=>cases h
   obtain ⟨rfl,rfl⟩:=this
   refine ⟨fun _=>⟨?_,rfl⟩,fun h=>absurd rfl h⟩
   rw [←join_cuts 32 l,hc,hw2]
   rfl
  ·have hok:=orun_ok (show 1≤k∧k≤18 by omega) hk2 h
   rw [hok.2.1]
   refine ⟨fun e=>absurd e hk2,fun _=>⟨w,ws,hc,?_,h⟩⟩
   rw [hw,if_neg (by omega)]
theorem oread_of {s w:Tx} {ws:List Tx} (hs:subL.isPrefixOf s=false) (hc:cuts 32 s=w::ws):oread s=match kindO? w with
      | some k=>(match orun k (Ord.at k) (keysO k) ws with
        | some o=>(o,0,0)
        | none=>(Ord.zero,160,1))
      | none=>(Ord.zero,160,1):=by
  unfold oread
  rw [hs,if_neg (by decide),hc]
  all_goals rfl
theorem pread_none {s w:Tx} {ws:List Tx} (hs:subL.isPrefixOf s=false) (hc:cuts 32 s=w::ws) (h:pread s=none):oread s=(Ord.zero,160,1):=by
 rw [oread_of hs hc,kindN_O]
 rw [pread_cons hc] at h
 generalize kindN w=k at *
 unfold pway at h
 split
 ·next k hk =>
  split at hk
  ·cases hk
  ·next hn =>
   cases hk
   rw [if_neg (by omega)] at h
   rw [h]
 ·rfl
theorem size_plain {v:Tx} {n:Nat} (h:size? v=some n):(10:UInt8) ∉ v:=by
 unfold size? at h
 cases hn:num? (spl v).1 with
 | none=>rw [hn] at h;cases h
 | some m =>
  have h1:(10:UInt8) ∉ (spl v).1:=by
   rw [←(num_some hn).2.2.2.2]
   exact (plain_dec m).2
  rcases spl_cases v with ⟨k,hk,hs,he⟩ | ⟨_,he⟩
  ·rw [he] at h1
   rw [suffix_app hs]
   intro hm
   rcases List.mem_append.1 hm with hm | hm
   ·exact h1 hm
   ·exact (plain_nm hk).2 hm
  ·rw [he] at h1
   exact h1
theorem ostep_plain {k:Nat} {o o':Ord} {f:Fl} (h8:Eight f.1) (h:ostep k o f=some o'):(10:UInt8) ∉ f.2:=by
 obtain ⟨key,v⟩:=f
 rcases h8 with h8 | h8 | h8 | h8 | h8 | h8 | h8 | h8 <;> (dsimp only at h8;subst h8)
 ·obtain ⟨n,_,e,_⟩:=inv_job h;rw [e];exact (plain_txt n).2
 ·obtain ⟨n,_,e,_⟩:=inv_n h;rw [e];exact (plain_txt n).2
 ·obtain ⟨b,e,_⟩:=inv_res h;rw [e];cases b <;> decide
 ·obtain ⟨e,_⟩:=inv_user h;exact (plain_name e).2
 ·obtain ⟨e,_⟩:=inv_name h;exact (plain_name e).2
 ·obtain ⟨n,e,_⟩:=inv_cap h;exact size_plain e
 ·obtain ⟨e,_⟩:=inv_pool h;exact (plain_name e).2
 ·obtain ⟨b,e,_⟩:=inv_acc h;rw [e];cases b <;> decide
theorem fold_plain (k:Nat):∀ (fs:List Fl) (o o':Ord),(∀ f∈fs,Eight f.1)→fs.foldlM (ostep k) o=some o'→∀ f∈fs,(10:UInt8) ∉ f.2
 | [],_,_,_,_,f,hf=>by cases hf
 | g::fs,o,o',h8,h,f,hf=>by
  obtain ⟨o1,h1,h2⟩:=fold_cons h
  rcases List.mem_cons.1 hf with rfl | hf
  ·exact ostep_plain (h8 _ (by simp)) h1
  ·exact fold_plain k fs o1 o' (fun g hg=>h8 g (by simp [hg])) h2 f hf
theorem join_no (c d:UInt8) (hcd:d≠c):∀ L:List Tx,(∀ w∈L,d ∉ w)→d ∉ joinC c L
 | [],_=>by simp [joinC]
 | [a],h=>h a (by simp)
 | a::b::r,h=>by
  rw [joinC_cons c a (by simp)]
  intro hm
  rcases List.mem_append.1 hm with hm | hm
  ·exact h a (by simp) hm
  ·rcases List.mem_cons.1 hm with hm | hm
   ·exact hcd hm
   ·exact join_no c d hcd (b::r) (fun w hw=>h w (by simp [hw])) hm
theorem orun_lf {s w:Tx} {ws:List Tx} {k:Nat} {o:Ord} (hc:cuts 32 s=w::ws) (hk:kindO? w=some k) (h:orun k (Ord.at k) (keysO k) ws=some o):(10:UInt8) ∉ s:=by
 obtain ⟨h1,h2,rfl⟩:=kindO_some hk
 obtain ⟨_,_,fs,e1,e2,_,e3⟩:=orun_ok h1 h2 h
 have h8:∀ f∈fs,f.1∈keysO k:=fun f hf=>by rw [←e2];exact List.mem_map.2 ⟨f,hf,rfl⟩
 have hv:=fold_plain k fs _ _ (fun f hf=>key_eight (h8 f hf)) e3
 rw [←join_cuts 32 s,hc]
 refine join_no 32 10 (by decide) _ fun x hx=>?_
 rcases List.mem_cons.1 hx with rfl | hx
 ·exact (word_plain h1).1.2
 ·rw [e1] at hx
  obtain ⟨f,hf,rfl⟩:=List.mem_map.1 hx
  show (10:UInt8) ∉ f.1++61::f.2
  intro hm
  rcases List.mem_append.1 hm with hm | hm
  ·exact (key_clean (h8 f hf)).2.2 hm
  ·rcases List.mem_cons.1 hm with hm | hm
   ·exact absurd hm (by decide)
   ·exact hv f hf hm
theorem sub_pre {a r:Tx} (h:subL.isPrefixOf (a++10::r)=true) (ha:(10:UInt8) ∉ a):a=wordO 2:=by
 rw [List.isPrefixOf_iff_prefix] at h
 obtain ⟨t,ht⟩:=h
 have h1:cutB 10 (a++10::r)=some (a,r):=cutB_at 10 a r ha
 rw [←ht,show subL++t=wordO 2++10::t from rfl,cutB_at 10 (wordO 2) t (by decide)] at h1
 have:=Option.some.inj h1
 exact (Prod.mk.inj this).1.symm
theorem parse_one {s:Tx} (h:cutB 10 s=none):oread s=match pread s with
  | some o=>if o.kind=2 then (Ord.zero,160,1) else (o,0,0)
  | none=>(Ord.zero,160,1):=by
 have hno:=(cutB_mem 10).1 h
 have hs:subL.isPrefixOf s=false:=by
  cases hp:subL.isPrefixOf s with
  | false=>rfl
  | true =>
   rw [List.isPrefixOf_iff_prefix] at hp
   obtain ⟨t,rfl⟩:=hp
   exact absurd (List.mem_append.2 (.inl (by decide))) hno
 obtain ⟨w,ws,hc⟩:∃ w ws,cuts 32 s=w::ws:=by
  cases hc:cuts 32 s with
  | nil=>exact absurd hc (cuts_ne 32 s)
  | cons w ws=>exact ⟨w,ws,rfl⟩
 cases hp:pread s with
 | none=>exact pread_none hs hc hp
 | some o =>
  obtain ⟨h1,h2⟩:=pread_sub hp
  dsimp only
  split
  ·next h =>
   obtain ⟨rfl,rfl⟩:=h1 h
   decide +kernel
  ·next h =>
   obtain ⟨w',ws',hc',hk,ho⟩:=h2 h
   rw [oread_cuts hc' hk,ho]
theorem parse_two {s a r:Tx} (h:cutB 10 s=some (a,r)):oread s=match pread a with
  | some o=>if o.kind=2 then (match sread r with
   | (x,e,i)=>if e=0 then ({ Ord.at 2 with slip:=x },0,0) else (Ord.zero,e,i+1)) else (Ord.zero,160,1)
  | none=>(Ord.zero,160,1):=by
 obtain ⟨rfl,hno⟩:=cutB_some 10 s a r h
 have bad:∀ (hn:a≠wordO 2),oread (a++10::r)=(Ord.zero,160,1):=fun hn=>by
  have hs:subL.isPrefixOf (a++10::r)=false:=by
   cases hp:subL.isPrefixOf (a++10::r) with
   | false=>rfl
   | true=>exact absurd (sub_pre hp hno) hn
  obtain ⟨w,ws,hc⟩:∃ w ws,cuts 32 (a++10::r)=w::ws:=by
   cases hc:cuts 32 (a++10::r) with
   | nil=>exact absurd hc (cuts_ne 32 _)
   | cons w ws=>exact ⟨w,ws,rfl⟩
  rw [oread_of hs hc]
  split
  ·next k hk =>
   split
   ·next o ho=>exact absurd (by simp) (orun_lf hc hk ho)
   ·rfl
  ·rfl
 by_cases ha:a=wordO 2
 ·subst ha
  rw [show pread (wordO 2)=some (Ord.at 2) by decide +kernel]
  dsimp only
  rw [if_pos (show (Ord.at 2).kind=2 from rfl)]
  unfold oread
  rw [if_pos (by simp [subL,wordO,List.isPrefixOf])]
  rfl
 ·rw [bad ha]
  cases hp:pread a with
  | none=>rfl
  | some o =>
   dsimp only
   split
   ·next h2=>exact absurd ((pread_sub hp).1 h2).1 ha
   ·rfl
theorem chk_kind {o:Ord} (h:¬ (1≤o.kind∧o.kind≤18)):chkO o=false:=by
 cases hc:chkO o with
 | false=>rfl
 | true=>exact absurd ((chkO_iff o).1 hc).kind h
theorem chk_none {o:Ord} (h:(fsO o).foldlM (ostep o.kind) (Ord.at o.kind)=none):chkO o=false:=by
 cases hc:chkO o with
 | false=>rfl
 | true =>
  have ho:=(chkO_iff o).1 hc
  by_cases h2:o.kind=2
  ·unfold fsO at h
   rw [h2] at h
   cases h
  ·rw [fold_fs ho h2] at h
   cases h
theorem chk_end {o a:Ord} (hk:1≤o.kind∧o.kind≤18) (h2:o.kind≠2) (h:(fsO o).foldlM (ostep o.kind) (Ord.at o.kind)=some a):chkO o=decide (a=o):=by
 rw [Bool.eq_iff_iff,decide_eq_true_eq,chkO_iff]
 constructor
 ·intro ho
  rw [fold_fs ho h2] at h
  exact (Option.some.inj h).symm
 ·intro e
  have:=(fold_ok hk h2 (keys_fs o) h).1
  rwa [e] at this
theorem fsO_two {o:Ord} (h:o.kind=2):fsO o=[]:=by unfold fsO;rw [h];rfl
theorem chk_sub {o:Ord} (h2:o.kind=2):chkO o=(chkS o.slip && decide ({ Ord.at 2 with slip:=o.slip }=o)):=by
 rw [Bool.eq_iff_iff,Bool.and_eq_true,decide_eq_true_eq,chkO_iff,chkS_iff]
 constructor
 ·intro ho
  refine ⟨ho.slip1 h2,?_⟩
  obtain ⟨k,job,n,name,pool,user,size,yes,slip⟩:=o
  obtain ⟨_,_,e1,e2,e3,e4,e5,e6,e7,e8,e9,e10,e11,e12⟩:=ho
  dsimp only at *
  subst h2
  have a0:=e3 rfl;have b0:=e5 rfl;have c0:=e7 rfl;have d0:=e9 rfl;have f0:=e11 (by decide);have g0:=e12 (by decide) (by decide)
  obtain ⟨c0,c1⟩:=c0
  subst a0 b0 c0 c1 d0 f0 g0
  rfl
 ·rintro ⟨h1,h3⟩
  rw [←h3]
  exact ok_sub h1
structure CK (o:Ord) (i:Nat) (a:Ord):Prop where
 e:(fsO o).foldlM (ostep o.kind) (Ord.at o.kind)=((fsO o).drop i).foldlM (ostep o.kind) a
 kd:a.kind=o.kind
 sl:a.slip=Slip.zero
theorem CK.start (o:Ord):CK o 0 (Ord.at o.kind):=⟨rfl,rfl,rfl⟩
theorem fs_eight {o:Ord} {f:Fl} (h:f∈fsO o):Eight f.1:=key_eight (k:=o.kind) (by
 rw [←keys_fs]
 exact List.mem_map.2 ⟨f,h,rfl⟩)
theorem CK.next {o:Ord} {i:Nat} {a:Ord} (h:CK o i a) {f:Fl} (hf:(fsO o)[i]?=some f):(fsO o).foldlM (ostep o.kind) (Ord.at o.kind)=if okO o.kind f.1 f.2=true then ((fsO o).drop (i+1)).foldlM (ostep o.kind) (stO f.1 f.2 a) else none:=by
 rw [h.e]
 obtain ⟨hi,he⟩:=List.getElem?_eq_some_iff.1 hf
 rw [List.drop_eq_getElem_cons hi,he,List.foldlM_cons,show f=(f.1,f.2) from rfl,ostep_st _ _ (fs_eight (List.mem_of_getElem? hf))]
 cases okO o.kind f.1 f.2
 ·rfl
 ·rfl
theorem CK.step {o:Ord} {i:Nat} {a:Ord} (h:CK o i a) {f:Fl} (hf:(fsO o)[i]?=some f) (hok:okO o.kind f.1 f.2=true):CK o (i+1) (stO f.1 f.2 a):=by
 have:=h.next hf
 rw [if_pos hok] at this
 exact ⟨this,(stO_kind _ _ _).1.trans h.kd,(stO_kind _ _ _).2.trans h.sl⟩
theorem CK.fail {o:Ord} {i:Nat} {a:Ord} (h:CK o i a) {f:Fl} (hf:(fsO o)[i]?=some f) (hok:okO o.kind f.1 f.2=false):chkO o=false:=by
 have:=h.next hf
 rw [hok,if_neg (by decide)] at this
 exact chk_none this
theorem CK.fin {o:Ord} {a:Ord} (h:CK o (fsO o).length a) (hk:1≤o.kind∧o.kind≤18) (h2:o.kind≠2):chkO o=decide (a=o):=by
 refine chk_end hk h2 ?_
 rw [h.e,List.drop_length]
 rfl
theorem CK.fin2 {o:Ord} {a:Ord} (h:CK o (fsO o).length a) (h2:o.kind=2):a=Ord.at 2:=by
 have:=h.e
 rw [fsO_two h2,h2] at this
 exact (Option.some.inj this).symm
def pfO (o:Ord) (i:Nat):Tx:=joinC 32 (wordO o.kind::((fsO o).take i).map wtx)
theorem pfO_zero (o:Ord):pfO o 0=wordO o.kind:=rfl
theorem pfO_succ {o:Ord} {i:Nat} {f:Fl} (h:(fsO o)[i]?=some f):pfO o (i+1)=pfO o i++32::wtx f:=by
 unfold pfO
 rw [List.take_add_one,h]
 show joinC 32 (wordO o.kind::((fsO o).take i++[f]).map wtx)=_
 rw [List.map_append,← List.cons_append]
 exact joinC_snoc 32 _ _ (by simp)
theorem pfO_all {o:Ord}:(o.kind=2→txtO o=pfO o (fsO o).length++10::txtS o.slip)∧(o.kind≠2→txtO o=pfO o (fsO o).length):=by
 unfold txtO pfO
 rw [List.take_length]
 refine ⟨fun h=>?_,fun h=>?_⟩
 ·rw [if_pos h,fsO_two h,h]
  rfl
 ·rw [if_neg h]
end Go.Proofs.YtekcjfdllclphaaGreatDoor.od
end
section
namespace Go.Proofs.YtekcjfdllclphaaGreatDoor.gn
open Go.RowKit
theorem keyRune:Go.Maps.Keyed Tryz.prog 21:=Go.Maps.int_keyed Tryz.underlying21
theorem keyR {x:Int} (h:(Lit.int .i32 x).wf=true):keyOf Tryz.prog 21 (.int .i32 x)=some (.int .i32 x):=Go.Maps.keyOf_int_mk Tryz.underlying21 h
def MapR (w:World) (b n:Nat) (f:Int→Option Value):Prop:=∃ D,w.ownsMap Tryz.prog 21 hR b n D∧∀ x z,D.atKey (.int .i32 x) (.held z)=.held ((f x).getD z)
theorem MapR.lt {w:World} {b n:Nat} {f:Int→Option Value} (h:MapR w b n f):b < w.heap.size:=by
 obtain ⟨D,h,_⟩:=h
 exact World.ownsMap.lt h
theorem MapR.kept {w w':World} {b n:Nat} {f:Int→Option Value} (h:MapR w b n f) (hb:w'.heap[b]?=w.heap[b]?):MapR w' b n f:=by
 obtain ⟨D,⟨es,clock,h1,h2⟩,h3⟩:=h
 exact ⟨D,⟨es,clock,hb.trans h1,h2⟩,h3⟩
theorem MapR.next {w w':World} {b n:Nat} {f:Int→Option Value} (h:MapR w b n f) (hb:Below w.heap.size w w'):MapR w' b n f:=h.kept (hb.block b h.lt)
theorem MapR.new (w:World):MapR (w.alloc (.map #[] 0)) w.heap.size 0 (fun _=>none):=⟨_,World.ownsMap_made w _ _ _,fun x z=>rfl⟩
theorem MapR.put {w:World} {b n:Nat} {f:Int→Option Value} (h:MapR w b n f) {t e:TypeId} (ht:Tryz.prog.underlying t=some (.map 21 e)) (hn:n < 1000) {x:Int} (hx:(Lit.int .i32 x).wf=true) (v:Value) :
  ∃ w',(Instr.mapUpdate t (.map (some b)) (.int .i32 x) v).run Tryz.prog w=.ok () w'∧MapR w' b (n+1) (fun y=>if y=x then some v else f y)∧But b w w':=by
 obtain ⟨D,h1,h2⟩:=h
 obtain ⟨w',hrun,h3,h4⟩:=h1.update keyRune ht (show n < maxLen by unfold maxLen;omega) (keyR hx) (show hR v=some (.held v,[]) from rfl)
 refine ⟨w',hrun,⟨_,h3,fun y z=>?_⟩,h4⟩
 dsimp only
 by_cases hy:y=x
 ·subst hy
  rw [if_pos rfl,Go.Maps.atKey_put_same h1.isMap (by trivial)]
  rfl
 ·rw [if_neg hy,Go.Maps.atKey_put_other (fun e=>hy (by cases e;rfl)),h2]
theorem MapR.look {w:World} {b n:Nat} {f:Int→Option Value} (h:MapR w b n f) {t e:TypeId} (ht:Tryz.prog.underlying t=some (.map 21 e)) {z:Value} (hz:(zeroValue e).run Tryz.prog w=.ok z w) {x:Int} (hx:(Lit.int .i32 x).wf=true) :
  (Instr.lookup t (.map (some b)) (.int .i32 x) false).run Tryz.prog w=.ok ((f x).getD z) w:=by
 obtain ⟨D,h1,h2⟩:=h
 obtain ⟨v,ps,hrun,hv⟩:=h1.lookup keyRune ht hz (show hR z=some (.held z,[]) from rfl) (keyR hx)
 rw [h2] at hv
 rw [hrun,hR_inv hv]
end Go.Proofs.YtekcjfdllclphaaGreatDoor.gn
end
section
set_option maxRecDepth 100000
namespace Go.Proofs.YtekcjfdllclphaaGreatDoor.gn
open Go.RowKit Go.Shelf
open Go.Proofs.YtekcjfdllclphaaGreatDoor.un
open Go.Proofs.YtekcjfdllclphaaGreatDoor.di
open Go.Proofs.YtekcjfdllclphaaGreatDoor.sp (Slip cuts chkS sread sread_P pread)
theorem assert_spot (v:Value) (w:World):(Instr.typeAssert (.iface 32 v) 20 32 false).run Tryz.prog w=.ok v w:=by
 first | rfl | kernel_rfl | (simp [go_sem];done)
theorem catch_pan (p:Nat) (e0 l0 e line:Int) (w:World) (hc:BoxA w p 32 #[.int .i64 e0,.int .i64 l0]) :
  CallsD Tryz.prog 39 #[.pointer (some ⟨p,0,none⟩)] (.panicking (pnc e line)) w fun en u' w' =>
   en=.returned (.tuple #[])∧u'=.panicking [{ v:=spV e line,recovered:=true }]∧w'=(w.setCell ⟨p,0,none⟩ (.int .i64 e)).setCell ⟨p,1,none⟩ (.int .i64 line):=by
 have c0:=hc.cell 0 _
 have c1:=hc.cell 1 _
 have f0:=hc.free 0
 have f1:=hc.free 1
 have hlt:=hc.lt
 unfold pnc spV
 refine callsD_of_wpS Tryz.func39 rfl fun c₀ cs hu=>?_
 simp only [Tryz.ntmps39,List.size_toArray,List.length_cons,List.length_nil,Nat.reduceAdd,Nat.reduceSub,Array.replicate_succ,Array.replicate_zero,List.push_toArray,List.append_toArray,List.nil_append,List.cons_append]
 apply wpS_seq
 apply wpS_region
 simp [wpOpsS,go_sem,recoverD,hu,Exit.thenS]
 apply wpS_seq
 apply wpS_region
 simp [wpOpsS,go_sem,recoverD,hu,Exit.thenS]
 refine wpS_cond (t:=true) rfl ?_
 simp only [if_true]
 apply wpS_region
 simp [wpOpsS,go_sem,assert_spot,c0,c1,f0,f1,bodyPostS,results,Tryz.results39]
theorem catch_idle (p:Nat) (w:World) :
  CallsD Tryz.prog 39 #[.pointer (some ⟨p,0,none⟩)] .returning w fun e u' w'=>e=.returned (.tuple #[])∧u'=.returning∧w'=w:=by
 refine callsD_of_wpS Tryz.func39 rfl fun c₀ cs hu=>?_
 simp only [Tryz.ntmps39,List.size_toArray,List.length_cons,List.length_nil,Nat.reduceAdd,Nat.reduceSub,Array.replicate_succ,Array.replicate_zero,List.push_toArray,List.append_toArray,List.nil_append,List.cons_append]
 apply wpS_seq
 apply wpS_region
 simp [wpOpsS,go_sem,recoverD,hu,Exit.thenS]
 apply wpS_seq
 apply wpS_region
 simp [wpOpsS,go_sem,recoverD,hu,Exit.thenS]
 refine wpS_cond (t:=false) rfl ?_
 simp only [Bool.false_eq_true,if_false]
 refine wpS_of_wp (wp_skip ?_)
 cases c₀
 simp_all [bodyPostS,results,Tryz.results39]
def PaT (s:Tx) (w:World) (en:Ending) (w':World):Prop:=Below w.heap.size w w'∧∃ g,en=.returned (.tuple #[sV (sread s).1 g,.agg #[.int .i64 (sread s).2.1,.int .i64 ((sread s).2.2:Nat)]])∧SR w' (sread s).1 g
theorem sr_zero (W:World):SR W Slip.zero g0:=by
 refine ⟨ApC.rdc (.inr (World.ownsRow_nil W 0 88 2)),ApC.rdc (.inr (World.ownsRow_nil W 0 80 5)),ApC.rdc (.inr (World.ownsRow_nil W 0 9 1)),ApC.rdc (.inr (World.ownsRow_nil W 0 9 1)),⟨_,_,rfl,by decide,by decide⟩,⟨_,_,rfl,by decide,by decide⟩,⟨_,_,rfl,by decide,by decide⟩,⟨_,_,rfl,by decide,by decide⟩⟩
theorem results_cells2 {P:Program} {fn:Func} {p q:Tmp} {ty tz:TypeId} (h:fn.results=#[.cell p ty,.cell q tz]) (tmps:Array Value) (w:World) (g k:Nat) (t u:TypeId) (cs ds:Array Value) (fr fs:Nat × Nat) (d e:TypeDesc)
  (hp:tmps.getD p undef=.pointer (some ⟨g,0,none⟩)) (hg:w.heap[g]?=some (.cells cs t fr))
  (hu:P.underlying ty=some d) (hd:(match d with | .struct _ | .array _ _=>true | _=>false)=true) (hi:(P.info? ty).map (·.size)=some cs.size)
  (hq:tmps.getD q undef=.pointer (some ⟨k,0,none⟩)) (hk:w.heap[k]?=some (.cells ds u fs))
  (hv:P.underlying tz=some e) (he:(match e with | .struct _ | .array _ _=>true | _=>false)=true) (hj:(P.info? tz).map (·.size)=some ds.size) :
  (results fn tmps).run P w=.ok (.tuple #[.agg cs,.agg ds]) w:=by
 have hp':tmps[p]?.getD undef=.pointer (some ⟨g,0,none⟩):=by simpa using hp
 have hq':tmps[q]?.getD undef=.pointer (some ⟨k,0,none⟩):=by simpa using hq
 simp [results,h,hp',hq',asAddr,run_loadVar_row w g t ty cs fr d hg hu hd hi,run_loadVar_row w k u tz ds fs e hk hv he hj,Result.andThen]
theorem scs_one {w:World} {x:Slip} {g:Gh} (h:SR w x g):(scs x g).all (·.oneCell')=true:=by
 obtain ⟨pa,ca,ea,_,_⟩:=h.ca
 obtain ⟨pm,cm,em,_,_⟩:=h.cm
 obtain ⟨pd,cd,ed,_,_⟩:=h.cd
 obtain ⟨pu,cu,eu,_,_⟩:=h.cu
 obtain ⟨va,vm,vd,vu⟩:=g
 dsimp only at ea em ed eu
 subst ea em ed eu
 unfold scs
 dsimp only
 generalize x.after.length=n1
 generalize x.make.length=n2
 generalize x.drop.length=n3
 generalize x.use.length=n4
 kernel_rfl
theorem read_two (s:Tx) (hs:s.length≤10000) (w:World) (hL:LaidD w) :
  (∃ (e line:Int),(sread s).1=Slip.zero∧(sread s).2.1=e∧((sread s).2.2:Int)=line∧Calls Tryz.prog 40 #[.string (str s)] w fun en w'=>en=.panicked (pnc e line)∧Below w.heap.size w w') ∨
  (∃ x,sread s=(x,0,0)∧Calls Tryz.prog 40 #[.string (str s)] w fun en w'=>Below w.heap.size w w'∧∃ g,en=.returned (sV x g)∧SO w' w.heap.size x g):=by
 have h:=read_slip s hs w hL
 have hr:=sread_P hs
 unfold ReadT2 at h
 cases hp:pread Slip.zero 1 (cuts 10 s) with
 | error e =>
  rw [hp] at h hr
  exact .inl ⟨e.1,(e.2:Int),by rw [hr],by rw [hr],by rw [hr],h.mono fun en w' h=>⟨h.2,h.1⟩⟩
 | ok x =>
  rw [hp] at h hr
  dsimp only at h hr
  cases hc:chkS x with
  | false =>
   rw [hc] at h hr
   exact .inl ⟨150,((cuts 10 s).length:Int),by rw [hr];rfl,by rw [hr];rfl,by rw [hr];rfl,h.mono fun en w' h=>⟨h.2,h.1⟩⟩
  | true =>
   rw [hc] at h hr
   exact .inr ⟨x,hr,h.mono fun en w' h=>⟨h.1,h.2⟩⟩
theorem sParse_long (s:Tx) (hs:10000 < s.length) (hm:s.length≤9223372036854775807) (w:World):Calls Tryz.prog 18 #[.string (str s)] w (PaT s w):=by
 have hz:=str_size s
 have hz0:10000 < (str s).size:=by omega
 have hz1:(str s).size≤9223372036854775807:=by omega
 have HE:Hid (sread s=(Slip.zero,3,0)):=by show _=_;unfold sp.sread;rw [if_pos hs]
 have hmf:∀ (fn:Fn) (first cap:Array Value) (w:World),(Instr.makeFunc fn first cap).run Tryz.prog w=.ok (.func fn first cap) w:=fun _ _ _ _=>rfl
 clear hs hm hz
 have h0:∀ o2:Obj,((w.alloc (.cells #[.string { data:=#[] },.int .i64 0,.int .i64 0,.int .i64 0,.slice none 0 0,.int .i64 0,.int .i64 0,.int .i64 0,.string { data:=#[] },.slice none 0 0,.slice none 0 0,.slice none 0 0] 27)).alloc o2).heap[w.heap.size]?=some (.cells #[.string { data:=#[] },.int .i64 0,.int .i64 0,.int .i64 0,.slice none 0 0,.int .i64 0,.int .i64 0,.int .i64 0,.string { data:=#[] },.slice none 0 0,.slice none 0 0,.slice none 0 0] 27 (0,0)):=fun o2=>BoxA.next (BoxA.new w _ _) ((Below.refl _ _).alloc (Nat.le_refl _) _)
 have h1:∀ o1:Obj,((w.alloc o1).alloc (.cells #[.int .i64 0,.int .i64 0] 32)).heap[w.heap.size+1]?=some (.cells #[.int .i64 0,.int .i64 0] 32 (0,0)):=fun o1=>by
  have:=BoxA.new (w.alloc o1) 32 #[.int .i64 0,.int .i64 0]
  rw [World.size_alloc] at this
  exact this
 have hB2:∀ o1 o2:Obj,Below w.heap.size w ((w.alloc o1).alloc o2):=fun _ _=>((Below.refl _ w).alloc (Nat.le_refl _) _).alloc (by simp) _
 have H0:=Lib.hid h0
 have H1:=Lib.hid h1
 have HB2:=Lib.hid hB2
 clear h0 h1 hB2
 go_enter_defers Tryz.func18,Tryz.ntmps18
 go_wp2_with (first
  | (refine wpList_store_row rfl _ _ _ rfl w.heap.size #[.string { data:=#[] },.int .i64 0,.int .i64 0,.int .i64 0,.slice none 0 0,.int .i64 0,.int .i64 0,.int .i64 0,.string { data:=#[] },.slice none 0 0,.slice none 0 0,.slice none 0 0] rfl rfl _ _ (H0.out _) (by kernel_rfl) rfl (by kernel_rfl) ?_)
  | (refine wpList_store_row rfl _ _ _ rfl (w.heap.size+1) #[.int .i64 3,.int .i64 0] rfl rfl _ _ ((setRow_other _ _ _ _ (by omega)).trans (H1.out _)) (by kernel_rfl) rfl (by kernel_rfl) ?_))
 refine ⟨_,results_cells2 rfl _ _ w.heap.size (w.heap.size+1) _ _ #[.string { data:=#[] },.int .i64 0,.int .i64 0,.int .i64 0,.slice none 0 0,.int .i64 0,.int .i64 0,.int .i64 0,.string { data:=#[] },.slice none 0 0,.slice none 0 0,.slice none 0 0] #[.int .i64 3,.int .i64 0] _ _ _ _ rfl ((setRow_other _ _ _ _ (by omega)).trans (setRow_heap _ _ _ _ _ _ (H0.out _))) Tryz.underlying27 rfl (by kernel_rfl) rfl (setRow_heap _ _ _ _ _ _ ((setRow_other _ _ _ _ (by omega)).trans (H1.out _))) Tryz.underlying32 rfl (by kernel_rfl),?_⟩
 refine ⟨below_setRow (below_setRow (HB2.out _ _) (Nat.le_refl _) _) (by omega) _,g0,?_,?_⟩
 ·rw [HE.out];rfl
 ·rw [HE.out];exact sr_zero _
theorem sParse_short (s:Tx) (hs:s.length≤10000) (w:World) (hL:LaidD w):Calls Tryz.prog 18 #[.string (str s)] w (PaT s w):=by
 have hz:=str_size s
 have hz0:¬ 10000 < (str s).size:=by omega
 have hz1:(str s).size≤9223372036854775807:=by omega
 have hmf:∀ (fn:Fn) (first cap:Array Value) (w:World),(Instr.makeFunc fn first cap).run Tryz.prog w=.ok (.func fn first cap) w:=fun _ _ _ _=>rfl
 have h0:∀ o2:Obj,BoxA ((w.alloc (.cells #[.string { data:=#[] },.int .i64 0,.int .i64 0,.int .i64 0,.slice none 0 0,.int .i64 0,.int .i64 0,.int .i64 0,.string { data:=#[] },.slice none 0 0,.slice none 0 0,.slice none 0 0] 27)).alloc o2) w.heap.size 27 #[.string { data:=#[] },.int .i64 0,.int .i64 0,.int .i64 0,.slice none 0 0,.int .i64 0,.int .i64 0,.int .i64 0,.string { data:=#[] },.slice none 0 0,.slice none 0 0,.slice none 0 0]:=fun o2=>BoxA.next (BoxA.new w _ _) ((Below.refl _ _).alloc (Nat.le_refl _) _)
 have h1:∀ o1:Obj,BoxA ((w.alloc o1).alloc (.cells #[.int .i64 0,.int .i64 0] 32)) (w.heap.size+1) 32 #[.int .i64 0,.int .i64 0]:=fun o1=>by
  have:=BoxA.new (w.alloc o1) 32 #[.int .i64 0,.int .i64 0]
  rw [World.size_alloc] at this
  exact this
 have hB2:∀ o1 o2:Obj,Below w.heap.size w ((w.alloc o1).alloc o2):=fun _ _=>((Below.refl _ w).alloc (Nat.le_refl _) _).alloc (by simp) _
 have hR:=fun o1 o2:Obj=>read_two s hs ((w.alloc o1).alloc o2) (hL.next (hB2 o1 o2))
 obtain ⟨W2,hW2⟩:∃ W2,(w.alloc (.cells #[.string { data:=#[] },.int .i64 0,.int .i64 0,.int .i64 0,.slice none 0 0,.int .i64 0,.int .i64 0,.int .i64 0,.string { data:=#[] },.slice none 0 0,.slice none 0 0,.slice none 0 0] 27)).alloc (.cells #[.int .i64 0,.int .i64 0] 32)=W2:=⟨_,rfl⟩
 have hR2:=hR (.cells #[.string { data:=#[] },.int .i64 0,.int .i64 0,.int .i64 0,.slice none 0 0,.int .i64 0,.int .i64 0,.int .i64 0,.string { data:=#[] },.slice none 0 0,.slice none 0 0,.slice none 0 0] 27) (.cells #[.int .i64 0,.int .i64 0] 32)
 have h02:=h0 (.cells #[.int .i64 0,.int .i64 0] 32)
 have h12:=h1 (.cells #[.string { data:=#[] },.int .i64 0,.int .i64 0,.int .i64 0,.slice none 0 0,.int .i64 0,.int .i64 0,.int .i64 0,.string { data:=#[] },.slice none 0 0,.slice none 0 0,.slice none 0 0] 27)
 have hb2:=hB2 (.cells #[.string { data:=#[] },.int .i64 0,.int .i64 0,.int .i64 0,.slice none 0 0,.int .i64 0,.int .i64 0,.int .i64 0,.string { data:=#[] },.slice none 0 0,.slice none 0 0,.slice none 0 0] 27) (.cells #[.int .i64 0,.int .i64 0] 32)
 rw [hW2] at hR2 h02 h12 hb2
 have HW2:=Lib.hid hW2
 have H0:=Lib.hid h02
 have H1:=Lib.hid h12
 have HB2:=Lib.hid hb2
 clear hs hz hL h0 h1 hB2 hR h02 h12 hb2 hW2
 rcases hR2 with ⟨e0,l0,hx,he,hl,hc⟩ | ⟨x,hx,hc⟩
 ·have HC:=Lib.hid hc
  have HX:=Lib.hid (And.intro hx (And.intro he hl))
  clear hc hx he hl
  go_enter_defers Tryz.func18,Tryz.ntmps18
  go_upto_region 4 with fail
  rw [HW2.out]
  go_wp2_with (go_at_call 40;((with_reducible refine HC.out.mono ?_);rintro e w3 ⟨rfl,hb3⟩);have HB3:=Lib.hid hb3;clear hb3)
  refine leaves_cons (f:=39) (args:=#[.pointer (some ⟨w.heap.size+1,0,none⟩)]) (by simp) (by simp [go_sem]) ?_
  have h13:=H1.out.next HB3.out
  refine (catch_pan (w.heap.size+1) 0 0 e0 l0 w3 h13).mono ?_
  rintro e u' w4 ⟨rfl,rfl,rfl⟩
  have h03:=H0.out.next HB3.out
  have h04:BoxA ((w3.setCell ⟨w.heap.size+1,0,none⟩ (.int .i64 e0)).setCell ⟨w.heap.size+1,1,none⟩ (.int .i64 l0)) w.heap.size 27 #[.string { data:=#[] },.int .i64 0,.int .i64 0,.int .i64 0,.slice none 0 0,.int .i64 0,.int .i64 0,.int .i64 0,.string { data:=#[] },.slice none 0 0,.slice none 0 0,.slice none 0 0]:=(Below.heap_setCell _ _ _ _ (by simp)).trans ((Below.heap_setCell _ _ _ _ (by simp)).trans h03)
  have h14:BoxA ((w3.setCell ⟨w.heap.size+1,0,none⟩ (.int .i64 e0)).setCell ⟨w.heap.size+1,1,none⟩ (.int .i64 l0)) (w.heap.size+1) 32 #[.int .i64 e0,.int .i64 l0]:=(h13.set 0 (.int .i64 e0)).set 1 (.int .i64 l0)
  refine ⟨_,results_cells2 rfl _ _ w.heap.size (w.heap.size+1) _ _ #[.string { data:=#[] },.int .i64 0,.int .i64 0,.int .i64 0,.slice none 0 0,.int .i64 0,.int .i64 0,.int .i64 0,.string { data:=#[] },.slice none 0 0,.slice none 0 0,.slice none 0 0] #[.int .i64 e0,.int .i64 l0] _ _ _ _ rfl h04 Tryz.underlying27 rfl (by kernel_rfl) rfl h14 Tryz.underlying32 rfl (by kernel_rfl),?_⟩
  obtain ⟨x1,x2,x3⟩:=HX.out
  refine ⟨((HB2.out.trans (HB3.out.mono HB2.out.size)).setCell (p:=⟨w.heap.size+1,0,none⟩) (by simp) _).setCell (p:=⟨w.heap.size+1,1,none⟩) (by simp) _,g0,?_,?_⟩
  ·rw [x1,x2,x3];rfl
  ·rw [x1];exact sr_zero _
 ·have HC:=Lib.hid hc
  have HX:=Lib.hid hx
  clear hc hx
  go_enter_defers Tryz.func18,Tryz.ntmps18
  go_upto_region 4 with fail
  rw [HW2.out]
  go_wp2_with (first
   | (go_at_call 40;((with_reducible refine HC.out.mono ?_);rintro e w3 ⟨hb3,g,rfl,hs3⟩);have HB3:=Lib.hid hb3;have HS3:=Lib.hid hs3;have h03:=Lib.hid (H0.out.next hb3);have h13:=Lib.hid (H1.out.next hb3);clear hb3 hs3)
   | (refine wpList_store_row rfl _ _ _ rfl w.heap.size (scs x g) rfl rfl _ _ h03.out (by kernel_rfl) rfl (scs_one HS3.out.sr) ?_)
   | (refine wpList_store_row rfl _ _ _ rfl (w.heap.size+1) #[.int .i64 0,.int .i64 0] rfl rfl _ _ ((setRow_other _ _ _ _ (by omega)).trans h13.out) (by kernel_rfl) rfl (by kernel_rfl) ?_))
  refine leaves_cons (f:=39) (args:=#[.pointer (some ⟨w.heap.size+1,0,none⟩)]) (by simp [Act.put]) (by simp [go_sem]) ?_
  refine (catch_idle (w.heap.size+1) _).mono ?_
  rintro e u' w4 ⟨rfl,rfl,rfl⟩
  refine ⟨_,results_cells2 rfl _ _ w.heap.size (w.heap.size+1) _ _ (scs x g) #[.int .i64 0,.int .i64 0] _ _ _ _ rfl ((setRow_other _ _ _ _ (by omega)).trans (setRow_heap _ _ _ _ _ _ h03.out)) Tryz.underlying27 rfl (by kernel_rfl) rfl (setRow_heap _ _ _ _ _ _ ((setRow_other _ _ _ _ (by omega)).trans h13.out)) Tryz.underlying32 rfl (by kernel_rfl),?_⟩
  have hsz:w.heap.size+1 < W2.heap.size:=H1.out.lt
  refine ⟨below_setRow (below_setRow (HB2.out.trans (HB3.out.mono HB2.out.size)) (Nat.le_refl _) _) (by omega) _,g,?_,?_⟩
  ·rw [HX.out];rfl
  ·rw [HX.out]
   exact (HS3.out.kept fun b hb=>(setRow_other _ _ _ _ (by omega)).trans (setRow_other _ _ _ _ (by omega))).sr
theorem sParse_any (s:Tx) (hs:s.length≤9223372036854775807) (w:World) (hL:LaidD w):Calls Tryz.prog 18 #[.string (str s)] w (PaT s w):=by
 by_cases h:s.length≤10000
 ·exact sParse_short s h w hL
 ·exact sParse_long s (by omega) hs w
end Go.Proofs.YtekcjfdllclphaaGreatDoor.gn
end
section
namespace Go.Proofs.YtekcjfdllclphaaGreatDoor.gn
open Go.RowKit
open Go.Proofs.YtekcjfdllclphaaGreatDoor.un
open Go.Proofs.YtekcjfdllclphaaGreatDoor.di
open Go.Proofs.YtekcjfdllclphaaGreatDoor.sp (Slip)
theorem box_end (w:World) (z cs:Array Value) (t:TypeId):∃ W,(w.alloc (.cells z t)).setRow w.heap.size cs=W∧BoxA W w.heap.size t cs∧Below w.heap.size w W :=
 ⟨_,rfl,setRow_heap _ _ _ _ _ _ (BoxA.new w t z),below_setRow ((Below.refl _ w).alloc (Nat.le_refl _) _) (Nat.le_refl _) _⟩
end Go.Proofs.YtekcjfdllclphaaGreatDoor.gn
end
