/- Orders, plain: what is read may be, and has its text but for sizes; the document's way to read. (Written ahead of the code.) -/
import Derived.Test.YtekcjfdllclphaaGreatDoorMQbOrO
import Derived.Test.YtekcjfdllclphaaGreatDoorMQbSlLi
import Derived.Test.YtekcjfdllclphaaGreatDoorMQbSlCk
import Derived.LoopIn
import Derived.Test.YtekcjfdllclphaaGreatDoorMQbDiX
import Derived.Deep.Onto
set_option linter.unusedVariables false
set_option linter.unusedSimpArgs false
section
namespace Go.Proofs.YtekcjfdllclphaaGreatDoor.od
open Go.Proofs.YtekcjfdllclphaaGreatDoor.un
open Go.Proofs.YtekcjfdllclphaaGreatDoor.di
open Go.Proofs.YtekcjfdllclphaaGreatDoor.sp
open Go.Lib (decDigits)
def nrm (f:Fl):Fl:=if f.1=capK then (capK,stxt (((size? f.2).getD 0:Nat):Int)) else f
theorem nrm_key (f:Fl):(nrm f).1=f.1:=by
 unfold nrm
 split
 ·next h=>exact h.symm
 ·rfl
theorem nrm_no {f:Fl} (h:f.1≠capK):nrm f=f:=if_neg h
theorem map_one {fs:List Fl} {a:Tx} (h:fs.map (·.1)=[a]):∃ v,fs=[(a,v)]:=by
 match fs,h with
 | [(x,v)],h=>simp at h;exact ⟨v,by rw [h]⟩
theorem map_two {fs:List Fl} {a b:Tx} (h:fs.map (·.1)=[a,b]):∃ v w,fs=[(a,v),(b,w)]:=by
 match fs,h with
 | [(x,v),(y,w)],h=>simp at h;exact ⟨v,w,by rw [h.1,h.2]⟩
theorem map_five {fs:List Fl} {a b c d e:Tx} (h:fs.map (·.1)=[a,b,c,d,e]):∃ v w x y z,fs=[(a,v),(b,w),(c,x),(d,y),(e,z)]:=by
 match fs,h with
 | [(x,v),(y,w),(z,u),(p,q),(r,s)],h=>simp at h;exact ⟨v,w,u,q,s,by rw [h.1,h.2.1,h.2.2.1,h.2.2.2.1,h.2.2.2.2]⟩
theorem within_some {v:Tx} {a b n:Nat} (h:within? v a b=some n):a≤n∧n≤b∧v=txt (n:Int)∧num? v=some n:=by
 unfold within? at h
 cases hn:num? v with
 | none=>rw [hn] at h;cases h
 | some m =>
  rw [hn] at h
  dsimp only at h
  split at h
  ·next hb =>
   cases h
   obtain ⟨h1,h2⟩:=num_iff.1 hn
   exact ⟨hb.1,hb.2,by rw [txt_in h1,h2],rfl⟩
  ·cases h
theorem inv_job {k:Nat} {o o':Ord} {v:Tx} (h:ostep k o (jobW,v)=some o'):∃ n:Int,(1≤n∧n≤1073741824)∧v=txt n∧o'={ o with job:=n }:=by
 unfold ostep at h
 rw [if_pos rfl] at h
 cases hw:within? v 1 1073741824 with
 | none=>rw [hw] at h;cases h
 | some n =>
  rw [hw] at h
  cases h
  obtain ⟨h1,h2,h3,_⟩:=within_some hw
  exact ⟨n,⟨by omega,by omega⟩,h3,rfl⟩
theorem inv_n {k:Nat} {o o':Ord} {v:Tx} (h:ostep k o (nK,v)=some o'):∃ n:Int,((lo k:Int)≤n∧n≤hi k)∧v=txt n∧o'={ o with n:=n }:=by
 unfold ostep at h
 rw [if_neg (show ¬ nK=jobW by decide),if_pos rfl] at h
 cases hw:within? v (lo k) (hi k) with
 | none=>rw [hw] at h;cases h
 | some n =>
  rw [hw] at h
  cases h
  obtain ⟨h1,h2,h3,_⟩:=within_some hw
  exact ⟨n,⟨by omega,by omega⟩,h3,rfl⟩
theorem inv_res {k:Nat} {o o':Ord} {v:Tx} (h:ostep k o (resK,v)=some o'):∃ b:Bool,v=(if b then okW else badW)∧o'={ o with yes:=b }:=by
 have h:(if v=okW then some { o with yes:=true } else if v=badW then some { o with yes:=false } else none)=some o':=h
 split at h
 ·next e=>cases h;exact ⟨true,e,rfl⟩
 ·split at h
  ·next e=>cases h;exact ⟨false,e,rfl⟩
  ·cases h
theorem inv_acc {k:Nat} {o o':Ord} {v:Tx} (h:ostep k o (accK,v)=some o'):∃ b:Bool,v=(if b then pubV else priV)∧o'={ o with yes:=b }:=by
 have h:(if v=pubV then some { o with yes:=true } else if v=priV then some { o with yes:=false } else none)=some o':=h
 split at h
 ·next e=>cases h;exact ⟨true,e,rfl⟩
 ·split at h
  ·next e=>cases h;exact ⟨false,e,rfl⟩
  ·cases h
theorem inv_user {k:Nat} {o o':Ord} {v:Tx} (h:ostep k o (userK,v)=some o'):isName v=true∧o'={ o with user:=v }:=by
 have h:(if isName v=true then some { o with user:=v } else none)=some o':=h
 split at h
 ·next e=>cases h;exact ⟨e,rfl⟩
 ·cases h
theorem inv_name {k:Nat} {o o':Ord} {v:Tx} (h:ostep k o (nameK,v)=some o'):isName v=true∧o'={ o with name:=v }:=by
 have h:(if isName v=true then some { o with name:=v } else none)=some o':=h
 split at h
 ·next e=>cases h;exact ⟨e,rfl⟩
 ·cases h
theorem inv_pool {k:Nat} {o o':Ord} {v:Tx} (h:ostep k o (poolK,v)=some o'):isName v=true∧o'={ o with pool:=v }:=by
 have h:(if isName v=true then some { o with pool:=v } else none)=some o':=h
 split at h
 ·next e=>cases h;exact ⟨e,rfl⟩
 ·cases h
theorem inv_cap {k:Nat} {o o':Ord} {v:Tx} (h:ostep k o (capK,v)=some o'):∃ n:Nat,size? v=some n∧0 < n∧n≤1099511627776∧o'={ o with size:=(n:Int) }:=by
 have h:(match size? v with
  | some n=>if 0 < n then some { o with size:=(n:Int) } else none
  | none=>none)=some o':=h
 cases hs:size? v with
 | none=>rw [hs] at h;cases h
 | some n =>
  rw [hs] at h
  dsimp only at h
  split at h
  ·next e=>cases h;exact ⟨n,rfl,e,size_le hs,rfl⟩
  ·cases h
theorem fold_cons {k:Nat} {o o':Ord} {f:Fl} {fs:List Fl} (h:(f::fs).foldlM (ostep k) o=some o'):∃ o1,ostep k o f=some o1∧fs.foldlM (ostep k) o1=some o':=by
 rw [List.foldlM_cons] at h
 cases hs:ostep k o f with
 | none=>rw [hs] at h;cases h
 | some o1=>rw [hs] at h;exact ⟨o1,rfl,h⟩
theorem fold_nil {k:Nat} {o o':Ord} (h:([]:List Fl).foldlM (ostep k) o=some o'):o=o':=by cases h;rfl
theorem fold_ok {k:Nat} (hk:1≤k∧k≤18) (h2:k≠2) {fs:List Fl} {o:Ord} (hf:fs.map (·.1)=keysO k) (h:fs.foldlM (ostep k) (Ord.at k)=some o):OkO o∧o.kind=k∧fsO o=fs.map nrm:=by
  rcases eighteen hk with rfl | rfl | rfl | rfl | rfl | rfl | rfl | rfl | rfl | rfl | rfl | rfl | rfl | rfl | rfl | rfl | rfl | rfl
  all_goals first
    | exact absurd rfl h2
    | (obtain ⟨v,rfl⟩:=map_one (a:=jobW) hf
       obtain ⟨o1,h1,h⟩:=fold_cons h
       cases fold_nil h
       obtain ⟨n,hn,rfl,rfl⟩:=inv_job h1
       exact ⟨⟨⟨by simp [Ord.at],by simp [Ord.at]⟩,(fun h=>by simp [hasJ,hasN,hasU,hasP,Ord.at] at h),fun _=>rfl,(fun h=>by simp [hasJ,hasN,hasU,hasP,Ord.at] at h),fun _=>rfl,fun _=>hn,(fun h=>by simp [hasJ,hasN,hasU,hasP,Ord.at] at h),(fun h=>by simp [hasJ,hasN,hasU,hasP,Ord.at] at h),fun _=>⟨rfl,rfl⟩,(fun h=>by simp [hasJ,hasN,hasU,hasP,Ord.at] at h),fun _=>rfl,(fun h=>by simp [hasJ,hasN,hasU,hasP,Ord.at] at h),fun _=>rfl,fun _ _=>rfl⟩,rfl,rfl⟩)
    | (obtain ⟨v,rfl⟩:=map_one (a:=nK) hf
       obtain ⟨o1,h1,h⟩:=fold_cons h
       cases fold_nil h
       obtain ⟨n,hn,rfl,rfl⟩:=inv_n h1
       exact ⟨⟨⟨by simp [Ord.at],by simp [Ord.at]⟩,(fun h=>by simp [hasJ,hasN,hasU,hasP,Ord.at] at h),fun _=>rfl,fun _=>hn,(fun h=>by simp [hasJ,hasN,hasU,hasP,Ord.at] at h),(fun h=>by simp [hasJ,hasN,hasU,hasP,Ord.at] at h),fun _=>rfl,(fun h=>by simp [hasJ,hasN,hasU,hasP,Ord.at] at h),fun _=>⟨rfl,rfl⟩,(fun h=>by simp [hasJ,hasN,hasU,hasP,Ord.at] at h),fun _=>rfl,(fun h=>by simp [hasJ,hasN,hasU,hasP,Ord.at] at h),fun _=>rfl,fun _ _=>rfl⟩,rfl,rfl⟩)
    | (obtain ⟨v,rfl⟩:=map_one (a:=poolK) hf
       obtain ⟨o1,h1,h⟩:=fold_cons h
       cases fold_nil h
       obtain ⟨hn,rfl⟩:=inv_pool h1
       exact ⟨⟨⟨by simp [Ord.at],by simp [Ord.at]⟩,(fun h=>by simp [hasJ,hasN,hasU,hasP,Ord.at] at h),fun _=>rfl,(fun h=>by simp [hasJ,hasN,hasU,hasP,Ord.at] at h),fun _=>rfl,(fun h=>by simp [hasJ,hasN,hasU,hasP,Ord.at] at h),fun _=>rfl,(fun h=>by simp [hasJ,hasN,hasU,hasP,Ord.at] at h),fun _=>⟨rfl,rfl⟩,fun _=>hn,(fun h=>by simp [hasJ,hasN,hasU,hasP,Ord.at] at h),(fun h=>by simp [hasJ,hasN,hasU,hasP,Ord.at] at h),fun _=>rfl,fun _ _=>rfl⟩,rfl,rfl⟩)
    | (obtain ⟨v,w,rfl⟩:=map_two (a:=jobW) (b:=nK) hf
       obtain ⟨o1,h1,h⟩:=fold_cons h
       obtain ⟨n,hn,rfl,rfl⟩:=inv_job h1
       obtain ⟨o2,h3,h⟩:=fold_cons h
       cases fold_nil h
       obtain ⟨m,hm,rfl,rfl⟩:=inv_n h3
       exact ⟨⟨⟨by simp [Ord.at],by simp [Ord.at]⟩,(fun h=>by simp [hasJ,hasN,hasU,hasP,Ord.at] at h),fun _=>rfl,fun _=>hm,(fun h=>by simp [hasJ,hasN,hasU,hasP,Ord.at] at h),fun _=>hn,(fun h=>by simp [hasJ,hasN,hasU,hasP,Ord.at] at h),(fun h=>by simp [hasJ,hasN,hasU,hasP,Ord.at] at h),fun _=>⟨rfl,rfl⟩,(fun h=>by simp [hasJ,hasN,hasU,hasP,Ord.at] at h),fun _=>rfl,(fun h=>by simp [hasJ,hasN,hasU,hasP,Ord.at] at h),fun _=>rfl,fun _ _=>rfl⟩,rfl,rfl⟩)
    | (obtain ⟨v,w,rfl⟩:=map_two (a:=jobW) (b:=resK) hf
       obtain ⟨o1,h1,h⟩:=fold_cons h
       obtain ⟨n,hn,rfl,rfl⟩:=inv_job h1
       obtain ⟨o2,h3,h⟩:=fold_cons h
       cases fold_nil h
       obtain ⟨b,rfl,rfl⟩:=inv_res h3
       exact ⟨⟨⟨by simp [Ord.at],by simp [Ord.at]⟩,(fun h=>by simp [hasJ,hasN,hasU,hasP,Ord.at] at h),fun _=>rfl,(fun h=>by simp [hasJ,hasN,hasU,hasP,Ord.at] at h),fun _=>rfl,fun _=>hn,(fun h=>by simp [hasJ,hasN,hasU,hasP,Ord.at] at h),(fun h=>by simp [hasJ,hasN,hasU,hasP,Ord.at] at h),fun _=>⟨rfl,rfl⟩,(fun h=>by simp [hasJ,hasN,hasU,hasP,Ord.at] at h),fun _=>rfl,(fun h=>by simp [hasJ,hasN,hasU,hasP,Ord.at] at h),fun _=>rfl,fun h _=>absurd rfl h⟩,rfl,rfl⟩)
    | (obtain ⟨v,w,rfl⟩:=map_two (a:=userK) (b:=nameK) hf
       obtain ⟨o1,h1,h⟩:=fold_cons h
       obtain ⟨hn,rfl⟩:=inv_user h1
       obtain ⟨o2,h3,h⟩:=fold_cons h
       cases fold_nil h
       obtain ⟨hm,rfl⟩:=inv_name h3
       exact ⟨⟨⟨by simp [Ord.at],by simp [Ord.at]⟩,(fun h=>by simp [hasJ,hasN,hasU,hasP,Ord.at] at h),fun _=>rfl,(fun h=>by simp [hasJ,hasN,hasU,hasP,Ord.at] at h),fun _=>rfl,(fun h=>by simp [hasJ,hasN,hasU,hasP,Ord.at] at h),fun _=>rfl,fun _=>⟨hm,hn⟩,(fun h=>by simp [hasJ,hasN,hasU,hasP,Ord.at] at h),(fun h=>by simp [hasJ,hasN,hasU,hasP,Ord.at] at h),fun _=>rfl,(fun h=>by simp [hasJ,hasN,hasU,hasP,Ord.at] at h),fun _=>rfl,fun _ _=>rfl⟩,rfl,rfl⟩)
    | (obtain ⟨v,w,x,y,z,rfl⟩:=map_five (a:=userK) (b:=nameK) (c:=capK) (d:=poolK) (e:=accK) hf
       obtain ⟨o1,h1,h⟩:=fold_cons h
       obtain ⟨hn,rfl⟩:=inv_user h1
       obtain ⟨o2,h3,h⟩:=fold_cons h
       obtain ⟨hm,rfl⟩:=inv_name h3
       obtain ⟨o3,h4,h⟩:=fold_cons h
       obtain ⟨n,hs,hs0,hs1,rfl⟩:=inv_cap h4
       obtain ⟨o4,h5,h⟩:=fold_cons h
       obtain ⟨hp,rfl⟩:=inv_pool h5
       obtain ⟨o5,h6,h⟩:=fold_cons h
       cases fold_nil h
       obtain ⟨b,rfl,rfl⟩:=inv_acc h6
       refine ⟨⟨⟨by simp [Ord.at],by simp [Ord.at]⟩,(fun h=>by simp [hasJ,hasN,hasU,hasP,Ord.at] at h),fun _=>rfl,(fun h=>by simp [hasJ,hasN,hasU,hasP,Ord.at] at h),fun _=>rfl,(fun h=>by simp [hasJ,hasN,hasU,hasP,Ord.at] at h),fun _=>rfl,fun _=>⟨hm,hn⟩,(fun h=>by simp [hasJ,hasN,hasU,hasP,Ord.at] at h),fun _=>hp,(fun h=>by simp [hasJ,hasN,hasU,hasP,Ord.at] at h),fun _=>⟨by dsimp only;omega,by dsimp only;omega⟩,fun h=>absurd rfl h,fun _ h=>absurd rfl h⟩,rfl,?_⟩
       show [(userK,v),(nameK,w),(capK,stxt (n:Int)),(poolK,y),(accK,if b then pubV else priV)]=[nrm (userK,v),nrm (nameK,w),nrm (capK,x),nrm (poolK,y),nrm (accK,if b then pubV else priV)]
       show _=[(userK,v),(nameK,w),(capK,stxt (((size? x).getD 0:Nat):Int)),(poolK,y),(accK,_)]
       rw [hs]
       rfl)
theorem orun_ok {k:Nat} (hk:1≤k∧k≤18) (h2:k≠2) {ws:List Tx} {o:Ord} (h:orun k (Ord.at k) (keysO k) ws=some o):OkO o∧o.kind=k∧∃ fs:List Fl,ws=fs.map wtx∧fs.map (·.1)=keysO k∧fsO o=fs.map nrm∧fs.foldlM (ostep k) (Ord.at k)=some o:=by
 obtain ⟨fs,h1,h3,h4,h5⟩:=orun_inv k _ _ _ _ h
 obtain ⟨a,b,c⟩:=fold_ok hk h2 h3 h4
 exact ⟨a,b,fs,h1,h3,c,h4⟩
end Go.Proofs.YtekcjfdllclphaaGreatDoor.od
end
section
namespace Go.Proofs.YtekcjfdllclphaaGreatDoor.od
open Go.Proofs.YtekcjfdllclphaaGreatDoor.un
open Go.Proofs.YtekcjfdllclphaaGreatDoor.di
open Go.Proofs.YtekcjfdllclphaaGreatDoor.sp
open Go.Lib (decDigits)
def dput (o:Ord) (f:Fl):Option (Ord × Fl) :=
 if f.1=jobW then (num? f.2).map fun n=>({ o with job:=(n:Int) },f)
 else if f.1=nK then (num? f.2).map fun n=>({ o with n:=(n:Int) },f)
 else if f.1=resK then some ({ o with yes:=decide (f.2=okW) },f)
 else if f.1=accK then some ({ o with yes:=decide (f.2=pubV) },f)
 else if f.1=userK then some ({ o with user:=f.2 },f)
 else if f.1=nameK then some ({ o with name:=f.2 },f)
 else if f.1=poolK then some ({ o with pool:=f.2 },f)
 else if f.1=capK then (size? f.2).map fun n=>({ o with size:=(n:Int) },(capK,stxt (n:Int)))
 else none
def dorun:Ord→List Fl→List Tx→Option (Ord × List Fl)
 | o,fs,[]=>some (o,fs)
 | o,fs,w::ws=>match cut w with
  | some f=>(match dput o f with
   | some p=>dorun p.1 (fs++[p.2]) ws
   | none=>none)
  | none=>none
theorem dput_nrm {o:Ord} {f:Fl} {p:Ord × Fl} (h:dput o f=some p):p.2=nrm f∧p.1.kind=o.kind∧p.1.slip=o.slip:=by
 unfold dput at h
 have key:∀ (a:Tx),f.1=a→a≠capK→nrm f=f:=fun a e hn=>nrm_no (by rw [e];exact hn)
 split at h
 ·next e =>
  cases hn:num? f.2 with
  | none=>rw [hn] at h;cases h
  | some n=>rw [hn] at h;cases h;exact ⟨(key _ e (by decide)).symm,rfl,rfl⟩
 ·split at h
  ·next e =>
   cases hn:num? f.2 with
   | none=>rw [hn] at h;cases h
   | some n=>rw [hn] at h;cases h;exact ⟨(key _ e (by decide)).symm,rfl,rfl⟩
  ·split at h
   ·next e=>cases h;exact ⟨(key _ e (by decide)).symm,rfl,rfl⟩
   ·split at h
    ·next e=>cases h;exact ⟨(key _ e (by decide)).symm,rfl,rfl⟩
    ·split at h
     ·next e=>cases h;exact ⟨(key _ e (by decide)).symm,rfl,rfl⟩
     ·split at h
      ·next e=>cases h;exact ⟨(key _ e (by decide)).symm,rfl,rfl⟩
      ·split at h
       ·next e=>cases h;exact ⟨(key _ e (by decide)).symm,rfl,rfl⟩
       ·split at h
        ·next e =>
         cases hn:size? f.2 with
         | none=>rw [hn] at h;cases h
         | some n =>
          rw [hn] at h;cases h
          refine ⟨?_,rfl,rfl⟩
          unfold nrm
          rw [if_pos e,hn]
          rfl
        ·cases h
theorem dput_of {k:Nat} {o o':Ord} {f:Fl} (h:ostep k o f=some o'):dput o f=some (o',nrm f):=by
 obtain ⟨key,v⟩:=f
 have h0:=h
 unfold ostep at h
 split at h
 ·next e =>
  dsimp only at e
  subst e
  obtain ⟨n,hn,rfl,rfl⟩:=inv_job h0
  obtain ⟨m,rfl⟩:∃ m:Nat,n=(m:Int):=⟨n.toNat,by omega⟩
  unfold dput
  rw [if_pos rfl]
  dsimp only
  rw [txt_in (show m≤top by unfold top;omega),num_dec (show m≤top by unfold top;omega)]
  rfl
 ·split at h
  ·next e =>
   dsimp only at e
   subst e
   obtain ⟨n,hn,rfl,rfl⟩:=inv_n h0
   obtain ⟨m,rfl⟩:∃ m:Nat,n=(m:Int):=⟨n.toNat,by omega⟩
   have:=hi_top k
   unfold dput
   rw [if_neg (show ¬ nK=jobW by decide),if_pos rfl]
   dsimp only
   rw [txt_in (show m≤top by unfold top;omega),num_dec (show m≤top by unfold top;omega)]
   rfl
  ·split at h
   ·next e =>
    dsimp only at e
    subst e
    obtain ⟨b,rfl,rfl⟩:=inv_res h0
    cases b <;> rfl
   ·split at h
    ·next e =>
     dsimp only at e
     subst e
     obtain ⟨_,rfl⟩:=inv_user h0
     rfl
    ·split at h
     ·next e =>
      dsimp only at e
      subst e
      obtain ⟨_,rfl⟩:=inv_name h0
      rfl
     ·split at h
      ·next e =>
       dsimp only at e
       subst e
       obtain ⟨n,hs,_,_,rfl⟩:=inv_cap h0
       show (size? v).map (fun n=>(({ o with size:=(n:Int) },(capK,stxt (n:Int))):Ord × Fl))=some (_,(capK,stxt (((size? v).getD 0:Nat):Int)))
       rw [hs]
       rfl
      ·split at h
       ·next e =>
        dsimp only at e
        subst e
        obtain ⟨_,rfl⟩:=inv_pool h0
        rfl
       ·split at h
        ·next e =>
         dsimp only at e
         subst e
         obtain ⟨b,rfl,rfl⟩:=inv_acc h0
         cases b <;> rfl
        ·cases h
theorem dorun_cons (o:Ord) (gs:List Fl) (f:Fl) (ws:List Tx) (h:(61:UInt8) ∉ f.1):dorun o gs (wtx f::ws)=match dput o f with
  | some p=>dorun p.1 (gs++[p.2]) ws
  | none=>none:=by
 rw [dorun,cut_wtx h]
 all_goals (dsimp only;cases dput o f <;> rfl)
theorem dorun_of (k:Nat):∀ (fs:List Fl) (o o':Ord) (gs:List Fl),(∀ f∈fs,(61:UInt8) ∉ f.1)→fs.foldlM (ostep k) o=some o'→dorun o gs (fs.map wtx)=some (o',gs++fs.map nrm)
 | [],o,o',gs,_,h=>by
  cases h
  simp [dorun]
 | f::fs,o,o',gs,hc,h=>by
  obtain ⟨o1,h1,h2⟩:=fold_cons h
  rw [List.map_cons,dorun_cons o gs f _ (hc f (by simp)),dput_of h1]
  dsimp only
  rw [dorun_of k fs o1 o' _ (fun g hg=>hc g (by simp [hg])) h2]
  simp
def dfold:Ord→List Fl→Option Ord
 | o,[]=>some o
 | o,f::fs=>match dput o f with
  | some p=>dfold p.1 fs
  | none=>none
theorem dorun_inv:∀ (ws:List Tx) (o:Ord) (gs:List Fl) (o':Ord) (hs:List Fl),dorun o gs ws=some (o',hs)→∃ fs:List Fl,ws=fs.map wtx∧(∀ f∈fs,(61:UInt8) ∉ f.1)∧hs=gs++fs.map nrm∧dfold o fs=some o'∧o'.kind=o.kind∧o'.slip=o.slip
 | [],o,gs,o',hs,h=>by
  cases h
  exact ⟨[],rfl,by simp,by simp,rfl,rfl,rfl⟩
 | w::ws,o,gs,o',hs,h=>by
  rw [dorun] at h
  cases hc:cut w with
  | none=>rw [hc] at h;cases h
  | some f =>
   rw [hc] at h
   dsimp only at h
   cases hd:dput o f with
   | none=>rw [hd] at h;cases h
   | some p =>
    rw [hd] at h
    dsimp only at h
    obtain ⟨fs,h1,h2,h3,h4,h5,h6⟩:=dorun_inv ws _ _ _ _ h
    have hw:=cut_some w f.1 f.2 hc
    obtain ⟨n1,n2,n3⟩:=dput_nrm hd
    refine ⟨f::fs,by rw [h1,hw.1];rfl,?_,by rw [h3,n1];simp,by rw [dfold,hd];exact h4,by rw [h5,n2],by rw [h6,n3]⟩
    intro g hg
    rcases List.mem_cons.1 hg with rfl | hg
    ·exact hw.2
    ·exact h2 g hg
theorem dfold_cons {o o':Ord} {f:Fl} {fs:List Fl} (h:dfold o (f::fs)=some o'):∃ p,dput o f=some p∧dfold p.1 fs=some o':=by
 rw [dfold] at h
 cases hd:dput o f with
 | none=>rw [hd] at h;cases h
 | some p=>rw [hd] at h;exact ⟨p,rfl,h⟩
theorem dinv_job {o:Ord} {v:Tx} {p:Ord × Fl} (h:dput o (jobW,v)=some p):∃ n:Nat,num? v=some n∧p.1={ o with job:=(n:Int) }:=by
 have h:(num? v).map (fun n=>(({ o with job:=(n:Int) },(jobW,v)):Ord × Fl))=some p:=h
 cases hn:num? v with
 | none=>rw [hn] at h;cases h
 | some n=>rw [hn] at h;cases h;exact ⟨n,rfl,rfl⟩
theorem dinv_n {o:Ord} {v:Tx} {p:Ord × Fl} (h:dput o (nK,v)=some p):∃ n:Nat,num? v=some n∧p.1={ o with n:=(n:Int) }:=by
 have h:(num? v).map (fun n=>(({ o with n:=(n:Int) },(nK,v)):Ord × Fl))=some p:=h
 cases hn:num? v with
 | none=>rw [hn] at h;cases h
 | some n=>rw [hn] at h;cases h;exact ⟨n,rfl,rfl⟩
theorem dinv_cap {o:Ord} {v:Tx} {p:Ord × Fl} (h:dput o (capK,v)=some p):∃ n:Nat,size? v=some n∧p.1={ o with size:=(n:Int) }:=by
 have h:(size? v).map (fun n=>(({ o with size:=(n:Int) },(capK,stxt (n:Int))):Ord × Fl))=some p:=h
 cases hn:size? v with
 | none=>rw [hn] at h;cases h
 | some n=>rw [hn] at h;cases h;exact ⟨n,rfl,rfl⟩
theorem num_txt {v:Tx} {n:Nat} (h:num? v=some n):v=txt (n:Int):=by
 obtain ⟨h1,h2⟩:=num_iff.1 h
 rw [txt_in h1,h2]
theorem fold_7 {fs:List Fl} {o:Ord} (hd:dfold (Ord.at 7) fs=some o) (ho:OkO o) (hf:fsO o=fs.map nrm) (hm:fs.map (·.1)=keysO 7):fs.foldlM (ostep 7) (Ord.at 7)=some o:=by
 obtain ⟨v,w,rfl⟩:=map_two (a:=jobW) (b:=resK) hm
 obtain ⟨p,h1,h⟩:=dfold_cons hd
 obtain ⟨n,hn,e⟩:=dinv_job h1
 rw [e] at h
 cases h
 have hb:=ho.job1 rfl
 have hw:w=if decide (w=okW) then okW else badW:=by
  have:=(List.cons.inj (List.cons.inj hf).2).1
  exact (Prod.mk.inj this).2.symm
 rw [num_txt hn,List.foldlM_cons,ostep_job _ _ hb.1 hb.2,some_bind,fold_one]
 generalize hB:decide (w=okW)=B at hw ⊢
 rw [hw,ostep_res]
 all_goals first | rfl | (cases B <;> rfl)
theorem dfold_user (o:Ord) (v:Tx) (fs:List Fl):dfold o ((userK,v)::fs)=dfold { o with user:=v } fs:=rfl
theorem dfold_name (o:Ord) (v:Tx) (fs:List Fl):dfold o ((nameK,v)::fs)=dfold { o with name:=v } fs:=rfl
theorem dfold_pool (o:Ord) (v:Tx) (fs:List Fl):dfold o ((poolK,v)::fs)=dfold { o with pool:=v } fs:=rfl
theorem dfold_acc (o:Ord) (v:Tx) (fs:List Fl):dfold o ((accK,v)::fs)=dfold { o with yes:=decide (v=pubV) } fs:=rfl
theorem fs_15 (o:Ord) (h:o.kind=15):fsO o=[(userK,o.user),(nameK,o.name),(capK,stxt o.size),(poolK,o.pool),(accK,if o.yes then pubV else priV)]:=by
 unfold fsO
 rw [h]
 rfl
theorem fold_15 {fs:List Fl} {o:Ord} (hd:dfold (Ord.at 15) fs=some o) (ho:OkO o) (hf:fsO o=fs.map nrm) (hm:fs.map (·.1)=keysO 15):fs.foldlM (ostep 15) (Ord.at 15)=some o:=by
 obtain ⟨v,w,x,y,z,rfl⟩:=map_five (a:=userK) (b:=nameK) (c:=capK) (d:=poolK) (e:=accK) hm
 rw [dfold_user,dfold_name] at hd
 obtain ⟨q,h3,h⟩:=dfold_cons hd
 obtain ⟨n,hs,e⟩:=dinv_cap h3
 rw [e,dfold_pool,dfold_acc] at h
 have h:=Option.some.inj h
 have hk:o.kind=15:=by rw [←h];rfl
 have hu:o.user=v:=by rw [←h]
 have hn:o.name=w:=by rw [←h]
 have hp:o.pool=y:=by rw [←h]
 have hy:o.yes=decide (z=pubV):=by rw [←h]
 have hz':o.size=(n:Int):=by rw [←h]
 have hb:=ho.size1 hk
 have hnm:=ho.name1 (by rw [hk];rfl)
 have hpl:=ho.pool1 (by rw [hk];rfl)
 have hz:z=if decide (z=pubV) then pubV else priV:=by
  rw [fs_15 o hk,hy] at hf
  simp only [List.map_cons,List.map_nil,List.cons.injEq] at hf
  have:=hf.2.2.2.2.1
  rw [nrm_no (show accK≠capK by decide)] at this
  exact (Prod.mk.inj this).2.symm
 rw [hu,hn] at hnm
 rw [hp] at hpl
 rw [hz'] at hb
 rw [List.foldlM_cons,ostep_user _ _ hnm.2,some_bind,List.foldlM_cons,ostep_name _ _ hnm.1,some_bind,List.foldlM_cons,ostep_cap _ _ hs (by omega),some_bind,List.foldlM_cons,ostep_pool _ _ hpl,some_bind,fold_one]
 rw [←h]
 generalize hB:decide (z=pubV)=B at hz ⊢
 rw [hz,ostep_acc]
theorem fold_back {k:Nat} (hk:1≤k∧k≤18) (h2:k≠2) {fs:List Fl} {o:Ord} (hd:dfold (Ord.at k) fs=some o) (ho:OkO o) (hok:o.kind=k) (hf:fsO o=fs.map nrm):fs.map (·.1)=keysO k∧fs.foldlM (ostep k) (Ord.at k)=some o:=by
  have hm:fs.map (·.1)=keysO k:=by
    rw [←hok,← keys_fs,hf,List.map_map]
    exact List.map_congr_left fun f _=>(nrm_key f).symm
  refine ⟨hm,?_⟩
  rcases eighteen hk with rfl | rfl | rfl | rfl | rfl | rfl | rfl | rfl | rfl | rfl | rfl | rfl | rfl | rfl | rfl | rfl | rfl | rfl
  all_goals first
    | exact absurd rfl h2
    | (obtain ⟨v,rfl⟩:=map_one (a:=jobW) hm
       obtain ⟨p,h1,h⟩:=dfold_cons hd
       cases h
       obtain ⟨n,hn,e⟩:=dinv_job h1
       rw [e] at ho ⊢
       have hb:=ho.job1 rfl
       rw [num_txt hn]
       exact (fold_one _ _ _).trans (ostep_job _ _ hb.1 hb.2))
    | (obtain ⟨v,rfl⟩:=map_one (a:=nK) hm
       obtain ⟨p,h1,h⟩:=dfold_cons hd
       cases h
       obtain ⟨n,hn,e⟩:=dinv_n h1
       rw [e] at ho ⊢
       have hb:=ho.n1 rfl
       rw [num_txt hn]
       exact (fold_one _ _ _).trans (ostep_n _ _ hb.1 hb.2))
    | (obtain ⟨v,rfl⟩:=map_one (a:=poolK) hm
       cases hd
       exact (fold_one _ _ _).trans (ostep_pool _ _ (ho.pool1 rfl)))
    | (obtain ⟨v,w,rfl⟩:=map_two (a:=jobW) (b:=nK) hm
       obtain ⟨p,h1,h⟩:=dfold_cons hd
       obtain ⟨n,hn,e⟩:=dinv_job h1
       rw [e] at h
       obtain ⟨q,h3,h⟩:=dfold_cons h
       cases h
       obtain ⟨m,hm,e'⟩:=dinv_n h3
       rw [e'] at ho ⊢
       have hb:=ho.job1 rfl
       have hc:=ho.n1 rfl
       rw [num_txt hn,num_txt hm,List.foldlM_cons,ostep_job _ _ hb.1 hb.2]
       exact (fold_one _ _ _).trans (ostep_n _ _ hc.1 hc.2))
    | exact fold_7 hd ho hf hm
    | (obtain ⟨v,w,rfl⟩:=map_two (a:=userK) (b:=nameK) hm
       cases hd
       rw [List.foldlM_cons,ostep_user _ _ (ho.name1 rfl).2]
       exact (fold_one _ _ _).trans (ostep_name _ _ (ho.name1 rfl).1))
    | exact fold_15 hd ho hf hm
theorem dorun_eq {k:Nat} (hk:1≤k∧k≤18) (h2:k≠2) (ws:List Tx):(match dorun (Ord.at k) [] ws with
  | some p=>if chkO p.1=true∧p.2=fsO p.1 then some p.1 else none
  | none=>none)=orun k (Ord.at k) (keysO k) ws:=by
 cases ho:orun k (Ord.at k) (keysO k) ws with
 | some o =>
  obtain ⟨h1,h3,fs,h4,h5,h6,h7⟩:=orun_ok hk h2 ho
  have hc:∀ f∈fs,(61:UInt8) ∉ f.1:=fun f hf=>(key_clean (k:=k) (by rw [←h5];exact List.mem_map.2 ⟨f,hf,rfl⟩)).1
  rw [h4,dorun_of k fs _ o [] hc h7]
  dsimp only
  rw [if_pos ⟨(chkO_iff o).2 h1,by rw [h6];rfl⟩]
 | none =>
  cases hd:dorun (Ord.at k) [] ws with
  | none=>rfl
  | some p =>
   obtain ⟨o,hs⟩:=p
   dsimp only
   by_cases hg:chkO o=true∧hs=fsO o
   ·exfalso
    obtain ⟨fs,h1,h3,h4,h5,h6,h7⟩:=dorun_inv _ _ _ _ _ hd
    obtain ⟨h8,h9⟩:=fold_back hk h2 h5 ((chkO_iff o).1 hg.1) h6 (by rw [←hg.2,h4];rfl)
    rw [h1,← h8,orun_fs k fs _ h3,h9] at ho
    cases ho
   ·rw [if_neg hg]
end Go.Proofs.YtekcjfdllclphaaGreatDoor.od
end
section
set_option maxRecDepth 100000
namespace Go.Proofs.YtekcjfdllclphaaGreatDoor.sp
open Go.Proofs.YtekcjfdllclphaaGreatDoor.un
open Go.Proofs.YtekcjfdllclphaaGreatDoor.di
theorem pread_app:∀ (a:List Tx) (x:Slip) (i:Nat) (b:List Tx),pread x i (a++b)=match pread x i a with
  | .ok y=>pread y (i+a.length) b
  | .error e=>.error e
 | [],x,i,b=>rfl
 | l::a,x,i,b=>by
  have ih:=fun y=>pread_app a y (i+1) b
  rw [List.cons_append,pread,pread]
  cases hp:pline x i l with
  | error e=>rfl
  | ok y =>
   dsimp only
   rw [ih,List.length_cons,show i+1+a.length=i+(a.length+1) by omega]
theorem pread_take {L:List Tx} {k:Nat} {l:Tx} {x:Slip} (hl:L[k]?=some l) (h:pread Slip.zero 1 (L.take k)=.ok x):pread Slip.zero 1 (L.take (k+1))=pline x (k+1) l:=by
 have hk:=(List.getElem?_eq_some_iff.1 hl).1
 rw [List.take_add_one,hl,pread_app,h]
 dsimp only
 rw [List.length_take,Nat.min_eq_left (Nat.le_of_lt hk),Nat.add_comm 1 k]
 show pread x (k+1) [l]=_
 unfold pread
 cases pline x (k+1) l with
 | error e=>rfl
 | ok y=>rfl
theorem pread_bad {L:List Tx} {k:Nat} {e:Int × Nat} (h:pread Slip.zero 1 (L.take k)=.error e):pread Slip.zero 1 L=.error e:=by
 rw [←List.take_append_drop k L,pread_app,h]
def Few (x:Slip) (k:Nat):Prop:=x.make.length≤k∧x.drop.length≤k∧x.use.length≤k
theorem frun_few:∀ (ws:List Tx) (a st:Slip × List Tx),frun a ws=some st→st.1.make=a.1.make∧st.1.drop=a.1.drop∧st.1.use=a.1.use
 | [],a,st,h=>by
  unfold frun at h
  cases h
  exact ⟨rfl,rfl,rfl⟩
 | w::r,a,st,h=>by
  unfold frun at h
  cases hcut:cut w with
  | none=>rw [hcut] at h;cases h
  | some f =>
   rw [hcut] at h
   dsimp only at h
   split at h
   ·cases h
   ·cases hp:fput a.1 f with
    | none=>rw [hp] at h;cases h
    | some y =>
     rw [hp] at h
     obtain ⟨i1,i2,i3⟩:=frun_few r _ st h
     rw [i1,i2,i3]
     unfold fput at hp
     split at hp
     ·cases hp;exact ⟨rfl,rfl,rfl⟩
     split at hp
     ·obtain ⟨n,_,rfl⟩:=Option.map_eq_some_iff.1 hp;exact ⟨rfl,rfl,rfl⟩
     split at hp
     ·obtain ⟨n,_,rfl⟩:=Option.map_eq_some_iff.1 hp;exact ⟨rfl,rfl,rfl⟩
     split at hp
     ·obtain ⟨n,_,rfl⟩:=Option.map_eq_some_iff.1 hp;exact ⟨rfl,rfl,rfl⟩
     split at hp
     ·obtain ⟨n,_,rfl⟩:=Option.map_eq_some_iff.1 hp;exact ⟨rfl,rfl,rfl⟩
     ·cases hp
theorem first_few {l:Tx} {x:Slip} (hf:first? l=some x):Few x 0:=by
 unfold first? at hf
 cases hw:cuts 32 l with
 | nil=>rw [hw] at hf;cases hf
 | cons j ws =>
  rw [hw] at hf
  dsimp only at hf
  split at hf
  ·cases hr:frun (Slip.zero,[]) ws with
   | none=>rw [hr] at hf;cases hf
   | some st =>
    rw [hr] at hf
    dsimp only at hf
    obtain ⟨i1,i2,i3⟩:=frun_few ws _ st hr
    split at hf
    ·cases hf
     unfold Few
     rw [i1,i2,i3]
     exact ⟨Nat.le_refl _,Nat.le_refl _,Nat.le_refl _⟩
    ·cases hf
  ·cases hf
theorem put_few (x:Slip) (d:Dir) {k:Nat} (h:Few x k):Few (put x d) (k+1):=by
 obtain ⟨a,b,c⟩:=h
 unfold put
 split
 ·exact ⟨by show x.make.length≤_;omega,by show x.drop.length≤_;omega,by show x.use.length≤_;omega⟩
 split
 ·exact ⟨by show x.make.length≤_;omega,by show x.drop.length≤_;omega,by show x.use.length≤_;omega⟩
 split
 ·exact ⟨by show x.make.length≤_;omega,by show x.drop.length≤_;omega,by show x.use.length≤_;omega⟩
 split
 ·exact ⟨by simp;omega,by show x.drop.length≤_;omega,by show x.use.length≤_;omega⟩
 split
 ·exact ⟨by show x.make.length≤_;omega,by simp;omega,by show x.use.length≤_;omega⟩
 split
 ·exact ⟨by show x.make.length≤_;omega,by show x.drop.length≤_;omega,by simp;omega⟩
 ·exact ⟨by omega,by omega,by omega⟩
theorem pline_few {x y:Slip} {i k:Nat} {l:Tx} (h:pline x i l=.ok y) (hx:Few x k):Few y (k+1):=by
 have up:∀ z:Slip,z.make=x.make→z.drop=x.drop→z.use=x.use→Few z (k+1):=fun z h1 h2 h3=>by
  obtain ⟨a,b,c⟩:=hx
  unfold Few
  rw [h1,h2,h3]
  exact ⟨by omega,by omega,by omega⟩
 unfold pline at h
 split at h
 ·cases hf:first? l with
  | none=>rw [hf] at h;cases h
  | some z =>
   rw [hf] at h
   cases h
   obtain ⟨a,b,c⟩:=first_few hf
   exact ⟨by omega,by omega,by omega⟩
 split at h
 ·split at h
  ·cases h
  ·cases hp:pput x (ldir l) with
   | none=>rw [hp] at h;cases h
   | some z =>
    rw [hp] at h
    cases h
    unfold pput at hp
    split at hp
    ·split at hp
     ·cases hp;exact up _ rfl rfl rfl
     ·cases hp
    split at hp
    ·split at hp
     ·cases hp;exact up _ rfl rfl rfl
     ·cases hp
    split at hp
    ·split at hp
     ·cases hp;exact up _ rfl rfl rfl
     ·cases hp
    ·cases hp;exact put_few x _ hx
 ·cases h
  exact up _ rfl rfl rfl
theorem pread_few:∀ (L:List Tx) (x y:Slip) (i k:Nat),pread x i L=.ok y→Few x k→Few y (k+L.length)
 | [],x,y,i,k,h,hx=>by unfold pread at h;cases h;exact hx
 | l::L,x,y,i,k,h,hx=>by
  rw [pread] at h
  cases hp:pline x i l with
  | error e=>rw [hp] at h;cases h
  | ok z =>
   rw [hp] at h
   have:=pread_few L z y (i+1) (k+1) h (pline_few hp hx)
   rw [List.length_cons,show k+(L.length+1)=k+1+L.length by omega]
   exact this
end Go.Proofs.YtekcjfdllclphaaGreatDoor.sp
namespace Go.Proofs.YtekcjfdllclphaaGreatDoor.gn
open Go.RowKit Go.Shelf
open Go.Proofs.YtekcjfdllclphaaGreatDoor.un
open Go.Proofs.YtekcjfdllclphaaGreatDoor.di
open Go.Proofs.YtekcjfdllclphaaGreatDoor.sp (Slip cuts cutB isD first? pput pline pread chkS sread fldB fldB_len cuts_ne pread_take pread_bad pread_few Few cuts_mem_len cuts_len)
attribute [local go_sem] Oper.semAt_some
structure RdI (w:World) (L:List Tx) (B0 R PB:Nat) (k:Nat) (W:World):Prop where
 st:∃ x g,Rdr W R x (k:Int) g∧¬ Mr R g PB∧pread Slip.zero 1 (L.take k)=.ok x
 p:BoxA W PB 105 #[.pointer (some ⟨R,0,none⟩)]
 low:∃ W0,Below w.heap.size w W0∧Below R W0 W∧R≤W0.heap.size∧B0 < R∧w.heap.size≤B0∧BoxA W0 B0 27 (scs Slip.zero ⟨.slice none 0 0,.slice none 0 0,.slice none 0 0,.slice none 0 0⟩)
 laid:LaidB R W
 pb:R < PB
theorem cells_ne {W:World} {l:Nat} {o o':Obj} (h:W.heap[l]?=some o) (ho:o.isCells=false) {b:Nat} {u:Obj} (hb:W.heap[b]?=some u) (hu:u.isCells=true):(W.putObj l o').heap[b]?=W.heap[b]? :=
 World.putObj_heap_other (fun e=>by subst e;rw [h] at hb;cases hb;rw [ho] at hu;cases hu)
end Go.Proofs.YtekcjfdllclphaaGreatDoor.gn
end
section
namespace Go.Proofs.YtekcjfdllclphaaGreatDoor.sp
open Go.Proofs.YtekcjfdllclphaaGreatDoor.un
open Go.Proofs.YtekcjfdllclphaaGreatDoor.di
structure Sm (x:Slip):Prop where
 user:x.user.length≤20000
 pool:x.pool.length≤20000
 nodes:0≤x.nodes∧x.nodes≤1099511627776
 wall:0≤x.wall∧x.wall≤1099511627776
 qos:0≤x.qos∧x.qos≤1099511627776
 cap:0≤x.cap∧x.cap≤1099511627776
 inn:0≤x.inn∧x.inn≤1099511627776
 out:0≤x.out∧x.out≤1099511627776
 after:∀ d∈x.after,0≤d.1∧d.1≤1099511627776
 make:∀ d∈x.make,chk d=true
 drop:∀ n∈x.drop,n.length≤20000
 use:∀ n∈x.use,n.length≤20000
theorem sm_zero:Sm Slip.zero:=by
 refine ⟨by decide,by decide,⟨by decide,by decide⟩,⟨by decide,by decide⟩,⟨by decide,by decide⟩,⟨by decide,by decide⟩,⟨by decide,by decide⟩,⟨by decide,by decide⟩,fun d hd=>?_,fun d hd=>?_,fun d hd=>?_,fun d hd=>?_⟩ <;> cases hd
theorem within_le {v:Tx} {a b n:Nat} (h:within? v a b=some n):a≤n∧n≤b:=by
 unfold within? at h
 cases hn:num? v with
 | none=>rw [hn] at h;cases h
 | some m =>
  rw [hn] at h
  dsimp only at h
  split at h
  ·next h2=>cases h;exact h2
  ·cases h
theorem dep_le {p:Tx} {d:Int × Bool} (h:dep? p=some d):0≤d.1∧d.1≤1099511627776:=by
 unfold dep? at h
 cases hc:cutB 58 p with
 | none=>rw [hc] at h;cases h
 | some f =>
  rw [hc] at h
  dsimp only at h
  cases hw:within? f.2 1 1073741824 with
  | none=>rw [hw] at h;cases h
  | some n =>
   rw [hw] at h
   dsimp only at h
   have:=within_le hw
   split at h
   ·cases h;dsimp only;omega
   ·cases h
theorem deps_le:∀ (L:List Tx) (l:List (Int × Bool)),L.mapM dep?=some l→∀ d∈l,0≤d.1∧d.1≤1099511627776
 | [],l,h,d,hd=>by simp at h;subst h;cases hd
 | p::L,l,h,d,hd=>by
  rw [List.mapM_cons] at h
  cases hp:dep? p with
  | none=>rw [hp] at h;cases h
  | some e =>
   rw [hp] at h
   cases hr:L.mapM dep? with
   | none=>rw [hr] at h;cases h
   | some r =>
    rw [hr] at h
    simp at h
    subst h
    rcases List.mem_cons.1 hd with rfl | hd
    ·exact dep_le hp
    ·exact deps_le L r hr d hd
theorem fput_sm {x y:Slip} {f:Fl} (hf:f.2.length≤20000) (h:fput x f=some y) (hx:Sm x):Sm y:=by
 unfold fput at h
 split at h
 ·cases h;exact ⟨hf,hx.pool,hx.nodes,hx.wall,hx.qos,hx.cap,hx.inn,hx.out,hx.after,hx.make,hx.drop,hx.use⟩
 split at h
 ·cases hw:within? f.2 1 64 with
  | none=>rw [hw] at h;cases h
  | some n =>
  rw [hw] at h
  cases h
  have:=within_le hw
  exact ⟨hx.user,hx.pool,by dsimp only;omega,hx.wall,hx.qos,hx.cap,hx.inn,hx.out,hx.after,hx.make,hx.drop,hx.use⟩
 split at h
 ·cases hw:within? f.2 1 1048576 with
  | none=>rw [hw] at h;cases h
  | some n =>
  rw [hw] at h
  cases h
  have:=within_le hw
  exact ⟨hx.user,hx.pool,hx.nodes,by dsimp only;omega,hx.qos,hx.cap,hx.inn,hx.out,hx.after,hx.make,hx.drop,hx.use⟩
 split at h
 ·cases hw:within? f.2 0 9 with
  | none=>rw [hw] at h;cases h
  | some n =>
  rw [hw] at h
  cases h
  have:=within_le hw
  exact ⟨hx.user,hx.pool,hx.nodes,hx.wall,by dsimp only;omega,hx.cap,hx.inn,hx.out,hx.after,hx.make,hx.drop,hx.use⟩
 split at h
 ·obtain ⟨l,hl,rfl⟩:=Option.map_eq_some_iff.1 h
  exact ⟨hx.user,hx.pool,hx.nodes,hx.wall,hx.qos,hx.cap,hx.inn,hx.out,deps_le _ _ hl,hx.make,hx.drop,hx.use⟩
 ·cases h
theorem cut_len {w:Tx} {f:Fl} (h:cut w=some f):f.2.length≤w.length:=by
 rw [cut_B] at h
 have:=fldB_len 61 w
 unfold fldB at this
 rw [h] at this
 exact this.2
theorem frun_sm:∀ (ws:List Tx) (a st:Slip × List Tx),(∀ w∈ws,w.length≤20000)→frun a ws=some st→Sm a.1→Sm st.1
 | [],a,st,_,h,hx=>by unfold frun at h;cases h;exact hx
 | w::r,a,st,hw,h,hx=>by
  unfold frun at h
  cases hcut:cut w with
  | none=>rw [hcut] at h;cases h
  | some f =>
   rw [hcut] at h
   dsimp only at h
   split at h
   ·cases h
   ·cases hp:fput a.1 f with
    | none=>rw [hp] at h;cases h
    | some y =>
     rw [hp] at h
     exact frun_sm r _ st (fun z hz=>hw z (by simp [hz])) h (fput_sm (Nat.le_trans (cut_len hcut) (hw w (by simp))) hp hx)
theorem first_sm {l:Tx} {x:Slip} (hl:l.length≤20000) (hf:first? l=some x):Sm x:=by
 have hm:=cuts_mem_len 32 l
 unfold first? at hf
 cases hw:cuts 32 l with
 | nil=>rw [hw] at hf;cases hf
 | cons j ws =>
  rw [hw] at hf hm
  dsimp only at hf
  split at hf
  ·cases hr:frun (Slip.zero,[]) ws with
   | none=>rw [hr] at hf;cases hf
   | some st =>
    rw [hr] at hf
    dsimp only at hf
    have:=frun_sm ws _ st (fun w hw=>Nat.le_trans (hm w (by simp [hw])) hl) hr sm_zero
    split at hf
    ·cases hf;exact this
    ·cases hf
  ·cases hf
theorem chk_name {d:Dir} (h:chk d=true):d.name.length≤32∧d.pool.length≤32∧(0≤d.size∧d.size≤1099511627776)∧d.kind≤6:=by
 obtain ⟨c0,c1,cz,c2,c3,c4,c5,c6⟩:=(chk_iff d).1 h
 refine ⟨?_,?_,cz,c0.2⟩
 ·rcases c3 with e | e
  ·exact name_len (c2.1 e)
  ·rw [e];decide
 ·rcases c5 with e | e
  ·exact name_len (c4.1 e)
  ·rw [e];decide
theorem pput_sm {x y:Slip} {d:Dir} (hd:chk d=true) (h:pput x d=some y) (hx:Sm x):Sm y:=by
 obtain ⟨n1,n2,n3,n4⟩:=chk_name hd
 unfold pput at h
 split at h
 ·split at h
  ·cases h;exact ⟨hx.user,by dsimp only;omega,hx.nodes,hx.wall,hx.qos,n3,hx.inn,hx.out,hx.after,hx.make,hx.drop,hx.use⟩
  ·cases h
 split at h
 ·split at h
  ·cases h;exact ⟨hx.user,hx.pool,hx.nodes,hx.wall,hx.qos,hx.cap,n3,hx.out,hx.after,hx.make,hx.drop,hx.use⟩
  ·cases h
 split at h
 ·split at h
  ·cases h;exact ⟨hx.user,hx.pool,hx.nodes,hx.wall,hx.qos,hx.cap,hx.inn,n3,hx.after,hx.make,hx.drop,hx.use⟩
  ·cases h
 ·next h1 h2 h3 =>
  cases h
  unfold put
  rw [if_neg h1,if_neg h2,if_neg h3]
  split
  ·exact ⟨hx.user,hx.pool,hx.nodes,hx.wall,hx.qos,hx.cap,hx.inn,hx.out,hx.after,fun e he=>by
    rcases List.mem_append.1 he with he | he
    ·exact hx.make e he
    ·simp at he;subst he;exact hd,hx.drop,hx.use⟩
  split
  ·exact ⟨hx.user,hx.pool,hx.nodes,hx.wall,hx.qos,hx.cap,hx.inn,hx.out,hx.after,hx.make,fun e he=>by
    rcases List.mem_append.1 he with he | he
    ·exact hx.drop e he
    ·simp at he;subst he;omega,hx.use⟩
  split
  ·exact ⟨hx.user,hx.pool,hx.nodes,hx.wall,hx.qos,hx.cap,hx.inn,hx.out,hx.after,hx.make,hx.drop,fun e he=>by
    rcases List.mem_append.1 he with he | he
    ·exact hx.use e he
    ·simp at he;subst he;omega⟩
  ·exact hx
theorem pline_sm {x y:Slip} {i:Nat} {l:Tx} (hl:l.length≤20000) (h:pline x i l=.ok y) (hx:Sm x):Sm y:=by
 unfold pline at h
 split at h
 ·cases hf:first? l with
  | none=>rw [hf] at h;cases h
  | some z=>rw [hf] at h;cases h;exact first_sm hl hf
 split at h
 ·split at h
  ·cases h
  ·next he =>
   cases hp:pput x (ldir l) with
   | none=>rw [hp] at h;cases h
   | some z =>
    rw [hp] at h
    cases h
    exact pput_sm (ldir_chk (Decidable.not_not.1 he)) hp hx
 ·cases h;exact hx
theorem pread_sm:∀ (L:List Tx) (x y:Slip) (i:Nat),(∀ l∈L,l.length≤20000)→pread x i L=.ok y→Sm x→Sm y
 | [],x,y,i,_,h,hx=>by unfold pread at h;cases h;exact hx
 | l::L,x,y,i,hL,h,hx=>by
  rw [pread] at h
  cases hp:pline x i l with
  | error e=>rw [hp] at h;cases h
  | ok z =>
   rw [hp] at h
   exact pread_sm L z y (i+1) (fun m hm=>hL m (by simp [hm])) h (pline_sm (hL l (by simp)) hp hx)
end Go.Proofs.YtekcjfdllclphaaGreatDoor.sp
namespace Go.Proofs.YtekcjfdllclphaaGreatDoor.gn
open Go.Proofs.YtekcjfdllclphaaGreatDoor.di
open Go.Proofs.YtekcjfdllclphaaGreatDoor.sp (Slip Sm chk_name)
theorem sw_sm {x:Slip} (h:Sm x):SW x :=
 ⟨by have:=h.user;omega,by have:=h.pool;omega,by have:=h.nodes;omega,by have:=h.wall;omega,by have:=h.qos;omega,by have:=h.cap;omega,by have:=h.inn;omega,by have:=h.out;omega,
  fun d hd=>by have:=h.after d hd;omega,fun d hd=>by
   obtain ⟨a,b,c,e⟩:=chk_name (h.make d hd)
   exact ⟨by omega,by omega,by omega,by omega,by omega⟩,fun n hn=>by have:=h.drop n hn;omega,fun n hn=>by have:=h.use n hn;omega⟩
end Go.Proofs.YtekcjfdllclphaaGreatDoor.gn
end
section
set_option maxRecDepth 100000
namespace Go.Proofs.YtekcjfdllclphaaGreatDoor.gn
open Go.RowKit Go.Shelf
open Go.Proofs.YtekcjfdllclphaaGreatDoor.un
open Go.Proofs.YtekcjfdllclphaaGreatDoor.di
open Go.Proofs.YtekcjfdllclphaaGreatDoor.sp (Slip cuts cutB isD first? pput pline pread chkS sread fldB fldB_len cuts_ne pread_take pread_bad pread_few Few cuts_mem_len cuts_len)
attribute [local go_sem] Oper.semAt_some
theorem lines_any (s:Tx) (w:World):Calls Tryz.prog 66 #[.string (str s)] w fun e w'=>e=.returned (.func (.func 106) #[] #[.pointer (some ⟨w.heap.size,0,none⟩)])∧w'=w.alloc (.cells #[.string (str s)] 9):=by
 go_enter Tryz.func66,Tryz.ntmps66
 go_wp2
 go_ret
 exact ⟨rfl,rfl⟩
theorem RdI.next {w:World} {L:List Tx} {B0 R PB k:Nat} {W W':World} (h:RdI w L B0 R PB k W) (hb:Below W.heap.size W W'):RdI w L B0 R PB k W':=by
 obtain ⟨⟨x,g,h1,h2,h3⟩,hp,⟨W0,l1,l2,l3,l4,l5,l6⟩,hl,hpb⟩:=h
 have hR:R≤W.heap.size:=Nat.le_of_lt h1.box.lt
 exact ⟨⟨x,g,h1.next hb,h2,h3⟩,hp.next hb,⟨W0,l1,l2.trans (hb.mono hR),l3,l4,l5,l6⟩,hl.next (hb.mono hR),hpb⟩
theorem low_put {B l:Nat} {W:World} (hl:B≤l) (o':Obj):Below B W (W.putObj l o') :=
 ⟨rfl,rfl,rfl,by rw [World.putObj_size];exact Nat.le_refl _,fun k hk=>World.putObj_heap_other (by omega)⟩
theorem RdI.put {w:World} {L:List Tx} {B0 R PB k l:Nat} {W:World} {o o':Obj} (hl:R≤l) (h:RdI w L B0 R PB k W) (ho:W.heap[l]?=some o) (hc:o.isCells=false) (_:o'.isCells=false):RdI w L B0 R PB k (W.putObj l o'):=by
 obtain ⟨⟨x,g,h1,h2,h3⟩,hp,⟨W0,l1,l2,l3,l4,l5,l6⟩,hl2,hpb⟩:=h
 refine ⟨⟨x,g,h1.kept fun b hb=>?_,h2,h3⟩,?_,⟨W0,l1,l2.trans (low_put hl o'),l3,l4,l5,l6⟩,hl2.next (low_put hl o'),hpb⟩
 ·obtain ⟨_,_,u,hu,hcu⟩:=h1.lM hb
  exact cells_ne ho hc hu hcu
 ·exact (cells_ne ho hc hp rfl).trans hp
theorem RdI.calm {w:World} {L:List Tx} {B0 R PB k D:Nat} (hD:R≤D):Calm D (RdI w L B0 R PB k) :=
 ⟨fun A C h hb=>h.next hb,fun A l o o' hl h h1 h2 h3=>h.put (Nat.le_trans hD hl) h1 h2 h3⟩
def RdP (w:World) (L:List Tx) (ch:List PanicEntry) (W:World):Prop:=∃ (e:Int) (i:Nat),pread Slip.zero 1 L=.error (e,i)∧ch=pnc e (i:Int)∧Below w.heap.size w W
structure SO (w:World) (B:Nat) (x:Slip) (g:Gh):Prop where
 a:w.ownsRow B 88 2 g.a x.after.length (flA x.after)
 m:w.ownsRow B 80 5 g.m x.make.length (flM x.make)
 d:w.ownsRow B 9 1 g.d x.drop.length (flS x.drop)
 u:w.ownsRow B 9 1 g.u x.use.length (flS x.use)
theorem SO.sr {w:World} {B:Nat} {x:Slip} {g:Gh} (h:SO w B x g):SR w x g:=⟨(ApC.rdc (.inr h.a)),(ApC.rdc (.inr h.m)),(ApC.rdc (.inr h.d)),(ApC.rdc (.inr h.u)),cp_own h.a,cp_own h.m,cp_own h.d,cp_own h.u⟩
theorem SO.kept {w w':World} {B:Nat} {x:Slip} {g:Gh} (h:SO w B x g) (hk:∀ b,B≤b→w'.heap[b]?=w.heap[b]?):SO w' B x g :=
 ⟨own_same h.a fun b hb=>hk b (World.ownsRow.lt h.a b hb).1,own_same h.m fun b hb=>hk b (World.ownsRow.lt h.m b hb).1,own_same h.d fun b hb=>hk b (World.ownsRow.lt h.d b hb).1,own_same h.u fun b hb=>hk b (World.ownsRow.lt h.u b hb).1⟩
theorem Rdr.so {w:World} {R B:Nat} {x:Slip} {line:Int} {g:Gh} (h:Rdr w R x line g) (hB:B≤R+1):SO w B x g:=⟨World.ownsRow.mono h.a hB,World.ownsRow.mono h.m hB,World.ownsRow.mono h.d hB,World.ownsRow.mono h.u hB⟩
def ReadT2 (L:List Tx) (w:World) (en:Ending) (w':World):Prop:=Below w.heap.size w w'∧match pread Slip.zero 1 L with
 | .error e=>en=.panicked (pnc e.1 (e.2:Int))
 | .ok x=>if chkS x=true then ∃ g,en=.returned (sV x g)∧SO w' w.heap.size x g else en=.panicked (pnc 150 (L.length:Int))
theorem keeps_of {D:Nat} {W W':World} {R:Nat} {x:Slip} {line:Int} {g:Gh} (h:Rdr W R x line g) (hs:W.heap.size≤W'.heap.size) (hk:∀ b,b < W.heap.size→¬ Mr R g b→W'.heap[b]?=W.heap[b]?):KeepsFrom D W W':=by
 refine ⟨hs,fun k o _ hko ho=>(hk k (Array.getElem?_eq_some_iff.1 hko).1 fun hm=>?_).trans hko⟩
 obtain ⟨_,_,u,hu,hcu⟩:=h.lM hm
 rw [hko] at hu
 cases hu
 rw [ho] at hcu
 cases hcu
abbrev g0:Gh:=⟨.slice none 0 0,.slice none 0 0,.slice none 0 0,.slice none 0 0⟩
theorem rdr_zero {W:World} {R:Nat} (h:BoxA W R 107 (rcs Slip.zero g0 0)):Rdr W R Slip.zero 0 g0 :=
 ⟨h,World.ownsRow_nil _ _ _ _,World.ownsRow_nil _ _ _ _,World.ownsRow_nil _ _ _ _,World.ownsRow_nil _ _ _ _,fun b hb=>by cases hb⟩
theorem mr_zero {R b:Nat} (h:b≠R):¬ Mr R g0 b:=by
 rintro (h1 | h1 | h1 | h1 | h1)
 ·exact h h1
 all_goals cases h1
theorem RdI.step {w:World} {L:List Tx} {B0 R PB k:Nat} {W W2:World} (h:RdI w L B0 R PB k W) {x y:Slip} {g g2:Gh} (hr:Rdr W R x (k:Int) g) (hn:¬ Mr R g PB) (hr2:Rdr W2 R y ((k+1:Nat):Int) g2) (hk:Kp R g g2 W W2) (hp:pread Slip.zero 1 (L.take (k+1))=.ok y):RdI w L B0 R PB (k+1) W2:=by
 obtain ⟨_,hpb,⟨W0,l1,l2,l3,l4,l5,l6⟩,hl,hlt⟩:=h
 have hpz:=hpb.lt
 exact ⟨⟨y,g2,hr2,hk.off hpz hn,hp⟩,(hk.same PB hpz hn).trans hpb,⟨W0,l1,l2.trans hk.low,l3,l4,l5,l6⟩,hl.next hk.low,hlt⟩
theorem RdI.low' {w:World} {L:List Tx} {B0 R PB k:Nat} {W:World} (h:RdI w L B0 R PB k W):Below w.heap.size w W:=by
 obtain ⟨_,_,⟨W0,l1,l2,l3,l4,l5,l6⟩,_,_⟩:=h
 exact l1.trans (l2.mono (by omega))
theorem boxes4 (w:World) (o1 o2 o3 o4:Array Value) {t1 t2 t3 t4:TypeId} {W4:World} (h:(((w.alloc (.cells o1 t1)).alloc (.cells o2 t2)).alloc (.cells o3 t3)).alloc (.cells o4 t4)=W4) :
  BoxA W4 w.heap.size t1 o1∧BoxA W4 (w.heap.size+1) t2 o2∧BoxA W4 (w.heap.size+1+1) t3 o3∧BoxA W4 (w.heap.size+1+1+1) t4 o4∧W4.heap.size=w.heap.size+4∧Below w.heap.size w W4:=by
 have b:∀ (W:World) (o:Obj),Below W.heap.size W (W.alloc o):=fun W o=>(Below.refl _ W).alloc (Nat.le_refl _) _
 have z:∀ (W:World) (o:Obj),(W.alloc o).heap.size=W.heap.size+1:=fun W o=>by simp
 have n1:=BoxA.new w t1 o1
 obtain ⟨w1,h1⟩:∃ w1,w.alloc (.cells o1 t1)=w1:=⟨_,rfl⟩
 have b1:=b w (.cells o1 t1)
 have z1:=z w (.cells o1 t1)
 rw [h1] at h n1 b1 z1
 have n2:=BoxA.new w1 t2 o2
 obtain ⟨w2,h2⟩:∃ w2,w1.alloc (.cells o2 t2)=w2:=⟨_,rfl⟩
 have b2:=b w1 (.cells o2 t2)
 have z2:=z w1 (.cells o2 t2)
 rw [h2] at h n2 b2 z2
 have n3:=BoxA.new w2 t3 o3
 obtain ⟨w3,h3⟩:∃ w3,w2.alloc (.cells o3 t3)=w3:=⟨_,rfl⟩
 have b3:=b w2 (.cells o3 t3)
 have z3:=z w2 (.cells o3 t3)
 rw [h3] at h n3 b3 z3
 have n4:=BoxA.new w3 t4 o4
 have b4:=b w3 (.cells o4 t4)
 have z4:=z w3 (.cells o4 t4)
 rw [h] at n4 b4 z4
 rw [z3,z2,z1] at n4
 rw [z2,z1] at n3
 rw [z1] at n2
 exact ⟨((n1.next b2).next b3).next b4,(n2.next b3).next b4,n3.next b4,n4,by omega,((b1.trans (b2.mono b1.size)).trans (b3.mono (by omega))).trans (b4.mono (by omega))⟩
def PanQ (D:Nat) (ch0:List PanicEntry) (W:World):Exit→Act→World→Prop
 | .panic ch,a,w2=>a.defers=[{ target:=.collected D,args:=#[] }]∧ch=ch0∧Below W.heap.size W w2
 | _,_,_=>False
set_option maxHeartbeats 8000000 in
theorem read_slip (s:Tx) (hs:s.length≤10000) (w:World) (hL:LaidD w):Calls Tryz.prog 40 #[.string (str s)] w (ReadT2 (cuts 10 s) w):=by
 refine callsF 6 Tryz.func40 rfl ?_
 simp only [Tryz.ntmps40,List.size_toArray,List.length_cons,List.length_nil,Nat.reduceAdd,Nat.reduceSub,Array.replicate_succ,Array.replicate_zero,List.push_toArray,List.append_toArray,List.nil_append,List.cons_append]
 refine wpF_seq_k (n:=6) fun K hK=>?_
 gi_wp2_with fail
 refine wpF_seq_k (n:=6) fun K hK=>?_
 gi_wp2_with fail
 refine wpF_seq ?_
 refine wpF_seq_k (n:=6) fun K hK=>?_
 gi_wp2_with (refine ⟨trivial,?_⟩;gi_at_call 66;refine (callsIn_wide.2 (lines_any _ _)).mono ?_;rintro e w' ⟨rfl,rfl⟩)
 obtain ⟨W4,hW4⟩:∃ W4,((((w.alloc (.cells #[.string { data:=#[] },.int .i64 0,.int .i64 0,.int .i64 0,.slice none 0 0,.int .i64 0,.int .i64 0,.int .i64 0,.string { data:=#[] },.slice none 0 0,.slice none 0 0,.slice none 0 0] 27)).alloc (.cells #[.string { data:=#[] },.int .i64 0,.int .i64 0,.int .i64 0,.slice none 0 0,.int .i64 0,.int .i64 0,.int .i64 0,.string { data:=#[] },.slice none 0 0,.slice none 0 0,.slice none 0 0,.int .i64 0] 107)).alloc (.cells #[.pointer (some ⟨w.heap.size+1,0,none⟩)] 105)).alloc (.cells #[.string (str s)] 9))=W4:=⟨_,rfl⟩
 have hbx:BoxA W4 w.heap.size 27 (scs Slip.zero g0)∧BoxA W4 (w.heap.size+1) 107 (rcs Slip.zero g0 0)∧BoxA W4 (w.heap.size+1+1) 105 #[.pointer (some ⟨w.heap.size+1,0,none⟩)]∧Boxed W4 (w.heap.size+1+1+1) 9 (.string (str s))∧W4.heap.size=w.heap.size+4∧Below w.heap.size w W4:=by
  exact boxes4 w _ _ _ _ hW4
 obtain ⟨x0,x1,x2,x3,x4,x5⟩:=hbx
 rw [hW4]
 clear hW4
 have hseq:=lines1_seq 5 (by omega) s (by omega) (w.heap.size+1+1+1) W4 x3
 have HLB:=Lib.hid (show LaidB (w.heap.size+1) W4 from fun W' hb=>hL.next (x5.trans (hb.mono (Nat.le_succ _))))
 have HL0:=Lib.hid (cuts_mem_len 10 s)
 have hcl:=cuts_len 10 s
 generalize cuts 10 s=L at *
 have hI0:RdI w L w.heap.size (w.heap.size+1) (w.heap.size+1+1) 0 W4 :=
  ⟨⟨Slip.zero,g0,rdr_zero x1,mr_zero (by omega),rfl⟩,x2,⟨W4,x5,Below.refl _ _,by omega,by omega,Nat.le_refl _,x0⟩,HLB.out,by omega⟩
 have HSZ:=Lib.hid x4
 clear x0 x1 x2 x3 x5 hL
 refine wpF_block ?_
 refine range_p (n:=6) (α:=Nat × Tx) (encs:=encL) (fn0:=Tryz.f40) rfl rfl (enters_of Tryz.func106 (by kernel_rfl) rfl) hseq (Below.refl _ _) (fun _=>rfl)
  (RdI w L w.heap.size (w.heap.size+1) (w.heap.size+1+1)) (RdP w L) (fun k A h=>h.laid.here) (fun k=>RdI.calm (by omega)) hI0
  (fun (x:Nat × Tx)=>{ tmps:=#[.string (str s),undef,.pointer (some ⟨w.heap.size,0,none⟩),.pointer (some ⟨w.heap.size+1+1,0,none⟩),.int .i64 (x.1:Nat),.string (str x.2),
   .agg #[.string { data:=#[] },.int .i64 0,.int .i64 0,.int .i64 0,.slice none 0 0,.int .i64 0,.int .i64 0,.int .i64 0,.string { data:=#[] },.slice none 0 0,.slice none 0 0,.slice none 0 0,.int .i64 0],
   .pointer (some ⟨w.heap.size+1,0,none⟩),.string (str s),.func (.func 106) #[] #[.pointer (some ⟨w.heap.size+1+1+1,0,none⟩)],.int .i64 (x.1:Nat),.string (str x.2),undef,undef,undef,undef,undef,undef,undef,undef,undef,undef,undef,undef,undef,undef,undef,undef,undef,undef,undef,undef,undef,undef,undef,undef,undef,undef,undef,undef],defers:=[] })
  ?assign ?body ?done ?pan
 case assign =>
  rintro l0 k ⟨i,line⟩ W K hI hK
  unfold encL
  gi_wp2
  exact hK
 case body =>
  rintro l0 k ⟨i,line⟩ W hx hI
  have hxk:L[k]?=some line∧i=1+k:=by
   rw [numb_at] at hx
   obtain ⟨y,hy,e⟩:=Option.map_eq_some_iff.1 hx
   simp only [Prod.mk.injEq] at e
   exact ⟨by rw [hy,e.2],e.1.symm⟩
  obtain ⟨hxk,rfl⟩:=hxk
  have HI:=Lib.hid hI
  obtain ⟨⟨x,g,hr,hn,hp⟩,hpb,_,hld,_⟩:=hI
  have hkL:=(List.getElem?_eq_some_iff.1 hxk).1
  have hlin:line.length≤20000:=by have:=HL0.out line (List.mem_of_getElem? hxk);omega
  have hfew:Few x k:=by
   have:=pread_few (L.take k) _ _ 1 0 hp ⟨Nat.le_refl _,Nat.le_refl _,Nat.le_refl _⟩
   rwa [List.length_take,Nat.zero_add,Nat.min_eq_left (Nat.le_of_lt hkL)] at this
  have HTK:=Lib.hid (pread_take hxk hp)
  have HPB:=Lib.hid (fun (e:Int × Nat) (h:pline x (k+1) line=.error e)=>(show pread Slip.zero 1 L=.error e from pread_bad (k:=k+1) (by rw [pread_take hxk hp,h])))
  have c0:=hpb.cell 0 _
  have hpl:=hpb.lt
  have c12:=hr.box.cell 12 _
  have f12:=hr.box.free 12
  have hrl:=hr.box.lt
  obtain ⟨ik,hik⟩:∃ ik:Int,((1+k:Nat):Int)=ik:=⟨_,rfl⟩
  have HIK:=Lib.hid (show ik=((k+1:Nat):Int) by omega)
  have hr1:=hr.put (y:=x) (l2:=ik) 12 (.int .i64 ik) rfl rfl rfl rfl rfl
  have HR0:=Lib.hid hr
  have HN0:=Lib.hid hn
  have HLD:=Lib.hid hld
  have HXK:=Lib.hid hxk
  have HFW:=Lib.hid hfew
  have HP:=Lib.hid hp
  have HCL:=Lib.hid (show k≤10001 by omega)
  have HLN:=Lib.hid hlin
  dsimp only
  rw [hik]
  clear hseq hx hxk hr hn hp hpb hld hkL hlin hfew hI0 hik
  gi_upto_region 6 with fail
  obtain ⟨W1,hW1⟩:∃ W1,W.setCell ⟨w.heap.size+1,12,none⟩ (.int .i64 ik)=W1:=⟨_,rfl⟩
  have HK1:=Lib.hid (show Kp (w.heap.size+1) g g W W1 by rw [←hW1];exact Kp.set g W _ 12 _)
  rw [hW1] at hr1 ⊢
  have HR1:=Lib.hid hr1
  have HL1:=Lib.hid (HLD.out.next HK1.out.low)
  have hrl1:w.heap.size+1 < W1.heap.size:=hr1.box.lt
  have hpl1:w.heap.size+1+1 < W1.heap.size:=Nat.lt_of_lt_of_le hpl HK1.out.low.size
  have c01:W1.cell? ⟨w.heap.size+1+1,0,none⟩=some (.pointer (some ⟨w.heap.size+1,0,none⟩)):=by
   rw [←hW1]
   exact (World.cell?_of_block (a:=⟨w.heap.size+1+1,0,none⟩) (Below.heap_setCell _ _ _ _ (by simp))).trans c0
  clear hr1 hW1 c0 c12 f12 hrl hpl
  by_cases hk0:k=0
  ·have q0:(ik == 1)=true:=by rw [beq_iff_eq,HIK.out];omega
   have hx0:x=Slip.zero:=by
    have:=HP.out
    rw [hk0,List.take_zero] at this
    unfold pread at this
    exact (Except.ok.inj this).symm
   have HPL:=Lib.hid (show pline x (k+1) line=match first? line with
     | some y=>.ok y
     | none=>.error (150,1) by unfold pline;rw [if_pos (by omega)];cases first? line <;> rfl)
   have HJ:=Lib.hid (job_any (by rw [←hx0];exact HR1.out) line HLN.out HL1.out)
   have HK0:=Lib.hid hk0
   unfold JobT at HJ
   clear hk0 hx0
   cases hf:first? line with
   | none =>
    rw [hf] at HJ HPL
    clear hf
    gi_wp2_with (refine ⟨trivial,?_⟩;gi_at_call 67;refine (CallsIn.inRound l0 (callsIn_wide.2 HJ.out)).mono ?_;rintro e w2 ⟨rfl,hb⟩;have HB:=Lib.hid hb;clear hb)
    have hlk:=HK1.out.lk HB.out
    refine ⟨rfl,keeps_of HR0.out hlk.1.size hlk.2,150,1,HPB.out _ HPL.out,by rw [HIK.out,HK0.out],HI.out.low'.trans (hlk.1.mono (Nat.le_succ _))⟩
   | some y =>
    rw [hf] at HJ HPL
    clear hf
    gi_wp2_with (refine ⟨trivial,?_⟩;gi_at_call 67;refine (CallsIn.inRound l0 (callsIn_wide.2 HJ.out)).mono ?_;rintro e w2 ⟨rfl,g2,hr2,hk2⟩;have HR2:=Lib.hid hr2;have HK2:=Lib.hid (HK1.out.trans hk2);clear hr2 hk2)
    exact ⟨keeps_of HR0.out HK2.out.low.size HK2.out.same,HI.out.step HR0.out HN0.out (HIK.out ▸ HR2.out) HK2.out (by rw [HTK.out,HPL.out])⟩
  ·have q0:(ik == 1)=false:=by rw [beq_eq_false_iff_ne,HIK.out];omega
   have HPL:=Lib.hid (show pline x (k+1) line=if isD line=true then (if lerr line≠0 then .error (lerr line,k+1) else match pput x (ldir line) with
     | none=>.error (150,k+1)
     | some y=>.ok y) else .ok x by unfold pline;rw [if_neg (by omega)];rfl)
   have HIS:=Lib.hid (show ∀ W,Calls Tryz.prog 68 #[.string (str line)] W fun e w'=>e=.returned (.bool (isD line))∧W=w' from fun W=>Is_any line W)
   have HD:=Lib.hid (directive_any HR1.out line HLN.out HL1.out (by have:=HFW.out.1;have:=HCL.out;omega) (by have:=HFW.out.2.1;have:=HCL.out;omega) (by have:=HFW.out.2.2;have:=HCL.out;omega))
   clear hk0
   cases hi:isD line with
   | false =>
    rw [hi] at HPL HIS
    clear hi
    gi_wp2_with (refine ⟨trivial,?_⟩;gi_at_call 68;refine (CallsIn.inRound l0 (callsIn_wide.2 (HIS.out _))).mono ?_;rintro e w2 ⟨rfl,rfl⟩)
    exact ⟨keeps_of HR0.out HK1.out.low.size HK1.out.same,HI.out.step HR0.out HN0.out (HIK.out ▸ HR1.out) HK1.out (by rw [HTK.out,HPL.out];rfl)⟩
   | true =>
    rw [hi,if_pos rfl] at HPL
    rw [hi] at HIS
    clear hi
    by_cases he:lerr line=0
    ·rw [if_neg (by simp [he])] at HPL
     have HD:=Lib.hid (show Calls Tryz.prog 69 #[.pointer (some ⟨w.heap.size+1,0,none⟩),.string (str line)] W1 (StoT2 (w.heap.size+1) g (pput x (ldir line)) ik W1) from HD.out.mono (fun e w' h=>by unfold DirT at h;rw [if_pos he] at h;exact h))
     clear he
     cases hpp:pput x (ldir line) with
     | none =>
      rw [hpp] at HPL HD
      clear hpp
      gi_wp2_with (first
       | (refine ⟨trivial,?_⟩;gi_at_call 68;refine (CallsIn.inRound l0 (callsIn_wide.2 (HIS.out _))).mono ?_;rintro e w2 ⟨rfl,rfl⟩)
       | (refine ⟨trivial,?_⟩;gi_at_call 69;refine (CallsIn.inRound l0 (callsIn_wide.2 HD.out)).mono ?_;rintro e w3 ⟨rfl,hb⟩;have HB:=Lib.hid hb;clear hb))
      have hlk:=HK1.out.lk HB.out
      exact ⟨rfl,keeps_of HR0.out hlk.1.size hlk.2,150,k+1,HPB.out _ HPL.out,by rw [HIK.out],HI.out.low'.trans (hlk.1.mono (Nat.le_succ _))⟩
     | some y =>
      rw [hpp] at HPL HD
      clear hpp
      gi_wp2_with (first
       | (refine ⟨trivial,?_⟩;gi_at_call 68;refine (CallsIn.inRound l0 (callsIn_wide.2 (HIS.out _))).mono ?_;rintro e w2 ⟨rfl,rfl⟩)
       | (refine ⟨trivial,?_⟩;gi_at_call 69;refine (CallsIn.inRound l0 (callsIn_wide.2 HD.out)).mono ?_;rintro e w3 ⟨rfl,g2,hr2,hk2⟩;have HR2:=Lib.hid hr2;have HK2:=Lib.hid (HK1.out.trans hk2);clear hr2 hk2))
      exact ⟨keeps_of HR0.out HK2.out.low.size HK2.out.same,HI.out.step HR0.out HN0.out (HIK.out ▸ HR2.out) HK2.out (by rw [HTK.out,HPL.out])⟩
    ·rw [if_pos he] at HPL
     have HD:=Lib.hid (show Calls Tryz.prog 69 #[.pointer (some ⟨w.heap.size+1,0,none⟩),.string (str line)] W1 (fun en w'=>en=.panicked (pnc (lerr line) ik)∧Lk (w.heap.size+1) g W1 w') from HD.out.mono (fun e w' h=>by unfold DirT at h;rw [if_neg he] at h;exact h))
     clear he
     gi_wp2_with (first
      | (refine ⟨trivial,?_⟩;gi_at_call 68;refine (CallsIn.inRound l0 (callsIn_wide.2 (HIS.out _))).mono ?_;rintro e w2 ⟨rfl,rfl⟩)
      | (refine ⟨trivial,?_⟩;gi_at_call 69;refine (CallsIn.inRound l0 (callsIn_wide.2 HD.out)).mono ?_;rintro e w3 ⟨rfl,hb⟩;have HB:=Lib.hid hb;clear hb))
     have hlk:=HK1.out.lk HB.out
     exact ⟨rfl,keeps_of HR0.out hlk.1.size hlk.2,lerr line,k+1,HPB.out _ HPL.out,by rw [HIK.out],HI.out.low'.trans (hlk.1.mono (Nat.le_succ _))⟩
 case done =>
  rintro D W hDl hI hD
  show wpF _ _ _ _ _ _
  refine wpF_seq_k (n:=6) fun K0 hK0=>?_
  have HLW:=Lib.hid hI.low'
  obtain ⟨⟨x,g,hr,hn,hp⟩,hpb,⟨W0,l1,l2,l3,l4,l5,hB0⟩,hld,hlt⟩:=hI
  rw [numb_len,List.take_length] at hp
  rw [numb_len] at hr
  have HB0:=Lib.hid (show BoxA W w.heap.size 27 (scs Slip.zero g0) from (l2.block _ l4).trans hB0)
  have HR:=Lib.hid hr
  have HDL:=Lib.hid hDl
  have hsw:SW x:=sw_sm (sp.pread_sm L _ _ 1 (fun l hl=>by have:=HL0.out l hl;omega) hp sp.sm_zero)
  have hrl:=hr.box.lt
  have hpl:=hpb.lt
  have hDW:=(Array.getElem?_eq_some_iff.1 hD).1
  have HCH:=Lib.hid (fun (W2:World) (hb:Below W.heap.size W W2)=>Check_slip x g W2 ((hr.sr).next hb) hsw (hld.here.next hb))
  have HDN:=Lib.hid (fun (W2:World) (hb:Below W.heap.size W W2)=>(hb.block D hDW).trans hD)
  have HRD:Hid (∀ (en:Ending) (w':World),(match pread Slip.zero 1 L with
    | .error e=>en=.panicked (pnc e.1 (e.2:Int))
    | .ok x=>if chkS x=true then ∃ g,en=.returned (sV x g)∧SO w' w.heap.size x g else en=.panicked (pnc 150 (L.length:Int)))=if chkS x=true then ∃ g,en=.returned (sV x g)∧SO w' w.heap.size x g else en=.panicked (pnc 150 (L.length:Int))):=fun en w'=>by rw [hp]
  have hpc:=hpb.cell 0 _
  obtain ⟨pa,ca,ea,_,_⟩:=hr.sr.ca
  obtain ⟨pm,cm,em,_,_⟩:=hr.sr.cm
  obtain ⟨pd,cd,ed,_,_⟩:=hr.sr.cd
  obtain ⟨pu,cu,eu,_,_⟩:=hr.sr.cu
  obtain ⟨us,nodes,wall,qos,after,cap,inn,out,pool,mk,dr,use⟩:=x
  obtain ⟨va,vm,vd,vu⟩:=g
  dsimp only at ea em ed eu
  subst ea em ed eu
  obtain ⟨na,hna⟩:∃ n,after.length=n:=⟨_,rfl⟩
  obtain ⟨nm,hnm⟩:∃ n,mk.length=n:=⟨_,rfl⟩
  obtain ⟨nd,hnd⟩:∃ n,dr.length=n:=⟨_,rfl⟩
  obtain ⟨nu,hnu⟩:∃ n,use.length=n:=⟨_,rfl⟩
  rw [hna,hnm,hnd,hnu] at hr HR HCH
  have HSR:=Lib.hid hr.sr
  have HS:Hid (∀ W2,Below W.heap.size W W2→(fun W2=>W2.cell? ⟨w.heap.size+1+1,0,none⟩=some (.pointer (some ⟨w.heap.size+1,0,none⟩))∧W2.cell? ⟨w.heap.size+1,0,none⟩=some (.string (str us))∧W2.cell? ⟨w.heap.size+1,1,none⟩=some (.int .i64 nodes)∧W2.cell? ⟨w.heap.size+1,2,none⟩=some (.int .i64 wall)∧W2.cell? ⟨w.heap.size+1,3,none⟩=some (.int .i64 qos)∧W2.cell? ⟨w.heap.size+1,4,none⟩=some (.slice pa na ca)∧W2.cell? ⟨w.heap.size+1,5,none⟩=some (.int .i64 cap)∧W2.cell? ⟨w.heap.size+1,6,none⟩=some (.int .i64 inn)∧W2.cell? ⟨w.heap.size+1,7,none⟩=some (.int .i64 out)∧W2.cell? ⟨w.heap.size+1,8,none⟩=some (.string (str pool))∧W2.cell? ⟨w.heap.size+1,9,none⟩=some (.slice pm nm cm)∧W2.cell? ⟨w.heap.size+1,10,none⟩=some (.slice pd nd cd)∧W2.cell? ⟨w.heap.size+1,11,none⟩=some (.slice pu nu cu)) W2):=fun W2 hb=>⟨(Below.cell hb hpl).trans hpc,(Below.cell hb hrl).trans (hr.box.cell 0 _),(Below.cell hb hrl).trans (hr.box.cell 1 _),(Below.cell hb hrl).trans (hr.box.cell 2 _),(Below.cell hb hrl).trans (hr.box.cell 3 _),(Below.cell hb hrl).trans (hr.box.cell 4 _),(Below.cell hb hrl).trans (hr.box.cell 5 _),(Below.cell hb hrl).trans (hr.box.cell 6 _),(Below.cell hb hrl).trans (hr.box.cell 7 _),(Below.cell hb hrl).trans (hr.box.cell 8 _),(Below.cell hb hrl).trans (hr.box.cell 9 _),(Below.cell hb hrl).trans (hr.box.cell 10 _),(Below.cell hb hrl).trans (hr.box.cell 11 _)⟩
  have hsC:=HS.out W (Below.refl _ _)
  clear hna hnm hnd hnu hr hI0 hseq hpb hB0 l1 l2 l3 l4 l5 hld hp hn hpc hsw hDW hDl hD HL0 hcl hs x4
  cases hc:chkS ⟨us,nodes,wall,qos,after,cap,inn,out,pool,mk,dr,use⟩ with
  | false =>
   have HSE:Hid (sE ⟨us,nodes,wall,qos,after,cap,inn,out,pool,mk,dr,use⟩=150):=by show _=_;unfold sE;rw [hc];rfl
   rw [HSE.out] at HCH
   rw [hc] at HRD
   clear hc
   unfold sV scs at HCH
   dsimp only at hsC HCH
   obtain ⟨hpc,d0,d1,d2,d3,d4,d5,d6,d7,d8,d9,d10,d11⟩:=hsC
   have HRL:=Lib.hid hrl
   refine wpIn_mono (Q:=Exit.then K0 (PanQ D (pnc 150 (L.length:Int)) W)) ?_ (fun e a3 w3 h=>?_)
   rotate_left
   ·cases e with
    | normal=>exact h
    | panic ch =>
     obtain ⟨h1,rfl,h3⟩:=h
     have HD2:=HDN.out _ h3
     show LeavesInM _ _ _ _ _ _ a3.defers _ _
     rw [h1]
     refine ⟨by simp,.inl ⟨_,_,rfl,run_takeDeferred HD2,?_⟩⟩
     refine ⟨(HLW.out.trans (h3.mono HLW.out.size)).trans (belowK_b (w:=w) (Nat.le_refl _) _ D _ _ (by have:=HDL.out;have:=HSZ.out;omega) HD2 rfl rfl),?_⟩
     rw [HRD.out]
     rfl
    | exit k=>exact h.elim
    | goto k=>exact h.elim
    | ret=>exact h.elim
    | outgrown=>exact h.elim
   refine wpIn_wide.2 ?_
   refine wp_region_held_drew (S:=(fun W2=>W2.cell? ⟨w.heap.size+1+1,0,none⟩=some (.pointer (some ⟨w.heap.size+1,0,none⟩))∧W2.cell? ⟨w.heap.size+1,0,none⟩=some (.string (str us))∧W2.cell? ⟨w.heap.size+1,1,none⟩=some (.int .i64 nodes)∧W2.cell? ⟨w.heap.size+1,2,none⟩=some (.int .i64 wall)∧W2.cell? ⟨w.heap.size+1,3,none⟩=some (.int .i64 qos)∧W2.cell? ⟨w.heap.size+1,4,none⟩=some (.slice pa na ca)∧W2.cell? ⟨w.heap.size+1,5,none⟩=some (.int .i64 cap)∧W2.cell? ⟨w.heap.size+1,6,none⟩=some (.int .i64 inn)∧W2.cell? ⟨w.heap.size+1,7,none⟩=some (.int .i64 out)∧W2.cell? ⟨w.heap.size+1,8,none⟩=some (.string (str pool))∧W2.cell? ⟨w.heap.size+1,9,none⟩=some (.slice pm nm cm)∧W2.cell? ⟨w.heap.size+1,10,none⟩=some (.slice pd nd cd)∧W2.cell? ⟨w.heap.size+1,11,none⟩=some (.slice pu nu cu))) (by kernel_rfl) (by exact HS.out _ (drew_low W)) (fun hHeld=>?_)
   refine wpAnyH_take (i:=0) (v:=?_) (ata at0) (by kernel_rfl) (by kernel_rfl) (by kernel_rfl) (fun _ _ _ h=>h) (Or.inl ⟨by rfl,?_⟩) (by assumption) ?_
   rotate_left
   ·(intro w hSw;(try dsimp only at hSw);go_simp;(first | done | with_reducible rfl))
   try simp only [Act.put,List.setIfInBounds_toArray,List.set_cons_zero,List.set_cons_succ]
   refine wpAnyH_take (i:=1) (v:=?_) (ata (atS at0)) (by kernel_rfl) (by kernel_rfl) (by kernel_rfl) (fun _ _ _ h=>h) (Or.inl ⟨by rfl,?_⟩) (by assumption) ?_
   rotate_left
   ·(intro w hSw;(try dsimp only at hSw);go_simp;(first | done | with_reducible rfl))
   try simp only [Act.put,List.setIfInBounds_toArray,List.set_cons_zero,List.set_cons_succ]
   refine wpAnyH_take (i:=2) (v:=?_) (ata (atS (atS at0))) (by kernel_rfl) (by kernel_rfl) (by kernel_rfl) (fun _ _ _ h=>h) (Or.inl ⟨by rfl,?_⟩) (by assumption) ?_
   rotate_left
   ·(intro w hSw;(try dsimp only at hSw);go_simp;(first | done | with_reducible rfl))
   try simp only [Act.put,List.setIfInBounds_toArray,List.set_cons_zero,List.set_cons_succ]
   refine wpAnyH_take (i:=3) (v:=?_) (ata (atS (atS (atS at0)))) (by kernel_rfl) (by kernel_rfl) (by kernel_rfl) (fun _ _ _ h=>h) (Or.inl ⟨by rfl,?_⟩) (by assumption) ?_
   rotate_left
   ·(intro w hSw;(try dsimp only at hSw);go_simp;(first | done | with_reducible rfl))
   try simp only [Act.put,List.setIfInBounds_toArray,List.set_cons_zero,List.set_cons_succ]
   refine wpAnyH_take (i:=4) (v:=?_) (ata (atS (atS (atS (atS at0))))) (by kernel_rfl) (by kernel_rfl) (by kernel_rfl) (fun _ _ _ h=>h) (Or.inl ⟨by rfl,?_⟩) (by assumption) ?_
   rotate_left
   ·(intro w hSw;(try dsimp only at hSw);go_simp;(first | done | with_reducible rfl))
   try simp only [Act.put,List.setIfInBounds_toArray,List.set_cons_zero,List.set_cons_succ]
   refine wpAnyH_ready (rs:=[5]) (by kernel_rfl) (by simp) ?_
   refine AllReadyH.cons (ata (atS (atS (atS (atS (atS at0)))))) (fun K hK=>?_) AllReadyH.nil
   go_simp
   (go_at_call 35;((with_reducible refine (HCH.out _ (drew_low W)).mono ?_);rintro e w2 ⟨rfl,hb2⟩);have hb2:=(drew_low W).trans (hb2.mono (drew_low W).size);have HB2:=Lib.hid hb2;clear hb2)
   refine hK.out _ _ (by exact HS.out _ HB2.out) (fun hHeld=>?_)
   clear hK K
   try simp only [Act.put,List.setIfInBounds_toArray,List.set_cons_zero,List.set_cons_succ]
   refine wpAnyH_take (i:=6) (v:=?_) (ata (atS (atS (atS (atS (atS (atS at0))))))) (by kernel_rfl) (by kernel_rfl) (by kernel_rfl) (fun _ _ _ h=>h) (Or.inl ⟨by rfl,?_⟩) (by assumption) ?_
   rotate_left
   ·(intro w hSw;(try dsimp only at hSw);go_simp;(first | done | with_reducible rfl))
   try simp only [Act.put,List.setIfInBounds_toArray,List.set_cons_zero,List.set_cons_succ]
   refine wpAnyH_ready (rs:=[7]) (by kernel_rfl) (by simp) ?_
   refine AllReadyH.cons (ata (atS (atS (atS (atS (atS (atS (atS at0)))))))) (fun K hK=>?_) AllReadyH.nil
   go_simp
   (go_at_call 70;((with_reducible refine (must_no (HR.out.next HB2.out)).mono ?_);rintro e w3 ⟨rfl,rfl⟩))
   exact ⟨rfl,rfl,HB2.out⟩
  | true =>
   have HSE:Hid (sE ⟨us,nodes,wall,qos,after,cap,inn,out,pool,mk,dr,use⟩=0):=by show _=_;unfold sE;rw [hc];rfl
   rw [HSE.out] at HCH
   rw [hc] at HRD
   clear hc
   unfold sV scs at HCH
   dsimp only at hsC HCH
   obtain ⟨hpc,d0,d1,d2,d3,d4,d5,d6,d7,d8,d9,d10,d11⟩:=hsC
   have HRL:=Lib.hid hrl
   refine wpIn_mono (Q:=Exit.then K0 fun _ _ _=>False) ?_ (fun e a3 w3 h=>?_)
   rotate_left
   ·cases e with
    | normal=>exact h
    | panic ch=>exact h.elim
    | exit k=>exact h.elim
    | goto k=>exact h.elim
    | ret=>exact h.elim
    | outgrown=>exact h.elim
   refine wpIn_wide.2 ?_
   go_upto_region 10 with fail
   refine wp_region_held_drew (S:=(fun W2=>W2.cell? ⟨w.heap.size+1+1,0,none⟩=some (.pointer (some ⟨w.heap.size+1,0,none⟩))∧W2.cell? ⟨w.heap.size+1,0,none⟩=some (.string (str us))∧W2.cell? ⟨w.heap.size+1,1,none⟩=some (.int .i64 nodes)∧W2.cell? ⟨w.heap.size+1,2,none⟩=some (.int .i64 wall)∧W2.cell? ⟨w.heap.size+1,3,none⟩=some (.int .i64 qos)∧W2.cell? ⟨w.heap.size+1,4,none⟩=some (.slice pa na ca)∧W2.cell? ⟨w.heap.size+1,5,none⟩=some (.int .i64 cap)∧W2.cell? ⟨w.heap.size+1,6,none⟩=some (.int .i64 inn)∧W2.cell? ⟨w.heap.size+1,7,none⟩=some (.int .i64 out)∧W2.cell? ⟨w.heap.size+1,8,none⟩=some (.string (str pool))∧W2.cell? ⟨w.heap.size+1,9,none⟩=some (.slice pm nm cm)∧W2.cell? ⟨w.heap.size+1,10,none⟩=some (.slice pd nd cd)∧W2.cell? ⟨w.heap.size+1,11,none⟩=some (.slice pu nu cu))) (by kernel_rfl) (by exact HS.out _ (drew_low W)) (fun hHeld=>?_)
   refine wpAnyH_take (i:=0) (v:=?_) (ata at0) (by kernel_rfl) (by kernel_rfl) (by kernel_rfl) (fun _ _ _ h=>h) (Or.inl ⟨by rfl,?_⟩) (by assumption) ?_
   rotate_left
   ·(intro w hSw;(try dsimp only at hSw);go_simp;(first | done | with_reducible rfl))
   try simp only [Act.put,List.setIfInBounds_toArray,List.set_cons_zero,List.set_cons_succ]
   refine wpAnyH_take (i:=1) (v:=?_) (ata (atS at0)) (by kernel_rfl) (by kernel_rfl) (by kernel_rfl) (fun _ _ _ h=>h) (Or.inl ⟨by rfl,?_⟩) (by assumption) ?_
   rotate_left
   ·(intro w hSw;(try dsimp only at hSw);go_simp;(first | done | with_reducible rfl))
   try simp only [Act.put,List.setIfInBounds_toArray,List.set_cons_zero,List.set_cons_succ]
   refine wpAnyH_take (i:=2) (v:=?_) (ata (atS (atS at0))) (by kernel_rfl) (by kernel_rfl) (by kernel_rfl) (fun _ _ _ h=>h) (Or.inl ⟨by rfl,?_⟩) (by assumption) ?_
   rotate_left
   ·(intro w hSw;(try dsimp only at hSw);go_simp;(first | done | with_reducible rfl))
   try simp only [Act.put,List.setIfInBounds_toArray,List.set_cons_zero,List.set_cons_succ]
   refine wpAnyH_take (i:=3) (v:=?_) (ata (atS (atS (atS at0)))) (by kernel_rfl) (by kernel_rfl) (by kernel_rfl) (fun _ _ _ h=>h) (Or.inl ⟨by rfl,?_⟩) (by assumption) ?_
   rotate_left
   ·(intro w hSw;(try dsimp only at hSw);go_simp;(first | done | with_reducible rfl))
   try simp only [Act.put,List.setIfInBounds_toArray,List.set_cons_zero,List.set_cons_succ]
   refine wpAnyH_take (i:=4) (v:=?_) (ata (atS (atS (atS (atS at0))))) (by kernel_rfl) (by kernel_rfl) (by kernel_rfl) (fun _ _ _ h=>h) (Or.inl ⟨by rfl,?_⟩) (by assumption) ?_
   rotate_left
   ·(intro w hSw;(try dsimp only at hSw);go_simp;(first | done | with_reducible rfl))
   try simp only [Act.put,List.setIfInBounds_toArray,List.set_cons_zero,List.set_cons_succ]
   refine wpAnyH_ready (rs:=[5]) (by kernel_rfl) (by simp) ?_
   refine AllReadyH.cons (ata (atS (atS (atS (atS (atS at0)))))) (fun K hK=>?_) AllReadyH.nil
   go_simp
   (go_at_call 35;((with_reducible refine (HCH.out _ (drew_low W)).mono ?_);rintro e w2 ⟨rfl,hb2⟩);have hb2:=(drew_low W).trans (hb2.mono (drew_low W).size);have HB2:=Lib.hid hb2;clear hb2)
   refine hK.out _ _ (by exact HS.out _ HB2.out) (fun hHeld=>?_)
   clear hK K
   try simp only [Act.put,List.setIfInBounds_toArray,List.set_cons_zero,List.set_cons_succ]
   refine wpAnyH_take (i:=6) (v:=?_) (ata (atS (atS (atS (atS (atS (atS at0))))))) (by kernel_rfl) (by kernel_rfl) (by kernel_rfl) (fun _ _ _ h=>h) (Or.inl ⟨by rfl,?_⟩) (by assumption) ?_
   rotate_left
   ·(intro w hSw;(try dsimp only at hSw);go_simp;(first | done | with_reducible rfl))
   try simp only [Act.put,List.setIfInBounds_toArray,List.set_cons_zero,List.set_cons_succ]
   refine wpAnyH_ready (rs:=[7]) (by kernel_rfl) (by simp) ?_
   refine AllReadyH.cons (ata (atS (atS (atS (atS (atS (atS (atS at0)))))))) (fun K hK=>?_) AllReadyH.nil
   go_simp
   (go_at_call 70;((with_reducible refine (must_yes (HR.out.next HB2.out)).mono ?_);rintro e w3 ⟨rfl,rfl⟩))
   refine hK.out _ _ (by exact HS.out _ HB2.out) (fun hHeld=>?_)
   clear hK K
   try simp only [Act.put,List.setIfInBounds_toArray,List.set_cons_zero,List.set_cons_succ]
   refine wpAnyH_done (by kernel_rfl) ?_ _
   refine hK0 _ _ ?_
   refine wpF_of (n:=6) (wpIn_wide.2 ?_)
   clear hpc d0 d1 d2 d3 d4 d5 d6 d7 d8 d9 d10 d11 hHeld
   have hb2:=HB2.out
   obtain ⟨hpc,d0,d1,d2,d3,d4,d5,d6,d7,d8,d9,d10,d11⟩:=HS.out _ hb2
   have hrl2:w.heap.size+1 < w2.heap.size:=Nat.lt_of_lt_of_le hrl hb2.size
   have hpl2:w.heap.size+1+1 < w2.heap.size:=Nat.lt_of_lt_of_le hpl hb2.size
   have hB2:w2.heap[w.heap.size]?=some (.cells _ 27 (0,0)):=HB0.out.next hb2
   have HB2B:=Lib.hid hB2
   clear hb2 hpl hrl
   go_wp2_with (refine wpList_store_row rfl _ _ _ rfl w.heap.size #[.string (str us),.int .i64 nodes,.int .i64 wall,.int .i64 qos,.slice pa na ca,.int .i64 cap,.int .i64 inn,.int .i64 out,.string (str pool),.slice pm nm cm,.slice pd nd cd,.slice pu nu cu] rfl rfl _ _ hB2 (by kernel_rfl) rfl (by kernel_rfl) ?_)
   have HDW:=HDL.out
   have hs4:=HSZ.out
   have HD3:(w2.setRow w.heap.size #[.string (str us),.int .i64 nodes,.int .i64 wall,.int .i64 qos,.slice pa na ca,.int .i64 cap,.int .i64 inn,.int .i64 out,.string (str pool),.slice pm nm cm,.slice pd nd cd,.slice pu nu cu]).heap[D]?=some (.deferred (some [])):=(setRow_other _ _ _ _ (by omega)).trans (HDN.out _ HB2.out)
   refine ⟨by simp,.inl ⟨_,_,rfl,run_takeDeferred HD3,?_⟩⟩
   have HB4:((w2.setRow w.heap.size #[.string (str us),.int .i64 nodes,.int .i64 wall,.int .i64 qos,.slice pa na ca,.int .i64 cap,.int .i64 inn,.int .i64 out,.string (str pool),.slice pm nm cm,.slice pd nd cd,.slice pu nu cu]).putObj D (.deferred none)).heap[w.heap.size]?=some (.cells #[.string (str us),.int .i64 nodes,.int .i64 wall,.int .i64 qos,.slice pa na ca,.int .i64 cap,.int .i64 inn,.int .i64 out,.string (str pool),.slice pm nm cm,.slice pd nd cd,.slice pu nu cu] 27 (0,0)):=(World.putObj_heap_other (by omega)).trans (setRow_heap _ _ _ _ _ _ HB2B.out)
   refine ⟨_,results_cell_row rfl _ _ _ _ _ _ _ rfl HB4 Tryz.underlying27 rfl (by kernel_rfl),?_⟩
   refine ⟨(below_setRow (HLW.out.trans (HB2.out.mono HLW.out.size)) (Nat.le_refl _) _).trans (belowK_b (w:=w) (Nat.le_refl _) _ D _ _ (by omega) HD3 rfl rfl),?_⟩
   rw [HRD.out]
   refine ⟨⟨_,_,_,_⟩,rfl,((HR.out.next HB2.out).kept fun b hb=>?_).so (by omega)⟩
   obtain ⟨hb1,_,u,hu,hcu⟩:=(HR.out.next HB2.out).lM hb
   have hu2:(w2.setRow w.heap.size #[.string (str us),.int .i64 nodes,.int .i64 wall,.int .i64 qos,.slice pa na ca,.int .i64 cap,.int .i64 inn,.int .i64 out,.string (str pool),.slice pm nm cm,.slice pd nd cd,.slice pu nu cu]).heap[b]?=some u:=(setRow_other _ _ _ _ (by omega)).trans hu
   exact ((cells_ne HD3 rfl hu2 hcu).trans hu2).trans hu.symm
 case pan =>
  rintro D ch W hDl ⟨e,i,hp,rfl,hb⟩ hD
  refine ⟨by simp,.inl ⟨_,_,rfl,run_takeDeferred hD,?_⟩⟩
  refine ⟨hb.trans (belowK_b (w:=w) (Nat.le_refl _) _ D _ _ (by have:=HSZ.out;omega) hD rfl rfl),?_⟩
  rw [hp]
end Go.Proofs.YtekcjfdllclphaaGreatDoor.gn
end
