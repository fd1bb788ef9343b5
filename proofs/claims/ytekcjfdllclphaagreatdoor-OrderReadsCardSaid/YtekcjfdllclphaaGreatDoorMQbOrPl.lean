/- Orders, plain: the document compares texts: they are equal just where the fields are; how an order stands while its words are read. -/
import Derived.Test.YtekcjfdllclphaaGreatDoorMQbOrR
set_option linter.unusedVariables false
section
namespace Go.Proofs.YtekcjfdllclphaaGreatDoor.od
open Go.Proofs.YtekcjfdllclphaaGreatDoor.un
open Go.Proofs.YtekcjfdllclphaaGreatDoor.di
open Go.Proofs.YtekcjfdllclphaaGreatDoor.sp
open Go.Lib (decDigits)
theorem join_fs {k:Nat} (hk:1≤k∧k≤18) {L M:List Fl} (hL:∀ f∈L,(32:UInt8) ∉ wtx f∧(61:UInt8) ∉ f.1) (hM:∀ f∈M,(32:UInt8) ∉ wtx f∧(61:UInt8) ∉ f.1) (h:joinC 32 (wordO k::L.map wtx)=joinC 32 (wordO k::M.map wtx)):L=M:=by
 have cl:∀ (N:List Fl),(∀ f∈N,(32:UInt8) ∉ wtx f∧(61:UInt8) ∉ f.1)→cuts 32 (joinC 32 (wordO k::N.map wtx))=wordO k::N.map wtx:=fun N hN=>cuts_join 32 _ (by simp) fun w hw=>by
  rcases List.mem_cons.1 hw with rfl | hw
  ·exact (word_plain hk).1.1
  ·obtain ⟨f,hf,rfl⟩:=List.mem_map.1 hw
   exact (hN f hf).1
 have e:=congrArg (cuts 32) h
 rw [cl L hL,cl M hM] at e
 have e2:=(List.cons.inj e).2
 have a:=mapM_wtx fun f hf=>(hL f hf).2
 have b:=mapM_wtx fun f hf=>(hM f hf).2
 rw [e2,b] at a
 exact (Option.some.inj a).symm
theorem dorun_fs {k:Nat} {ws:List Tx} {o:Ord} {hs:List Fl} (hd:dorun (Ord.at k) [] ws=some (o,hs)) (hw:∀ w∈ws,(32:UInt8) ∉ w):(∀ f∈hs,(32:UInt8) ∉ wtx f∧(61:UInt8) ∉ f.1)∧o.kind=k:=by
 obtain ⟨fs,h1,h3,h4,h5,h6,h7⟩:=dorun_inv _ _ _ _ _ hd
 refine ⟨fun f hf=>?_,h6⟩
 rw [h4,List.nil_append] at hf
 obtain ⟨g,hg,rfl⟩:=List.mem_map.1 hf
 have hwg:(32:UInt8) ∉ wtx g:=hw _ (by rw [h1];exact List.mem_map.2 ⟨g,hg,rfl⟩)
 by_cases hc:g.1=capK
 ·unfold nrm
  rw [if_pos hc]
  refine ⟨?_,show (61:UInt8) ∉ capK by decide⟩
  have p61:plain [61]:=by unfold plain;decide
  have pc:plain capK:=by unfold plain;decide
  exact (plain_app pc (plain_app p61 (plain_stxt _))).1
 ·rw [nrm_no hc]
  exact ⟨hwg,h3 g hg⟩
theorem oread_dorun {s l0:Tx} {ws:List Tx} {k:Nat} (hc:cuts 32 s=l0::ws) (hk:kindO? l0=some k):oread s=match dorun (Ord.at k) [] ws with
  | some p=>if chkO p.1=true∧p.2=fsO p.1 then (p.1,0,0) else (Ord.zero,160,1)
  | none=>(Ord.zero,160,1):=by
 obtain ⟨h1,h2,_⟩:=kindO_some hk
 rw [oread_cuts hc hk,← dorun_eq h1 h2]
 cases dorun (Ord.at k) [] ws with
 | none=>rfl
 | some p =>
  dsimp only
  by_cases h:chkO p.1=true∧p.2=fsO p.1
  ·rw [if_pos h,if_pos h]
  ·rw [if_neg h,if_neg h]
theorem dres {s l0:Tx} {ws:List Tx} {k:Nat} {o:Ord} {hs:List Fl} (hc:cuts 32 s=l0::ws) (hk:kindO? l0=some k) (hd:dorun (Ord.at k) [] ws=some (o,hs)) :
  (chkO o=true→txtO o=joinC 32 (wordO k::hs.map wtx)→oread s=(o,0,0))∧(chkO o=true→txtO o≠joinC 32 (wordO k::hs.map wtx)→oread s=(Ord.zero,160,1))∧(¬ chkO o=true→oread s=(Ord.zero,160,1)):=by
 have hr:=oread_dorun hc hk
 obtain ⟨h1,h2,_⟩:=kindO_some hk
 rw [hd] at hr
 dsimp only at hr
 have hw:∀ w∈ws,(32:UInt8) ∉ w:=fun w hw=>cuts_clean 32 s w (by rw [hc];exact List.mem_cons_of_mem _ hw)
 obtain ⟨hcl,hok⟩:=dorun_fs hd hw
 refine ⟨fun a b=>?_,fun a b=>?_,fun a=>?_⟩
 ·have hO:=(chkO_iff o).1 a
  have e:hs=fsO o:=by
   refine join_fs h1 hcl (fun f hf=>⟨(fs_plain hO hf).1,(fs_key hf).1⟩) ?_
   rw [←b]
   unfold txtO
   rw [if_neg (by rw [hok];exact h2),hok]
  rw [if_pos ⟨a,e⟩] at hr
  exact hr
 ·rw [if_neg ?_] at hr
  ·exact hr
  rintro ⟨_,e⟩
  refine b ?_
  unfold txtO
  rw [if_neg (by rw [hok];exact h2),hok,e]
 ·rw [if_neg (fun h=>a h.1)] at hr
  exact hr
theorem dres_no {s l0:Tx} {ws:List Tx} {k:Nat} (hc:cuts 32 s=l0::ws) (hk:kindO? l0=some k) (hd:dorun (Ord.at k) [] ws=none):oread s=(Ord.zero,160,1):=by
 have hr:=oread_dorun hc hk
 rw [hd] at hr
 exact hr
theorem dres_kind {s l0:Tx} {ws:List Tx} (hp:¬ subL.isPrefixOf s=true) (hc:cuts 32 s=l0::ws) (hk:kindO? l0=none):oread s=(Ord.zero,160,1):=by
 unfold oread
 rw [if_neg hp,hc]
 dsimp only
 rw [hk]
structure DO (k:Nat) (o:Ord):Prop where
 kind:o.kind=k
 slip:o.slip=Slip.zero
 job:0≤o.job∧o.job≤1099511627776
 n:0≤o.n∧o.n≤1099511627776
 size:0≤o.size∧o.size≤1099511627776
 name:o.name.length≤10000
 pool:o.pool.length≤10000
 user:o.user.length≤10000
theorem zero_bd:(0:Int)≤0∧(0:Int)≤1099511627776:=by decide
theorem DO.start (k:Nat):DO k (Ord.at k):=⟨rfl,rfl,zero_bd,zero_bd,zero_bd,Nat.zero_le _,Nat.zero_le _,Nat.zero_le _⟩
theorem nat_bd {n:Nat} (h:n≤top):(0:Int)≤(n:Int)∧(n:Int)≤1099511627776:=by unfold top at h;omega
theorem DO.ofJob {k:Nat} {o:Ord} (h:DO k o) {n:Nat} (hn:n≤top):DO k { o with job:=(n:Int) }:=⟨h.kind,h.slip,nat_bd hn,h.n,h.size,h.name,h.pool,h.user⟩
theorem DO.ofN {k:Nat} {o:Ord} (h:DO k o) {n:Nat} (hn:n≤top):DO k { o with n:=(n:Int) }:=⟨h.kind,h.slip,h.job,nat_bd hn,h.size,h.name,h.pool,h.user⟩
theorem DO.ofSize {k:Nat} {o:Ord} (h:DO k o) {n:Nat} (hn:n≤top):DO k { o with size:=(n:Int) }:=⟨h.kind,h.slip,h.job,h.n,nat_bd hn,h.name,h.pool,h.user⟩
theorem DO.ofYes {k:Nat} {o:Ord} (h:DO k o) (b:Bool):DO k { o with yes:=b }:=⟨h.kind,h.slip,h.job,h.n,h.size,h.name,h.pool,h.user⟩
theorem DO.ofName {k:Nat} {o:Ord} (h:DO k o) {v:Tx} (hv:v.length≤10000):DO k { o with name:=v }:=⟨h.kind,h.slip,h.job,h.n,h.size,hv,h.pool,h.user⟩
theorem DO.ofPool {k:Nat} {o:Ord} (h:DO k o) {v:Tx} (hv:v.length≤10000):DO k { o with pool:=v }:=⟨h.kind,h.slip,h.job,h.n,h.size,h.name,hv,h.user⟩
theorem DO.ofUser {k:Nat} {o:Ord} (h:DO k o) {v:Tx} (hv:v.length≤10000):DO k { o with user:=v }:=⟨h.kind,h.slip,h.job,h.n,h.size,h.name,h.pool,hv⟩
theorem dp_job (o:Ord) (v:Tx):dput o (jobW,v)=(num? v).map fun n=>({ o with job:=(n:Int) },(jobW,v)):=by
 unfold dput
 rw [if_pos rfl]
 dsimp only
 cases num? v <;> rfl
theorem dp_n (o:Ord) (v:Tx):dput o (nK,v)=(num? v).map fun n=>({ o with n:=(n:Int) },(nK,v)):=by
 unfold dput
 rw [if_neg (show ¬ nK=jobW by decide),if_pos rfl]
 dsimp only
 cases num? v <;> rfl
theorem dp_res (o:Ord) (v:Tx):dput o (resK,v)=some ({ o with yes:=decide (v=okW) },(resK,v)):=by
 unfold dput
 rw [if_neg (show ¬ resK=jobW by decide),if_neg (show ¬ resK=nK by decide),if_pos rfl]
theorem dp_acc (o:Ord) (v:Tx):dput o (accK,v)=some ({ o with yes:=decide (v=pubV) },(accK,v)):=by
 unfold dput
 rw [if_neg (show ¬ accK=jobW by decide),if_neg (show ¬ accK=nK by decide),if_neg (show ¬ accK=resK by decide),if_pos rfl]
theorem dp_user (o:Ord) (v:Tx):dput o (userK,v)=some ({ o with user:=v },(userK,v)):=by
 unfold dput
 rw [if_neg (show ¬ userK=jobW by decide),if_neg (show ¬ userK=nK by decide),if_neg (show ¬ userK=resK by decide),if_neg (show ¬ userK=accK by decide),if_pos rfl]
theorem dp_name (o:Ord) (v:Tx):dput o (nameK,v)=some ({ o with name:=v },(nameK,v)):=by
 unfold dput
 rw [if_neg (show ¬ nameK=jobW by decide),if_neg (show ¬ nameK=nK by decide),if_neg (show ¬ nameK=resK by decide),if_neg (show ¬ nameK=accK by decide),if_neg (show ¬ nameK=userK by decide),if_pos rfl]
theorem dp_pool (o:Ord) (v:Tx):dput o (poolK,v)=some ({ o with pool:=v },(poolK,v)):=by
 unfold dput
 rw [if_neg (show ¬ poolK=jobW by decide),if_neg (show ¬ poolK=nK by decide),if_neg (show ¬ poolK=resK by decide),if_neg (show ¬ poolK=accK by decide),if_neg (show ¬ poolK=userK by decide),if_neg (show ¬ poolK=nameK by decide),if_pos rfl]
theorem dp_cap (o:Ord) (v:Tx):dput o (capK,v)=(size? v).map fun n=>({ o with size:=(n:Int) },(capK,stxt (n:Int))):=by
 unfold dput
 rw [if_neg (show ¬ capK=jobW by decide),if_neg (show ¬ capK=nK by decide),if_neg (show ¬ capK=resK by decide),if_neg (show ¬ capK=accK by decide),if_neg (show ¬ capK=userK by decide),if_neg (show ¬ capK=nameK by decide),if_neg (show ¬ capK=poolK by decide),if_pos rfl]
theorem dp_none (o:Ord) (key v:Tx) (h1:key≠jobW) (h2:key≠nK) (h3:key≠resK) (h4:key≠accK) (h5:key≠userK) (h6:key≠nameK) (h7:key≠poolK) (h8:key≠capK):dput o (key,v)=none:=by
 unfold dput
 rw [if_neg h1,if_neg h2,if_neg h3,if_neg h4,if_neg h5,if_neg h6,if_neg h7,if_neg h8]
theorem dorun_none (o:Ord) (gs:List Fl) (x:Tx) (ws:List Tx) (h:cut x=none):dorun o gs (x::ws)=none:=by
 rw [dorun,h]
theorem dorun_bad (o:Ord) (gs:List Fl) (x:Tx) (f:Fl) (ws:List Tx) (h:cut x=some f) (hd:dput o f=none):dorun o gs (x::ws)=none:=by
 rw [dorun,h]
 dsimp only
 rw [hd]
theorem dorun_go (o o':Ord) (gs:List Fl) (x:Tx) (f g:Fl) (ws:List Tx) (h:cut x=some f) (hd:dput o f=some (o',g)):dorun o gs (x::ws)=dorun o' (gs++[g]) ws:=by
 rw [dorun,h]
 dsimp only
 rw [hd]
end Go.Proofs.YtekcjfdllclphaaGreatDoor.od
end
