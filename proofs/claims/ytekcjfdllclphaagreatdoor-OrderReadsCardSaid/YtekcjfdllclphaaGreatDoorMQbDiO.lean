/- Directives, plain: their texts, read again; the order of fields; one left out, or twice; another size. -/
import Derived.Test.YtekcjfdllclphaaGreatDoorMQbGen
import Derived.Lib.OthersKept
import Derived.Laws.RangeAny
import Derived.Deep.LoopGhost
import Derived.Maps.OwnOps
import Derived.Carry
import Derived.Maps.RangeWalk
set_option linter.unusedVariables false
section
namespace Go.Proofs.YtekcjfdllclphaaGreatDoor.di
open Go.Proofs.YtekcjfdllclphaaGreatDoor.un
open Go.Lib (decDigits)
def wtx (f:Fl):Tx:=f.1++61::f.2
theorem cut_wtx {f:Fl} (h:(61:UInt8) ∉ f.1):cut (wtx f)=some f:=cut_at f.1 f.2 h
theorem mapM_wtx:∀ {fs:List Fl},(∀ f∈fs,(61:UInt8) ∉ f.1)→(fs.map wtx).mapM cut=some fs
 | [],_=>rfl
 | f::fs,h=>by
  rw [List.map_cons,List.mapM_cons,cut_wtx (h f (by simp)),mapM_wtx fun g hg=>h g (by simp [hg])]
  rfl
theorem mapM_back:∀ {ws:List Tx} {fs:List Fl},ws.mapM cut=some fs→ws=fs.map wtx∧∀ f∈fs,(61:UInt8) ∉ f.1
 | [],fs,h=>by
  have:fs=[]:=(Option.some.inj h).symm
  subst this
  simp
 | w::ws,fs,h=>by
  rw [List.mapM_cons] at h
  cases hc:cut w with
  | none=>rw [hc] at h;cases h
  | some f =>
   rw [hc] at h
   cases hm:ws.mapM cut with
   | none=>rw [hm] at h;cases h
   | some gs =>
    rw [hm] at h
    have:fs=f::gs:=(Option.some.inj (show some (f::gs)=some fs from h)).symm
    subst this
    obtain ⟨e1,e2⟩:=mapM_back hm
    obtain ⟨k1,k2⟩:=cut_some w f.1 f.2 hc
    refine ⟨by rw [List.map_cons,← e1];rw [k1];rfl,?_⟩
    intro g hg
    rcases List.mem_cons.1 hg with rfl | hg
    ·exact k2
    ·exact e2 g hg
def lineOf (k:Nat) (fs:List Fl):Tx:=joinW (bbW::kw k::fs.map wtx)
theorem kind_kw {k:Nat} (h:1≤k∧k≤6):kind? (kw k)=some k:=by
 have hc:k=1∨k=2∨k=3∨k=4∨k=5∨k=6:=by omega
 rcases hc with rfl | rfl | rfl | rfl | rfl | rfl <;> decide
theorem kind_some {w:Tx} {k:Nat} (h:kind? w=some k):w=kw k∧1≤k∧k≤6:=by
 unfold kind? at h
 cases hf:kindL.findIdx? (fun x=>x == w) with
 | none=>rw [hf] at h;cases h
 | some i =>
  rw [hf] at h
  have hk:i+1=k:=by simpa using h
  obtain ⟨hi,hp,_⟩:=List.findIdx?_eq_some_iff_getElem.1 hf
  have hl:kindL.length=6:=rfl
  refine ⟨?_,by omega,by omega⟩
  have:kindL[i]=w:=by simpa using hp
  rw [←this,← hk]
  unfold kw
  rw [Nat.add_sub_cancel,List.getD_eq_getElem?_getD,List.getElem?_eq_getElem hi]
  rfl
theorem line_some {l:Tx} {d:Dir} (h:line? l=some d):∃ k fs,(1≤k∧k≤6)∧l=lineOf k fs∧words l=bbW::kw k::fs.map wtx∧(∀ f∈fs,(32:UInt8) ∉ wtx f)∧(∀ f∈fs,(61:UInt8) ∉ f.1)∧good k fs∧d=dirOf k fs:=by
 unfold line? at h
 split at h
 ·rename_i b w ws hw
  split at h
  ·rename_i hb
   split at h
   ·rename_i k hk
    unfold fields? at h
    split at h
    ·rename_i fs hm
     split at h
     ·rename_i hg
      obtain ⟨e1,e2⟩:=mapM_back hm
      obtain ⟨e3,e4⟩:=kind_some hk
      subst hb;subst e3;subst e1
      refine ⟨k,fs,e4,?_,hw,?_,e2,hg,(Option.some.inj h).symm⟩
      ·unfold lineOf
       rw [←hw,join_words]
      ·intro f hf
       refine words_clean l _ ?_
       rw [hw]
       simp only [List.mem_cons]
       exact .inr (.inr (List.mem_map.2 ⟨f,hf,rfl⟩))
     ·cases h
    ·cases h
   ·cases h
  ·cases h
 ·cases h
def fsOf (d:Dir) (sv:Tx):List Fl:=(if hasName d.kind then [(nameK,d.name)] else [])++(if hasSize d.kind then [(szK d.kind,sv)] else [])++(if hasPool d.kind then [(poolK,d.pool)] else [])++(if d.opn then [(accK,pubV)] else [])
def dtx (d:Dir):Tx:=lineOf d.kind (fsOf d (stxt d.size))
theorem name_clean {v:Tx} (h:isName v=true):(32:UInt8) ∉ v:=by
 intro hm
 obtain ⟨j,hj,he⟩:=List.getElem_of_mem hm
 have:=(name_bytes h j hj).1
 rw [he] at this
 exact this (by decide)
theorem name_lf {v:Tx} (h:isName v=true):(10:UInt8) ∉ v:=by
 intro hm
 obtain ⟨j,hj,he⟩:=List.getElem_of_mem hm
 have:=(name_bytes h j hj).2.2.1
 rw [he] at this
 exact this (by decide)
theorem name_len {v:Tx} (h:isName v=true):v.length≤32:=(name_one h).2.1
def plain (v:Tx):Prop:=(32:UInt8) ∉ v∧(10:UInt8) ∉ v
theorem plain_app {a b:Tx} (ha:plain a) (hb:plain b):plain (a++b) :=
 ⟨fun h=>(List.mem_append.1 h).elim ha.1 hb.1,fun h=>(List.mem_append.1 h).elim ha.2 hb.2⟩
theorem plain_dec (n:Nat):plain (decDigits n):=by
 constructor
 ·intro h
  exact absurd (dec_dig n _ h) (by decide)
 ·intro h
  exact absurd (dec_dig n _ h) (by decide)
theorem plain_nm {k:Nat} (h:k < 8):plain (nm k):=by
 rcases lt8 h with rfl | rfl | rfl | rfl | rfl | rfl | rfl | rfl <;> (unfold plain;decide)
theorem plain_txt (n:Int):plain (txt n):=by
 unfold txt
 split
 ·exact plain_dec _
 ·exact ⟨by simp,by simp⟩
theorem plain_stxt (n:Int):plain (stxt n):=by
 by_cases h:0 < n∧n≤1099511627776
 ·obtain ⟨m,rfl⟩:∃ m:Nat,n=(m:Int):=⟨n.toNat,by omega⟩
  rcases stxt_cases (show 0 < m by omega) (show m≤top by unfold top;omega) with ⟨k,hk,_,e⟩ | e
  ·rw [e]
   exact plain_app (plain_dec _) (plain_nm (by omega))
  ·rw [e]
   exact plain_dec _
 ·rw [stxt_out h]
  exact plain_txt n
theorem plain_name {v:Tx} (h:isName v=true):plain v:=⟨name_clean h,name_lf h⟩
structure Made (d:Dir) (sv:Tx) (n:Nat):Prop where
 ok:chk d=true
 sv:hasSize d.kind=true→plain sv∧size? sv=some n∧0 < n∧sv.length≤20
theorem Made.mem {d:Dir} {sv:Tx} {n:Nat} {f:Fl} (hf:f∈fsOf d sv) :
  (hasName d.kind=true∧f=(nameK,d.name))∨(hasSize d.kind=true∧f=(szK d.kind,sv))∨(hasPool d.kind=true∧f=(poolK,d.pool))∨(d.opn=true∧f=(accK,pubV)):=by
 unfold fsOf at hf
 cases h1:hasName d.kind <;> cases h2:hasSize d.kind <;> cases h3:hasPool d.kind <;> cases h4:d.opn <;> simp [h1,h2,h3,h4] at hf <;> simp [hf]
theorem szK_plain (k:Nat):plain (szK k)∧(61:UInt8) ∉ szK k:=by
 rcases szK_cases k with h | h <;> rw [h] <;> (unfold plain;decide)
theorem Made.wtx {d:Dir} {sv:Tx} {n:Nat} (h:Made d sv n) {f:Fl} (hf:f∈fsOf d sv):plain (wtx f)∧(61:UInt8) ∉ f.1∧(di.wtx f).length≤50:=by
 obtain ⟨_,c1,_,c2,_,c4,_,_⟩:=(chk_iff d).1 h.ok
 have p61:plain [61]:=by unfold plain;decide
 have key:∀ (a b:Tx),plain a→plain b→plain (di.wtx (a,b)):=fun a b ha hb=>by
  show plain (a++([61]++b))
  exact plain_app ha (plain_app p61 hb)
 rcases Made.mem (n:=n) hf with ⟨e,rfl⟩ | ⟨e,rfl⟩ | ⟨e,rfl⟩ | ⟨e,rfl⟩
 ·have hn:=c2.1 e
  refine ⟨key _ _ (by unfold plain;decide) (plain_name hn),(show (61:UInt8) ∉ nameK by decide),?_⟩
  have:=name_len hn
  show (nameK++61::d.name).length≤50
  rw [List.length_append,List.length_cons,show nameK.length=4 from rfl]
  omega
 ·obtain ⟨s1,s2,s3,s4⟩:=h.sv e
  refine ⟨key _ _ (szK_plain _).1 s1,(szK_plain _).2,?_⟩
  show (szK d.kind++61::sv).length≤50
  have:(szK d.kind).length≤8:=by rcases szK_cases d.kind with h | h <;> rw [h] <;> decide
  rw [List.length_append,List.length_cons]
  omega
 ·have hn:=c4.1 e
  refine ⟨key _ _ (by unfold plain;decide) (plain_name hn),(show (61:UInt8) ∉ poolK by decide),?_⟩
  have:=name_len hn
  show (poolK++61::d.pool).length≤50
  rw [List.length_append,List.length_cons,show poolK.length=4 from rfl]
  omega
 ·exact ⟨key _ _ (by unfold plain;decide) (by unfold plain;decide),by decide,by decide⟩
theorem Made.good {d:Dir} {sv:Tx} {n:Nat} (h:Made d sv n):good d.kind (fsOf d sv)∧dirOf d.kind (fsOf d sv)={ d with size:=if hasSize d.kind then (n:Int) else d.size }:=by
 obtain ⟨c0,c1,cz,c2,c3,c4,c5,c6⟩:=(chk_iff d).1 h.ok
 obtain ⟨k,nm,pl,z,o⟩:=d
 dsimp only at c0 c1 cz c2 c3 c4 c5 c6 ⊢
 have hs:=h.sv
 dsimp only at hs
 have hk:k=1∨k=2∨k=3∨k=4∨k=5∨k=6:=by omega
 have vn:hasName k=true→okv nameK nm=true:=fun e=>by rw [okv_name];exact c2.1 e
 have vp:hasPool k=true→okv poolK pl=true:=fun e=>by rw [okv_pool];exact c4.1 e
 have vs:hasSize k=true→okv (szK k) sv=true:=fun e=>by
  rw [okv_sz,(hs e).2.1,decide_eq_true_eq]
  exact (hs e).2.2.1
 have vz:hasSize k=true→(size? sv).getD 0=n:=fun e=>by rw [(hs e).2.1];rfl
 have zz:hasSize k=false→z=0:=fun e=>by
  have:¬ 0 < z:=fun h0=>by rw [c1.2 h0] at e;cases e
  omega
 have nn:hasName k=false→nm=[]:=fun e=>by rcases c3 with c3 | c3;rw [c3] at e;cases e;exact c3
 have pp:hasPool k=false→pl=[]:=fun e=>by rcases c5 with c5 | c5;rw [c5] at e;cases e;exact c5
 have vo:okv accK pubV=true:=by decide
 have oo:k≠4→o=false:=fun e=>by rcases c6 with c6 | c6;exact c6;exact absurd c6 e
 unfold fsOf
 dsimp only
 rcases hk with rfl | rfl | rfl | rfl | rfl | rfl
 ·have e1:=nn (by decide);have e5:=oo (by decide);have a1:=vs (by decide);have a2:=vp (by decide);have a3:=vz (by decide)
  subst e1;subst e5
  constructor
  ·exact ⟨(show [capK,poolK].Nodup by decide),by
    intro f hf
    have hf':f=(capK,sv)∨f=(poolK,pl):=by simpa [hasName,hasSize,hasPool,szK] using hf
    rcases hf' with rfl | rfl
    ·exact ⟨(show allow 1 capK=true by decide),a1⟩
    ·exact ⟨(show allow 1 poolK=true by decide),a2⟩,by
    intro r hr
    have hr':r=capK∨r=poolK:=by simpa [req,hasName,hasSize,hasPool,szK] using hr
    rcases hr' with rfl | rfl
    ·exact (show capK∈[capK,poolK] by decide)
    ·exact (show poolK∈[capK,poolK] by decide)⟩
  ·show (⟨1,[],pl,(((size? sv).getD 0:Nat):Int),false⟩:Dir)=⟨1,[],pl,(n:Int),false⟩
   rw [a3]
 ·have e1:=nn (by decide);have e2:=pp (by decide);have e5:=oo (by decide);have a1:=vs (by decide);have a3:=vz (by decide)
  subst e1;subst e2;subst e5
  constructor
  ·exact ⟨(show [sizeK].Nodup by decide),by
    intro f hf
    have hf':f=(sizeK,sv):=by simpa [hasName,hasSize,hasPool,szK] using hf
    subst hf'
    exact ⟨(show allow 2 sizeK=true by decide),a1⟩,by
    intro r hr
    have hr':r=sizeK:=by simpa [req,hasName,hasSize,hasPool,szK] using hr
    subst hr'
    exact (show sizeK∈[sizeK] by decide)⟩
  ·show (⟨2,[],[],(((size? sv).getD 0:Nat):Int),false⟩:Dir)=⟨2,[],[],(n:Int),false⟩
   rw [a3]
 ·have e1:=nn (by decide);have e2:=pp (by decide);have e5:=oo (by decide);have a1:=vs (by decide);have a3:=vz (by decide)
  subst e1;subst e2;subst e5
  constructor
  ·exact ⟨(show [sizeK].Nodup by decide),by
    intro f hf
    have hf':f=(sizeK,sv):=by simpa [hasName,hasSize,hasPool,szK] using hf
    subst hf'
    exact ⟨(show allow 3 sizeK=true by decide),a1⟩,by
    intro r hr
    have hr':r=sizeK:=by simpa [req,hasName,hasSize,hasPool,szK] using hr
    subst hr'
    exact (show sizeK∈[sizeK] by decide)⟩
  ·show (⟨3,[],[],(((size? sv).getD 0:Nat):Int),false⟩:Dir)=⟨3,[],[],(n:Int),false⟩
   rw [a3]
 ·have a0:=vn (by decide);have a1:=vs (by decide);have a2:=vp (by decide);have a3:=vz (by decide)
  cases o with
  | false =>
   constructor
   ·exact ⟨(show [nameK,capK,poolK].Nodup by decide),by
     intro f hf
     have hf':f=(nameK,nm)∨f=(capK,sv)∨f=(poolK,pl):=by simpa [hasName,hasSize,hasPool,szK] using hf
     rcases hf' with rfl | rfl | rfl
     ·exact ⟨(show allow 4 nameK=true by decide),a0⟩
     ·exact ⟨(show allow 4 capK=true by decide),a1⟩
     ·exact ⟨(show allow 4 poolK=true by decide),a2⟩,by
     intro r hr
     have hr':r=nameK∨r=capK∨r=poolK:=by simpa [req,hasName,hasSize,hasPool,szK] using hr
     rcases hr' with rfl | rfl | rfl
     ·exact (show nameK∈[nameK,capK,poolK] by decide)
     ·exact (show capK∈[nameK,capK,poolK] by decide)
     ·exact (show poolK∈[nameK,capK,poolK] by decide)⟩
   ·show (⟨4,nm,pl,(((size? sv).getD 0:Nat):Int),false⟩:Dir)=⟨4,nm,pl,(n:Int),false⟩
    rw [a3]
  | true =>
   constructor
   ·exact ⟨(show [nameK,capK,poolK,accK].Nodup by decide),by
     intro f hf
     have hf':f=(nameK,nm)∨f=(capK,sv)∨f=(poolK,pl)∨f=(accK,pubV):=by simpa [hasName,hasSize,hasPool,szK] using hf
     rcases hf' with rfl | rfl | rfl | rfl
     ·exact ⟨(show allow 4 nameK=true by decide),a0⟩
     ·exact ⟨(show allow 4 capK=true by decide),a1⟩
     ·exact ⟨(show allow 4 poolK=true by decide),a2⟩
     ·exact ⟨(show allow 4 accK=true by decide),vo⟩,by
     intro r hr
     have hr':r=nameK∨r=capK∨r=poolK:=by simpa [req,hasName,hasSize,hasPool,szK] using hr
     rcases hr' with rfl | rfl | rfl
     ·exact (show nameK∈[nameK,capK,poolK,accK] by decide)
     ·exact (show capK∈[nameK,capK,poolK,accK] by decide)
     ·exact (show poolK∈[nameK,capK,poolK,accK] by decide)⟩
   ·show (⟨4,nm,pl,(((size? sv).getD 0:Nat):Int),true⟩:Dir)=⟨4,nm,pl,(n:Int),true⟩
    rw [a3]
 ·have e2:=pp (by decide);have e3:=zz (by decide);have e5:=oo (by decide);have a0:=vn (by decide)
  subst e2;subst e3;subst e5
  constructor
  ·exact ⟨(show [nameK].Nodup by decide),by
    intro f hf
    have hf':f=(nameK,nm):=by simpa [hasName,hasSize,hasPool,szK] using hf
    subst hf'
    exact ⟨(show allow 5 nameK=true by decide),a0⟩,by
    intro r hr
    have hr':r=nameK:=by simpa [req,hasName,hasSize,hasPool,szK] using hr
    subst hr'
    exact (show nameK∈[nameK] by decide)⟩
  ·rfl
 ·have e2:=pp (by decide);have e3:=zz (by decide);have e5:=oo (by decide);have a0:=vn (by decide)
  subst e2;subst e3;subst e5
  constructor
  ·exact ⟨(show [nameK].Nodup by decide),by
    intro f hf
    have hf':f=(nameK,nm):=by simpa [hasName,hasSize,hasPool,szK] using hf
    subst hf'
    exact ⟨(show allow 6 nameK=true by decide),a0⟩,by
    intro r hr
    have hr':r=nameK:=by simpa [req,hasName,hasSize,hasPool,szK] using hr
    subst hr'
    exact (show nameK∈[nameK] by decide)⟩
  ·rfl
end Go.Proofs.YtekcjfdllclphaaGreatDoor.di
end
section
namespace Go.Proofs.YtekcjfdllclphaaGreatDoor.di
open Go.Proofs.YtekcjfdllclphaaGreatDoor.un
open Go.Lib (decDigits)
theorem mapM_snoc:∀ (ws:List Tx) (x:Tx),(ws++[x]).mapM cut=match ws.mapM cut,cut x with
  | some fs,some f=>some (fs++[f])
  | _,_=>none
 | [],x=>by
  rw [List.nil_append,List.mapM_cons]
  cases cut x <;> rfl
 | w::ws,x=>by
  rw [List.cons_append,List.mapM_cons,mapM_snoc ws x,List.mapM_cons]
  cases cut w with
  | none=>rfl
  | some f =>
   cases ws.mapM cut with
   | none=>rfl
   | some fs=>cases cut x <;> rfl
theorem made_text {d:Dir} (h:chk d=true):Made d (stxt d.size) d.size.toNat:=by
 refine ⟨h,fun hs=>?_⟩
 obtain ⟨c0,c1,cz,_⟩:=(chk_iff d).1 h
 have hp:=c1.1 hs
 obtain ⟨m,hm⟩:∃ m:Nat,d.size=(m:Int):=⟨d.size.toNat,by omega⟩
 rw [hm]
 refine ⟨plain_stxt _,?_,by simp;omega,Nat.le_trans (stxt_len _) (by decide)⟩
 rw [Int.toNat_natCast]
 exact size_stxt (by unfold top;omega)
theorem joinW_len:∀ (L:List Tx) (m:Nat),(∀ w∈L,w.length≤m)→(joinW L).length≤L.length * (m+1)
 | [],m,_=>by simp [joinW]
 | [a],m,h=>by
  have:=h a (by simp)
  show a.length≤1 * (m+1)
  omega
 | a::b::r,m,h=>by
  have h1:=h a (by simp)
  have h2:=joinW_len (b::r) m fun w hw=>h w (by simp [hw])
  rw [joinW_cons a (by simp),List.length_append,List.length_cons,List.length_cons (a:=a),Nat.add_mul]
  omega
theorem kw_len {k:Nat} (h:1≤k∧k≤6):(kw k).length≤50:=by
 have hc:k=1∨k=2∨k=3∨k=4∨k=5∨k=6:=by omega
 rcases hc with rfl | rfl | rfl | rfl | rfl | rfl <;> decide
theorem Made.len {d:Dir} {sv:Tx} {n:Nat} (h:Made d sv n):(lineOf d.kind (fsOf d sv)).length≤306:=by
 obtain ⟨c0,_⟩:=(chk_iff d).1 h.ok
 unfold lineOf
 have hl:=joinW_len (bbW::kw d.kind::(fsOf d sv).map di.wtx) 50 fun w hw=>by
  rcases List.mem_cons.1 hw with rfl | hw
  ·decide
  rcases List.mem_cons.1 hw with rfl | hw
  ·exact kw_len c0
  obtain ⟨f,hf,rfl⟩:=List.mem_map.1 hw
  exact (h.wtx hf).2.2
 have h4:(fsOf d sv).length≤4:=by
  unfold fsOf
  cases hasName d.kind <;> cases hasSize d.kind <;> cases hasPool d.kind <;> cases d.opn <;> simp
 rw [List.length_cons,List.length_cons,List.length_map] at hl
 have:((fsOf d sv).length+1+1) * (50+1)≤6 * 51:=Nat.mul_le_mul_right _ (by omega)
 omega
end Go.Proofs.YtekcjfdllclphaaGreatDoor.di
end
section
namespace Go.Proofs.YtekcjfdllclphaaGreatDoor.gn
open Go.RowKit
open Go.Proofs.YtekcjfdllclphaaGreatDoor.un
def win (r:Int):Bool:=decide (97≤r∧r≤122) || decide (65≤r∧r≤90) || decide (48≤r∧r≤57) || decide (r=95) || decide (r=45) || decide (r=46)
theorem win_yes {r:Int} (h:(97≤r∧r≤122)∨(65≤r∧r≤90)∨(48≤r∧r≤57)∨r=95∨r=45∨r=46):win r=true:=by
 unfold win
 simp only [Bool.or_eq_true,decide_eq_true_eq]
 omega
theorem win_no {r:Int} (h:¬ ((97≤r∧r≤122)∨(65≤r∧r≤90)∨(48≤r∧r≤57)∨r=95∨r=45∨r=46)):win r=false:=by
 cases hw:win r with
 | false=>rfl
 | true =>
  unfold win at hw
  simp only [Bool.or_eq_true,decide_eq_true_eq] at hw
  exact absurd (by omega) h
set_option maxRecDepth 100000 in
set_option maxHeartbeats 1600000 in
theorem within_any (r:Int) (w:World):Calls Tryz.prog 125 #[.int .i32 r] w fun e w'=>e=.returned (.bool (win r))∧w=w':=by
 rcases byte_cases r with h | h | h | h | h | h | h | h | h | h | h | h
 case' inl=>have hw:=win_no (r:=r) (by omega)
 case' inr.inl=>have hw:=win_yes (r:=r) (by omega)
 case' inr.inr.inl=>have hw:=win_yes (r:=r) (by omega)
 case' inr.inr.inr.inl=>have hw:=win_no (r:=r) (by omega)
 case' inr.inr.inr.inr.inl=>have hw:=win_yes (r:=r) (by omega)
 case' inr.inr.inr.inr.inr.inl=>have hw:=win_no (r:=r) (by omega)
 case' inr.inr.inr.inr.inr.inr.inl=>have hw:=win_yes (r:=r) (by omega)
 case' inr.inr.inr.inr.inr.inr.inr.inl=>have hw:=win_no (r:=r) (by omega)
 case' inr.inr.inr.inr.inr.inr.inr.inr.inl=>have hw:=win_yes (r:=r) (by omega)
 case' inr.inr.inr.inr.inr.inr.inr.inr.inr.inl=>have hw:=win_no (r:=r) (by omega)
 case' inr.inr.inr.inr.inr.inr.inr.inr.inr.inr.inl=>have hw:=win_yes (r:=r) (by omega)
 case' inr.inr.inr.inr.inr.inr.inr.inr.inr.inr.inr=>have hw:=win_no (r:=r) (by omega)
 all_goals
  rw [hw]
  clear hw
  try subst h
  try obtain ⟨h1,h2⟩:=h
  try have e95:(r == 95)=false:=by rw [beq_eq_false_iff_ne];omega
  try have e45:(r == 45)=false:=by rw [beq_eq_false_iff_ne];omega
  try have e46:(r == 46)=false:=by rw [beq_eq_false_iff_ne];omega
  go_enter Tryz.func125,Tryz.ntmps125
  go_wp2
  go_ret
  exact ⟨rfl,rfl⟩
theorem nm_win {i:Nat} {b:UInt8}:nmAt i b=(win (b.toNat:Int) && !(decide (i=0) && (decide (b.toNat=45) || decide (b.toNat=46)))):=by
 rw [Bool.eq_iff_iff]
 unfold nmAt wordb win
 simp only [Bool.or_eq_true,Bool.and_eq_true,Bool.not_eq_true',Bool.and_eq_false_iff,Bool.or_eq_false_iff,decide_eq_true_eq,decide_eq_false_iff_not]
 omega
theorem get_str (l:List UInt8) (pos:Nat) (h:pos < (str l).size):((str l)[pos]'h).toNat=(l[pos]'(by rw [str_size] at h;exact h)).toNat:=by rw [str_at]
set_option maxRecDepth 100000 in
set_option maxHeartbeats 3200000 in
theorem name_any (l:List UInt8) (hl:l.length≤140737488355328) (w:World):Calls Tryz.prog 98 #[.string (str l)] w fun e w'=>e=.returned (.bool (isName l))∧Below w.heap.size w w':=by
 have hz:=str_size l
 by_cases h0:l.length=0
 ·have hn:isName l=false:=by
   unfold isName
   rw [show decide (1≤l.length)=false from decide_eq_false (by omega)]
   rfl
  rw [hn]
  have hz0:(str l).size=0:=by omega
  clear hn h0 hz hl
  go_enter Tryz.func98,Tryz.ntmps98
  go_wp2
  go_ret
  exact ⟨rfl,Below.refl _ _⟩
 ·by_cases h1:32 < l.length
  ·have hn:isName l=false:=by
    unfold isName
    rw [show decide (l.length≤32)=false from decide_eq_false (by omega)]
    simp
   rw [hn]
   have hz0:32 < (str l).size:=by omega
   have hz1:(str l).size≤140737488355328:=by omega
   have hz2:(((str l).size:Int) == 0)=false:=by rw [beq_eq_false_iff_ne];omega
   have hz3:decide (32 < ((str l).size:Int))=true:=decide_eq_true (by omega)
   clear hn h0 h1 hz hl
   go_enter Tryz.func98,Tryz.ntmps98
   go_wp2
   go_ret
   exact ⟨rfl,Below.refl _ _⟩
  ·have hn:isName l=okFrom 0 l:=by
    unfold isName
    rw [show decide (1≤l.length)=true from decide_eq_true (by omega),show decide (l.length≤32)=true from decide_eq_true (by omega)]
    rfl
   rw [hn]
   have HN:=Lib.hid (show okFrom 0 (l.drop 0)=okFrom 0 l by simp)
   generalize okFrom 0 l=ans at *
   have hz0:0 < (str l).size:=by omega
   have hz1:(str l).size≤32:=by omega
   have hz2:(((str l).size:Int) == 0)=false:=by rw [beq_eq_false_iff_ne];omega
   have hz3:decide (32 < ((str l).size:Int))=false:=decide_eq_false (by omega)
   have HZ:=Lib.hid hz
   clear hn h0 h1 hz hl
   go_enter Tryz.func98,Tryz.ntmps98
   go_wp2
   go_loopw [15] (fun _ wr=>∃ pos:Nat,wr.heap[w.heap.size]?=some (.stringIter (str l) pos)∧Aside (Below w.heap.size w wr)∧Aside (okFrom pos (l.drop pos)=ans)) (fun _ wr=>(str l).size - wr.iterPos w.heap.size)
   case atStart=>exact ⟨0,World.iter_heap w (str l) 0,(Below.refl _ w).alloc (Nat.le_refl _) _,HN.out⟩
   case round =>
    obtain ⟨pos,hit,hbw,hok⟩:=hrel
    have hsz:w.heap.size < wr.heap.size:=(Array.getElem?_eq_some_iff.1 hit).1
    by_cases hp:pos < (str l).size
    ·have hpl:pos < l.length:=by rw [←HZ.out];exact hp
     rw [okFrom_drop hpl] at hok
     have HOK:=Lib.hid (show (nmAt pos (l[pos]'hpl) && okFrom (pos+1) (l.drop (pos+1)))=ans from hok)
     have HB:=Lib.hid hbw
     have hg:=get_str l pos hp
     clear hok hbw
     generalize hc:l[pos]'hpl=c at *
     by_cases ha:c.toNat < 128
     ·have hnx:∀ ty,(Instr.next (.pointer (some ⟨w.heap.size,0,none⟩)) true ty).run Tryz.prog wr=.ok (.tuple #[.bool true,.int .i64 (pos:Int),.int .i32 (c.toNat:Int)]) (wr.iterAt w.heap.size (str l) (pos+1)):=fun ty=>by
       rw [Lib.run_next_ascii_at wr w.heap.size (str l) pos ty hit hp (by omega),hg]
      have HI2:=Lib.hid (Lib.iterAt_heap wr w.heap.size (str l) pos (pos+1) hit)
      have HB2:=Lib.hid (Lib.below_iterAt HB.out (k:=w.heap.size) (Nat.le_refl _) (str l) (pos+1))
      have HIT:=Lib.hid hit
      have hnm:=nm_win (i:=pos) (b:=c)
      rw [hnm] at HOK
      clear hit hnm hg hc hpl
      have hc2:((c.toNat:Nat):Int) < 128:=by omega
      cases hw:win (c.toNat:Int) with
      | false =>
       have HW:=Lib.hid hw
       have hans:ans=false:=by rw [←HOK.out,hw];rfl
       subst hans
       clear hw HOK
       go_wp2_with (go_at_call 125;refine (within_any _ _).mono ?_;rintro e w1 ⟨rfl,rfl⟩;rw [HW.out])
       go_ret
       exact ⟨rfl,HB2.out⟩
      | true =>
       have HW:=Lib.hid hw
       rw [hw] at HOK
       clear hw
       by_cases h0:pos=0
       ·subst h0
        have k0:(((0:Nat):Int) == 0)=true:=rfl
        by_cases h45:c.toNat=45
        ·have hans:ans=false:=by rw [←HOK.out,h45];rfl
         have k45:(((c.toNat:Nat):Int) == 45)=true:=by rw [beq_iff_eq];omega
         subst hans
         clear HOK h45
         go_wp2_with (go_at_call 125;refine (within_any _ _).mono ?_;rintro e w1 ⟨rfl,rfl⟩;rw [HW.out])
         go_ret
         exact ⟨rfl,HB2.out⟩
        ·have k45:(((c.toNat:Nat):Int) == 45)=false:=by rw [beq_eq_false_iff_ne];omega
         by_cases h46:c.toNat=46
         ·have hans:ans=false:=by rw [←HOK.out,h46];rfl
          have k46:(((c.toNat:Nat):Int) == 46)=true:=by rw [beq_iff_eq];omega
          subst hans
          clear HOK h45 h46
          go_wp2_with (go_at_call 125;refine (within_any _ _).mono ?_;rintro e w1 ⟨rfl,rfl⟩;rw [HW.out])
          go_ret
          exact ⟨rfl,HB2.out⟩
         ·have k46:(((c.toNat:Nat):Int) == 46)=false:=by rw [beq_eq_false_iff_ne];omega
          have HO2:=Lib.hid (show okFrom (0+1) (l.drop (0+1))=ans by
           have:=HOK.out
           rw [show decide (c.toNat=45)=false from decide_eq_false h45,show decide (c.toNat=46)=false from decide_eq_false h46] at this
           simpa using this)
          clear HOK h45 h46
          go_wp2_with (go_at_call 125;refine (within_any _ _).mono ?_;rintro e w1 ⟨rfl,rfl⟩;rw [HW.out])
          go_roundw
          case rel=>exact ⟨0+1,HI2.out,HB2.out,HO2.out⟩
          case measure =>
           simp only [World.iterPos,HI2.out,HIT.out]
           omega
       ·have k0:(((pos:Nat):Int) == 0)=false:=by rw [beq_eq_false_iff_ne];omega
        have HO2:=Lib.hid (show okFrom (pos+1) (l.drop (pos+1))=ans by
         have:=HOK.out
         rw [show decide (pos=0)=false from decide_eq_false h0] at this
         simpa using this)
        clear HOK
        go_wp2_with (go_at_call 125;refine (within_any _ _).mono ?_;rintro e w1 ⟨rfl,rfl⟩;rw [HW.out])
        go_roundw
        case rel=>exact ⟨pos+1,HI2.out,HB2.out,HO2.out⟩
        case measure =>
         simp only [World.iterPos,HI2.out,HIT.out]
         omega
     ·obtain ⟨hr,hd⟩:=decode_high (str l) pos hp (by omega)
      have hle:=decode_le (str l) pos
      have hnx:∀ ty,(Instr.next (.pointer (some ⟨w.heap.size,0,none⟩)) true ty).run Tryz.prog wr=_:=fun ty=>Lib.run_next_any_at wr w.heap.size (str l) pos ty hit hp
      have HB2:=Lib.hid (Lib.below_iterAt HB.out (k:=w.heap.size) (Nat.le_refl _) (str l) (pos+(Utf8.decode (str l) pos).2))
      have hans:ans=false:=by rw [←HOK.out,name_high (l:=l) (by omega)];rfl
      have hw:win ((Utf8.decode (str l) pos).1:Int)=false:=win_no (by omega)
      have HW:=Lib.hid hw
      subst hans
      clear hw HOK hit hg hc hpl
      go_wp2_with (go_at_call 125;refine (within_any _ _).mono ?_;rintro e w1 ⟨rfl,rfl⟩;rw [HW.out])
      go_ret
      exact ⟨rfl,HB2.out⟩
    ·have hnx:∀ ty,(Instr.next (.pointer (some ⟨w.heap.size,0,none⟩)) true ty).run Tryz.prog wr=_:=fun ty=>Lib.run_next_end_at wr w.heap.size (str l) pos ty hit hp
     have ha:ans=true:=by rw [←hok];exact okFrom_end l (by rw [←HZ.out];omega)
     have HB:=Lib.hid hbw
     subst ha
     clear hok hbw hit
     go_wp2
     go_ret
     exact ⟨rfl,HB.out⟩
end Go.Proofs.YtekcjfdllclphaaGreatDoor.gn
end
section
namespace Go.Proofs.YtekcjfdllclphaaGreatDoor.gn
open Go.RowKit
open Go.Proofs.YtekcjfdllclphaaGreatDoor.un
theorem strKeyed:Go.Maps.Keyed Tryz.prog 9:=Go.Maps.string_keyed Tryz.underlying9
theorem strKey {l:List UInt8} (h:l.length≤maxLen):keyOf Tryz.prog 9 (.string (str l))=some (.string l):=by
 have:=Go.WideMaps.keyOf_string_mk (P:=Tryz.prog) Tryz.underlying9 (s:=str l) (by rw [str_size];exact h)
 simpa [str] using this
theorem zero64 (w:World):(zeroValue 2).run Tryz.prog w=.ok (.int .i64 0) w:=by kernel_rfl
theorem el64 (n:Int) (h:(Lit.int .i64 n).wf=true):plainElem (H:=Unit) Tryz.prog 2 (.int .i64 n)=some (.lit (.int .i64 n),[]):=plainElem_int Tryz.underlying2 h
def unitD:DataW Unit:=((((((((DataW.map []).put (.string [75,66]) (.lit (.int .i64 1000))).put (.string [77,66]) (.lit (.int .i64 1000000))).put (.string [71,66]) (.lit (.int .i64 1000000000))).put (.string [84,66]) (.lit (.int .i64 1000000000000))).put (.string [75,105,66]) (.lit (.int .i64 1024))).put (.string [77,105,66]) (.lit (.int .i64 1048576))).put (.string [71,105,66]) (.lit (.int .i64 1073741824))).put (.string [84,105,66]) (.lit (.int .i64 1099511627776))
def UM (w:World) (b:Nat):Prop:=w.ownsMap Tryz.prog 9 (plainElem (H:=Unit) Tryz.prog 2) b 8 unitD
theorem UM.lt {w:World} {b:Nat} (h:UM w b):b < w.heap.size:=World.ownsMap.lt h
theorem UM.next {w w':World} {b:Nat} (h:UM w b) (hb:Below w.heap.size w w'):UM w' b:=by
 have hlt:=h.lt
 obtain ⟨es,clock,h1,h2⟩:=h
 exact ⟨es,clock,(hb.block b hlt).trans h1,h2⟩
theorem unitD_at {k:Nat} (hk:k < 8):unitD.atKey (.string (nm k)) (.lit (.int .i64 0))=.lit (.int .i64 (sz k:Nat)):=by
 rcases lt8 hk with rfl | rfl | rfl | rfl | rfl | rfl | rfl | rfl <;> kernel_rfl
theorem UM.look {w:World} {b:Nat} (h:UM w b) {k:Nat} (hk:k < 8) :
  (Instr.lookup 175 (.map (some b)) (.string (str (nm k))) false).run Tryz.prog w=.ok (.int .i64 (sz k:Nat)) w:=by
 have hl:(nm k).length≤maxLen:=Nat.le_trans (nm_len hk) (by decide)
 obtain ⟨c,hrun,hat,_⟩:=World.ownsMap.lookup_int h strKeyed Tryz.underlying175 Tryz.underlying2 (zero64 w) (strKey hl)
 rw [unitD_at hk] at hat
 simp only [DataW.lit.injEq,Lit.int.injEq,true_and] at hat
 rw [hrun,hat]
set_option maxRecDepth 100000 in
set_option maxHeartbeats 1600000 in
theorem units_any (w:World):Calls Tryz.prog 140 #[] w fun e w'=>∃ b,e=.returned (.map (some b))∧UM w' b∧w.heap.size≤b∧Below w.heap.size w w':=by
 have h0:=World.ownsMap_made w Tryz.prog 9 (plainElem (H:=Unit) Tryz.prog 2)
 have hz:(w.alloc (.map #[] 0)).heap.size=w.heap.size+1:=by simp
 have b0:Below w.heap.size w (w.alloc (.map #[] 0)):=(Below.refl _ w).alloc (Nat.le_refl _) _
 have k1:keyOf Tryz.prog 9 (.string { data:=#[75,66] })=some (.string [75,66]):=strKey (l:=[75,66]) (by decide)
 have k2:keyOf Tryz.prog 9 (.string { data:=#[77,66] })=some (.string [77,66]):=strKey (l:=[77,66]) (by decide)
 have k3:keyOf Tryz.prog 9 (.string { data:=#[71,66] })=some (.string [71,66]):=strKey (l:=[71,66]) (by decide)
 have k4:keyOf Tryz.prog 9 (.string { data:=#[84,66] })=some (.string [84,66]):=strKey (l:=[84,66]) (by decide)
 have k5:keyOf Tryz.prog 9 (.string { data:=#[75,105,66] })=some (.string [75,105,66]):=strKey (l:=[75,105,66]) (by decide)
 have k6:keyOf Tryz.prog 9 (.string { data:=#[77,105,66] })=some (.string [77,105,66]):=strKey (l:=[77,105,66]) (by decide)
 have k7:keyOf Tryz.prog 9 (.string { data:=#[71,105,66] })=some (.string [71,105,66]):=strKey (l:=[71,105,66]) (by decide)
 have k8:keyOf Tryz.prog 9 (.string { data:=#[84,105,66] })=some (.string [84,105,66]):=strKey (l:=[84,105,66]) (by decide)
 obtain ⟨w1,r1,o1,g1⟩:=h0.update strKeyed Tryz.underlying175 (by decide) k1 (el64 1000 (by decide))
 obtain ⟨w2,r2,o2,g2⟩:=o1.update strKeyed Tryz.underlying175 (by decide) k2 (el64 1000000 (by decide))
 obtain ⟨w3,r3,o3,g3⟩:=o2.update strKeyed Tryz.underlying175 (by decide) k3 (el64 1000000000 (by decide))
 obtain ⟨w4,r4,o4,g4⟩:=o3.update strKeyed Tryz.underlying175 (by decide) k4 (el64 1000000000000 (by decide))
 obtain ⟨w5,r5,o5,g5⟩:=o4.update strKeyed Tryz.underlying175 (by decide) k5 (el64 1024 (by decide))
 obtain ⟨w6,r6,o6,g6⟩:=o5.update strKeyed Tryz.underlying175 (by decide) k6 (el64 1048576 (by decide))
 obtain ⟨w7,r7,o7,g7⟩:=o6.update strKeyed Tryz.underlying175 (by decide) k7 (el64 1073741824 (by decide))
 obtain ⟨w8,r8,o8,g8⟩:=o7.update strKeyed Tryz.underlying175 (by decide) k8 (el64 1099511627776 (by decide))
 have hg:(w.alloc (.map #[] 0)).grownBy w8 (some w.heap.size):=But.trans (But.trans (But.trans (But.trans (But.trans (But.trans (But.trans g1 g2) g3) g4) g5) g6) g7) g8
 have HB:=Lib.hid (b0.grown hg (by rw [hz];omega) (fun k hk=>by cases hk;exact Nat.le_refl _))
 have HU:=Lib.hid (show UM w8 w.heap.size from o8)
 clear h0 hz b0 k1 k2 k3 k4 k5 k6 k7 k8 o1 o2 o3 o4 o5 o6 o7 o8 g1 g2 g3 g4 g5 g6 g7 g8 hg
 have hmm:=@run_makeMap Tryz.prog
 go_enter Tryz.func140,Tryz.ntmps140
 go_wp2
 go_ret
 exact ⟨_,rfl,HU.out,Nat.le_refl _,HB.out⟩
def ordV:Array Value:=#[.string { data:=#[84,105,66] },.string { data:=#[71,105,66] },.string { data:=#[77,105,66] },.string { data:=#[75,105,66] },.string { data:=#[84,66] },.string { data:=#[71,66] },.string { data:=#[77,66] },.string { data:=#[75,66] }]
theorem ordV_at {k:Nat} (hk:k < 8):ordV[k]?=some (.string (str (nm k))):=by
 rcases lt8 hk with rfl | rfl | rfl | rfl | rfl | rfl | rfl | rfl <;> rfl
set_option maxRecDepth 100000 in
theorem order_any (w:World):Calls Tryz.prog 141 #[] w (Told (.agg ordV) w):=by
 go_enter Tryz.func141,Tryz.ntmps141
 go_wp2
 have hg:(w.alloc (.cells ordV 177)).heap[w.heap.size]?=some (.cells ordV 177 (0,0)):=by
  show (w.heap.push _)[w.heap.size]?=_
  rw [Array.getElem?_push_size]
 exact bodyPost_ret (v:=.agg ordV) (results_cell_row rfl _ _ _ _ _ _ _ rfl hg Tryz.underlying177 rfl (by kernel_rfl)) rfl ⟨rfl,(Below.refl _ w).alloc (Nat.le_refl _) _⟩
theorem order_at (w:World) {k:Nat} (hk:k < 8):(Instr.index 177 (.agg ordV) (.int .i64 (k:Int))).run Tryz.prog w=.ok (.string (str (nm k))) w:=by
 rcases lt8 hk with rfl | rfl | rfl | rfl | rfl | rfl | rfl | rfl <;> kernel_rfl
end Go.Proofs.YtekcjfdllclphaaGreatDoor.gn
end
