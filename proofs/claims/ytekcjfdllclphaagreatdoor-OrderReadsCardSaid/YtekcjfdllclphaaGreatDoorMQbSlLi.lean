/- The contract of the iterator lines$1. -/
import Derived.Test.YtekcjfdllclphaaGreatDoorMQbSlF
import Derived.Test.YtekcjfdllclphaaGreatDoorMQbDiX
import Derived.Shelf.Abstract
import Derived.IntWalk
import Derived.OwnWalkIn
import Derived.TacticsInMore
import Derived.LoopNIn
import Derived.Outline
import Derived.LoopIn
import Derived.Sort.CutIn
import Derived.Test.YtekcjfdllclphaaGreatDoorMQbSlJ
import Derived.Test.YtekcjfdllclphaaGreatDoorMQbUnG
import Derived.Deep.RegionHeld3
import Derived.Deep.DeepCutAuto
set_option linter.unusedVariables false
set_option linter.unusedSimpArgs false
section
set_option maxRecDepth 100000
namespace Go.Proofs.YtekcjfdllclphaaGreatDoor.gn
open Go.RowKit Go.Shelf
open Go.Proofs.YtekcjfdllclphaaGreatDoor.un
open Go.Proofs.YtekcjfdllclphaaGreatDoor.di
open Go.Proofs.YtekcjfdllclphaaGreatDoor.sp (Slip cuts cutB fldB fldB_len cuts_ne cuts_app cuts_one cutB_some cutB_mem)
attribute [local go_sem] Oper.semAt_some
def numb:Nat→List Tx→List (Nat × Tx)
 | _,[]=>[]
 | i,l::r=>(i,l)::numb (i+1) r
theorem numb_len:∀ (i:Nat) (L:List Tx),(numb i L).length=L.length
 | _,[]=>rfl
 | i,l::r=>by simp [numb,numb_len (i+1) r]
theorem numb_at:∀ (i:Nat) (L:List Tx) (k:Nat),(numb i L)[k]?=(L[k]?).map fun l=>(i+k,l)
 | _,[],k=>by simp [numb]
 | i,l::r,0=>by simp [numb]
 | i,l::r,k+1=>by
  simp only [numb,List.getElem?_cons_succ]
  rw [numb_at (i+1) r k]
  congr 1
  funext x
  rw [show i+1+k=i+(k+1) by omega]
def encL (x:Nat × Tx):Array Value:=#[.int .i64 (x.1:Nat),.string (str x.2)]
def LnS (s:Tx) (k:Nat) (rest:Tx) (more:Bool):Prop:=if more=true then (cuts 10 s).drop k=cuts 10 rest∧rest.length≤s.length else k=(cuts 10 s).length
theorem cuts_way (rest:Tx):cuts 10 rest=(fldB 10 rest).1::(if (cutB 10 rest).isSome=true then cuts 10 (fldB 10 rest).2 else []):=by
 unfold fldB
 cases hc:cutB 10 rest with
 | none=>exact cuts_one 10 rest ((cutB_mem 10).1 hc)
 | some f =>
  obtain ⟨e,hn⟩:=cutB_some 10 rest f.1 f.2 hc
  simp only [Option.getD_some,Option.isSome_some,if_true]
  rw [e,cuts_app 10 f.1 f.2 hn]
theorem LnS.step {s:Tx} {k:Nat} {rest:Tx} (h:LnS s k rest true):(cuts 10 s)[k]?=some (fldB 10 rest).1∧k < (cuts 10 s).length∧LnS s (k+1) (fldB 10 rest).2 (cutB 10 rest).isSome:=by
 unfold LnS at h
 rw [if_pos rfl] at h
 obtain ⟨h,hl⟩:=h
 have hw:=cuts_way rest
 rw [←h] at hw
 have hk:(cuts 10 s)[k]?=some (fldB 10 rest).1:=by
  have:((cuts 10 s).drop k)[0]?=some (fldB 10 rest).1:=by rw [hw];rfl
  rwa [List.getElem?_drop,Nat.add_zero] at this
 have hlt:=(List.getElem?_eq_some_iff.1 hk).1
 have hd:(cuts 10 s).drop (k+1)=if (cutB 10 rest).isSome=true then cuts 10 (fldB 10 rest).2 else []:=by
  rw [←List.drop_drop,hw]
  rfl
 refine ⟨hk,hlt,?_⟩
 unfold LnS
 cases hc:(cutB 10 rest).isSome with
 | true =>
  rw [hc,if_pos rfl] at hd
  rw [if_pos rfl]
  exact ⟨hd,Nat.le_trans (fldB_len 10 rest).2 hl⟩
 | false =>
  rw [hc,if_neg (by decide)] at hd
  rw [if_neg (by decide)]
  have:=congrArg List.length hd
  simp only [List.length_drop,List.length_nil] at this
  omega
set_option maxHeartbeats 4000000 in
theorem lines1_seq (n:Nat) (hn:1≤n) (s:Tx) (hs:s.length≤100000) (lB:Nat) (w:World) (hB:Boxed w lB 9 (.string (str s))) :
  SeqP n Tryz.prog 106 #[.pointer (some ⟨lB,0,none⟩)] encL (numb 1 (cuts 10 s)) LaidD w:=by
 intro l0 J Jp W hW hok hJb hY h0
 have kB:=(show Boxed W lB 9 (.string (str s)) from (hW.block lB (lt_of_block hB)).trans hB).cell
 have sB:lB < W.heap.size:=Nat.lt_of_lt_of_le (lt_of_block hB) hW.size
 obtain ⟨N,hN⟩:∃ N,(cuts 10 s).length=N:=⟨_,rfl⟩
 have hNb:=sp.cuts_len 10 s
 rw [hN] at hNb
 have HN:=Lib.hid hN
 have HY:=Lib.hid hY
 have HJ:=Lib.hid hJb
 have HO:=Lib.hid hok
 have H0:=Lib.hid h0
 have HS:=Lib.hid hs
 have HL0:=Lib.hid (show LnS s 0 s true by unfold LnS;rw [if_pos rfl];exact ⟨rfl,Nat.le_refl _⟩)
 have hN2:N≤100001:=by omega
 clear hY hJb hok h0 hB hW hN hNb hs
 refine callsIn_of_wp Tryz.func106 rfl trivial ?_ rfl
 simp only [Tryz.ntmps106,List.size_toArray,List.length_cons,List.length_nil,Nat.reduceAdd,Nat.reduceSub,Array.replicate_succ,Array.replicate_zero,List.push_toArray,List.append_toArray,List.nil_append,List.cons_append]
 gi_wp2_with fail
 gi_loopw [3,4,5] (fun s3 s4 s5 wr=>∃ (k:Nat) (rest:Tx) (more:Bool),s3=.string (str rest)∧s4=.bool more∧s5=.int .i64 ((k:Int)+1)∧k≤N∧Aside (LnS s k rest more)∧Aside (J k wr)) (fun _ _ s5 _=>N+1 - (intOf s5).toNat)
 case atStart=>exact ⟨0,s,true,rfl,rfl,rfl,Nat.zero_le _,HL0.out,H0.out⟩
 case round =>
  obtain ⟨k,rest,more,rfl,rfl,rfl,hk,hln,hj⟩:=hrel
  have HLN:=Lib.hid (show LnS s k rest more from hln)
  have HJK:=Lib.hid (show J k wr from hj)
  clear hln hj HL0 H0
  cases more with
  | true =>
   have hst:=HLN.out.step
   have hrl:rest.length≤100000:=by
    have:=HLN.out
    unfold LnS at this
    rw [if_pos rfl] at this
    have:=HS.out
    omega
   have HC:=Lib.hid (cut_c 10 rest hrl wr (HO.out k wr HJK.out))
   have hkN:k < N:=by have:=hst.2.1;rw [HN.out] at this;exact this
   obtain ⟨line,hline⟩:∃ line,(fldB 10 rest).1=line:=⟨_,rfl⟩
   obtain ⟨rest2,hrest2⟩:∃ r,(fldB 10 rest).2=r:=⟨_,rfl⟩
   obtain ⟨more2,hmore2⟩:∃ m,(cutB 10 rest).isSome=m:=⟨_,rfl⟩
   rw [hline,hrest2,hmore2] at HC
   rw [hline,hrest2,hmore2] at hst
   have HX:=Lib.hid (show (numb 1 (cuts 10 s))[k]?=some (1+k,line) by rw [numb_at,hst.1];rfl)
   have HST:=Lib.hid hst.2.2
   have e1:((1+k:Nat):Int)=(k:Int)+1:=by omega
   have HE:=Lib.hid e1
   clear hst hrl hline hrest2 hmore2 e1
   gi_upto_region 6 with fail
   refine ⟨trivial,?_⟩
   gi_at_call 16
   refine (callsIn_wide.2 HC.out).mono ?_
   rintro e w2 ⟨rfl,hb2⟩
   have HB2:=Lib.hid hb2
   clear hb2
   gi_upto_region 6 with fail
   obtain ⟨fn,tmps,assign,body,hy,hR⟩:=HY.out k (1+k,line) w2 (HJ.out k wr w2 HJK.out HB2.out) HX.out
   unfold encL at hy
   dsimp only at hy
   rw [HE.out] at hy
   gi_wp2_with fail
   refine hR.mono ?_
   rintro e W4 (⟨rfl,hJ4⟩ | ⟨ch,rfl,hJp⟩)
   ·have HJ4:=Lib.hid hJ4
    clear hR hy hJ4
    gi_wp2_with fail
    go_roundw
    case rel=>exact ⟨k+1,rest2,more2,rfl,rfl,by go_num,by omega,HST.out,HJ4.out⟩
    case measure=>simp [intOf];omega
   ·clear hR hy
    exact ⟨rfl,.inr ⟨ch,rfl,hJp⟩⟩
  | false =>
   have hkN:k=N:=by
    have:=HLN.out
    unfold LnS at this
    rw [if_neg (by decide),HN.out] at this
    exact this
   have HL:=Lib.hid (show (numb 1 (cuts 10 s)).length=k by rw [numb_len,HN.out,hkN])
   clear hkN
   gi_wp2_with fail
   go_end0
   exact .inl ⟨_,rfl,by rw [HL.out];exact HJK.out⟩
end Go.Proofs.YtekcjfdllclphaaGreatDoor.gn
end
section
namespace Go.Proofs.YtekcjfdllclphaaGreatDoor.gn
open Go.RowKit
open Go.Proofs.YtekcjfdllclphaaGreatDoor.un
open Go.Proofs.YtekcjfdllclphaaGreatDoor.di
open Go.Proofs.YtekcjfdllclphaaGreatDoor.sp (Slip shortP soundP waitsP storedP apartP dirsP dropD useD capD innD outD chkS chkS_P)
theorem dirsP_DW {x:Slip} (h:SW x):∀ d∈dirsP x,DW d:=by
 intro d hd
 have e0:([]:Tx).length≤9223372036854775807:=by decide
 unfold dirsP capD innD outD at hd
 simp only [List.mem_append,List.mem_map] at hd
 rcases hd with ((((hd | hd) | hd) | hd) | ⟨n,hn,rfl⟩) | ⟨n,hn,rfl⟩
 ·split at hd
  ·simp at hd;subst hd;exact ⟨by show (1:Nat) < 256;decide,e0,h.pool,h.cap.1,h.cap.2⟩
  ·cases hd
 ·split at hd
  ·simp at hd;subst hd;exact ⟨by show (2:Nat) < 256;decide,e0,e0,h.inn.1,h.inn.2⟩
  ·cases hd
 ·split at hd
  ·simp at hd;subst hd;exact ⟨by show (3:Nat) < 256;decide,e0,e0,h.out.1,h.out.2⟩
  ·cases hd
 ·exact h.make d hd
 ·exact ⟨by show (5:Nat) < 256;decide,h.drop n hn,e0,by show (-9223372036854775808:Int)≤0;decide,by show (0:Int)≤9223372036854775807;decide⟩
 ·exact ⟨by show (6:Nat) < 256;decide,h.use n hn,e0,by show (-9223372036854775808:Int)≤0;decide,by show (0:Int)≤9223372036854775807;decide⟩
theorem dirsP_len (x:Slip) (hm:x.make.length≤100) (hd:x.drop.length≤100) (hu:x.use.length≤100):(dirsP x).length≤303:=by
 have:=cap_few x;have:=inn_few x;have:=out_few x
 unfold dirsP
 simp only [List.length_append,List.length_map]
 omega
theorem cellM {w:World} {b off:Nat} {l:List Dir} (h:CellsC w b off (flM l)) {k:Nat} {d:Dir} (hd:l[k]?=some d) :
  w.cell? ⟨b,off+k * 5,none⟩=some (.int .u8 (d.kind:Nat))∧w.cell? ⟨b,off+k * 5+1,none⟩=some (.string (str d.name))∧w.cell? ⟨b,off+k * 5+2,none⟩=some (.string (str d.pool))∧w.cell? ⟨b,off+k * 5+3,none⟩=some (.int .i64 d.size)∧w.cell? ⟨b,off+k * 5+4,none⟩=some (.bool d.opn):=by
 have key:=fun j u=>h.elt (f:=cM) (k:=5) (fun _=>rfl) (j:=j) (u:=u) hd
 refine ⟨key 0 _ (by decide) rfl,?_,?_,?_,?_⟩
 ·have:=key 1 _ (by decide) rfl;rwa [←Nat.add_assoc] at this
 ·have:=key 2 _ (by decide) rfl;rwa [←Nat.add_assoc] at this
 ·have:=key 3 _ (by decide) rfl;rwa [←Nat.add_assoc] at this
 ·have:=key 4 _ (by decide) rfl;rwa [←Nat.add_assoc] at this
set_option maxRecDepth 100000 in
set_option maxHeartbeats 8000000 in
theorem stored_any (x:Slip) (g:Gh) (w:World) (h:SR w x g) (hW:SW x) (hm:x.make.length≤100) (hd:x.drop.length≤100) (hu:x.use.length≤100) (hL:LaidD w) :
  Calls Tryz.prog 60 #[sV x g] w (Told (.bool (storedP x)) w):=by
 have HDW:=Lib.hid (dirsP_DW hW)
 have hlen:=dirsP_len x hm hd hu
 have HL:=Lib.hid hL.base
 obtain ⟨wb,hwb⟩:∃ wb,w.alloc (.cells (scs x g) 27)=wb:=⟨_,rfl⟩
 have hbx:BoxA wb w.heap.size 27 (scs x g):=by rw [←hwb];exact BoxA.new _ _ _
 have hB1:Below w.heap.size w wb:=by rw [←hwb];exact (Below.refl _ _).alloc (Nat.le_refl _) _
 have HDI:=Lib.hid (directives_any x g wb (h.next hB1) hm hd hu)
 have HWB:=Lib.hid hwb
 have HB1:=Lib.hid hB1
 have cellAt:=Lib.hid (fun (W:World) (hb:Below wb.heap.size wb W)=>hbx.next hb)
 have HST:=Lib.hid (show storedP x=(decide (∀ d∈dirsP x,chk d=true) && (decide (x.inn≤x.cap) && decide (x.out≤x.cap))) by
  unfold storedP
  rw [Bool.eq_iff_iff]
  simp)
 have hlt:=hbx.lt
 clear h hW hm hd hu hL hB1
 unfold sV at HDI ⊢
 obtain ⟨va,vm,vd,vu⟩:=g
 unfold scs at HDI HWB cellAt hbx ⊢
 dsimp only at HDI HWB cellAt hbx ⊢
 generalize dirsP x=L at *
 obtain ⟨n,hn⟩:∃ n,L.length=n:=⟨_,rfl⟩
 rw [hn] at HDI hlen
 have HN:=Lib.hid hn
 clear hn
 obtain ⟨us,nodes,wall,qos,after,cap,inn,out,pool,mk,dr,use⟩:=x
 dsimp only at HDI HWB HST cellAt hbx ⊢
 generalize str us=sus at *
 generalize str pool=spl at *
 generalize storedP _=st at *
 have c0:=hbx.cell 0 _
 have c1:=hbx.cell 1 _
 have c2:=hbx.cell 2 _
 have c3:=hbx.cell 3 _
 have c4:=hbx.cell 4 _
 have c5:=hbx.cell 5 _
 have c6:=hbx.cell 6 _
 have c7:=hbx.cell 7 _
 have c8:=hbx.cell 8 _
 have c9:=hbx.cell 9 _
 have c10:=hbx.cell 10 _
 have c11:=hbx.cell 11 _
 clear hbx hwb
 go_enter Tryz.func60,Tryz.ntmps60
 go_upto_region 1 with fail
 rw [HWB.out]
 go_upto_region 2 with (go_at_call 52;((with_reducible refine HDI.out.mono ?_);rintro e w2 ⟨v,rfl,ho,hb⟩;obtain ⟨p,c,hv⟩:=(RdC.form (ApC.rdc (.inr ho)));subst hv;have HO:=Lib.hid ho;have HB:=Lib.hid hb;clear ho hb))
 have HCA:=Lib.hid (fun (W:World) (hb:Below wb.heap.size wb W)=>(And.intro (BoxA.cell (cellAt.out W hb) 5 _) (And.intro (BoxA.cell (cellAt.out W hb) 6 _) (And.intro (BoxA.cell (cellAt.out W hb) 7 _) (cellAt.out W hb).lt))))
 have HR:=Lib.hid (show RdC w2 (.slice p n c) n (flM L) from ApC.rdc (.inr HO.out))
 clear c0 c1 c2 c3 c4 c5 c6 c7 c8 c9 c10 c11 HO
 go_loopw [8] (fun s8 W=>∃ k:Nat,s8=.int .i64 k∧k≤n∧Aside (∀ d∈L.take k,chk d=true)∧Aside (Below w2.heap.size w2 W)) (fun s8 _=>n - (intOf s8).toNat)
 case atStart=>exact ⟨0,rfl,Nat.zero_le _,by show ∀ d∈L.take 0,_;simp,Below.refl _ _⟩
 case round =>
  obtain ⟨k,rfl,hk,hok,hbl⟩:=hrel
  have HOK:=Lib.hid (show ∀ d∈L.take k,chk d=true from hok)
  have HBL:=Lib.hid (show Below w2.heap.size w2 wr from hbl)
  have HLOW:=Lib.hid (HB.out.trans ((show Below w2.heap.size w2 wr from hbl).mono HB.out.size))
  clear hok hbl
  by_cases hkn:k < n
  ·obtain ⟨b,off,hp,hb,hc⟩:=(HR.out.next HBL.out).at_ (size:=5) rfl (by omega)
   subst hp
   obtain ⟨d,hd⟩:∃ d,L[k]?=some d:=⟨_,List.getElem?_eq_getElem (by rw [HN.out];exact hkn)⟩
   obtain ⟨y0,y1,y2,y3,y4⟩:=cellM hc hd
   have HD:=Lib.hid (HDW.out d (List.mem_of_getElem? hd))
   have HX:=Lib.hid hd
   clear hc hd
   go_upto_region 4 with fail
   have hD:BoxA (wr.alloc (.cells #[.int .u8 (d.kind:Nat),.string (str d.name),.string (str d.pool),.int .i64 d.size,.bool d.opn] 80)) wr.heap.size 80 #[.int .u8 (d.kind:Nat),.string (str d.name),.string (str d.pool),.int .i64 d.size,.bool d.opn]:=BoxA.new _ _ _
   have hb4:Below wr.heap.size wr (wr.alloc (.cells #[.int .u8 (d.kind:Nat),.string (str d.name),.string (str d.pool),.int .i64 d.size,.bool d.opn] 80)):=(Below.refl _ _).alloc (Nat.le_refl _) _
   generalize wr.alloc (.cells #[.int .u8 (d.kind:Nat),.string (str d.name),.string (str d.pool),.int .i64 d.size,.bool d.opn] 80)=w4 at *
   have z0:=hD.cell 0 _
   have z1:=hD.cell 1 _
   have z2:=hD.cell 2 _
   have z3:=hD.cell 3 _
   have z4:=hD.cell 4 _
   have zl:=hD.lt
   have HB4:=Lib.hid (HBL.out.trans (hb4.mono HBL.out.size))
   have HLW:=Lib.hid (HLOW.out.trans (hb4.mono HLOW.out.size))
   have HCK:=Lib.hid (Check_any d HD.out w4 (HL.out _ (HB1.out.trans (HLW.out.mono HB1.out.size))))
   generalize wr.heap.size=bd at *
   clear hD hb4 y0 y1 y2 y3 y4 hb
   unfold dV dcs at HCK
   by_cases hck:chk d=true
   ·have HCE:=Lib.hid (show cE d=0 by unfold cE;rw [if_pos hck])
    have HK:=Lib.hid (show ∀ d∈L.take (k+1),chk d=true from fun y hy=>by
     rw [take_snoc HX.out] at hy
     rcases List.mem_append.1 hy with hy | hy
     ·exact HOK.out y hy
     ·simp at hy;subst hy;exact hck)
    rw [HCE.out] at HCK
    clear hck
    go_wp2_with (go_at_call 94;((with_reducible refine HCK.out.mono ?_);rintro e w5 ⟨rfl,hb5⟩);have HB5:=Lib.hid hb5;clear hb5)
    go_roundw
    case rel=>exact ⟨k+1,by go_num,by omega,HK.out,HB4.out.trans (HB5.out.mono HB4.out.size)⟩
    case measure=>simp [intOf];omega
   ·have HCE:=Lib.hid (show cE d=140 by unfold cE;rw [if_neg hck])
    have HSF:=Lib.hid (show st=false by rw [HST.out,decide_eq_false (fun h=>hck (h d (List.mem_of_getElem? HX.out)))];rfl)
    rw [HCE.out] at HCK
    clear hck
    go_wp2_with (go_at_call 94;((with_reducible refine HCK.out.mono ?_);rintro e w5 ⟨rfl,hb5⟩);have HB5:=Lib.hid hb5;clear hb5)
    go_ret
    exact ⟨by rw [HSF.out];rfl,HB1.out.trans ((HLW.out.trans (HB5.out.mono HLW.out.size)).mono HB1.out.size)⟩
  ·obtain rfl:k=n:=by omega
   have hall:∀ d∈L,chk d=true:=by
    have:=HOK.out
    rwa [List.take_of_length_le (by rw [HN.out];exact Nat.le_refl _)] at this
   have HS2:=Lib.hid (show st=(decide (inn≤cap) && decide (out≤cap)) by rw [HST.out,decide_eq_true hall];rfl)
   obtain ⟨c5,c6,c7,hlw⟩:=HCA.out _ HLOW.out
   clear hall hk hkn
   by_cases h1:inn≤cap
   ·have q1:decide (inn≤cap)=true:=decide_eq_true h1
    have HF:=Lib.hid (show st=decide (out≤cap) by rw [HS2.out,q1];rfl)
    clear h1
    go_wp2
    go_ret
    exact ⟨by rw [HF.out];rfl,HB1.out.trans (HLOW.out.mono HB1.out.size)⟩
   ·have q1:decide (inn≤cap)=false:=decide_eq_false h1
    have HF:=Lib.hid (show st=false by rw [HS2.out,q1];rfl)
    clear h1
    go_wp2
    go_ret
    exact ⟨by rw [HF.out];rfl,HB1.out.trans (HLOW.out.mono HB1.out.size)⟩
end Go.Proofs.YtekcjfdllclphaaGreatDoor.gn
end
section
namespace Go.Proofs.YtekcjfdllclphaaGreatDoor.gn
open Go.RowKit
open Go.Proofs.YtekcjfdllclphaaGreatDoor.un
open Go.Lib (decDigits)
def dg1 (d:Nat):UInt8:=UInt8.ofNat (48+d)
theorem dg1_nat {d:Nat} (h:d < 10):(dg1 d).toNat=48+d:=by
 unfold dg1
 rw [UInt8.toNat_ofNat_of_lt']
 exact Nat.lt_of_lt_of_le (show 48+d < 58 by omega) (by decide)
def lft (m:Nat) (acc:List UInt8):List UInt8:=if m=0 then acc else decDigits m++acc
theorem lft_step {m:Nat} (h:0 < m) (acc:List UInt8):lft m acc=lft (m / 10) (dg1 (m % 10)::acc):=by
 unfold lft
 rw [if_neg (by omega)]
 by_cases hs:m < 10
 ·rw [if_pos (by omega),dec_small hs,Nat.mod_eq_of_lt hs]
  rfl
 ·rw [if_neg (by omega),dec_big hs,List.append_assoc]
  rfl
theorem lft_le (m:Nat) (acc:List UInt8):acc.length≤(lft m acc).length:=by
 unfold lft
 split
 ·exact Nat.le_refl _
 ·rw [List.length_append];omega
set_option maxRecDepth 100000 in
theorem one_string (w:World) (d:Nat) (h:d < 10):(convert 100 9 (.slice (some ⟨w.heap.size,0,none⟩) 1 1)).run Tryz.prog (w.alloc (.cells #[.int .u8 (48+(d:Int))] 5))=.ok (.string (str [dg1 d])) (w.alloc (.cells #[.int .u8 (48+(d:Int))] 5)):=by
 refine run_convert_bytes_back _ _ _ _ ⟨w.heap.size,0,none⟩ 1 [dg1 d] Tryz.underlying100 Tryz.underlying5 Tryz.underlying9 fun j hj=>?_
 have hj0:j=0:=by simp at hj;omega
 subst hj0
 have hadd:(⟨w.heap.size,0,none⟩:Addr).add 0=⟨w.heap.size,0,none⟩:=by unfold Addr.add;split <;> simp_all
 rw [hadd,World.cell?_alloc_mark]
 simp [dg1_nat h]
set_option maxRecDepth 100000 in
set_option maxHeartbeats 3200000 in
theorem dtext_any (n:Int) (w:World):Calls Tryz.prog 33 #[.int .i64 n] w (Told (.string (str (txt n))) w):=by
 by_cases hq:0≤n∧n≤1099511627776
 ·have HQ:=Lib.hid (show quant n=true from decide_eq_true hq)
  by_cases h0:n=0
  ·subst h0
   have HT:=Lib.hid (show txt 0=[48] by rw [show (0:Int)=((0:Nat):Int) from rfl,txt_in (by decide),dec_small (by decide)];rfl)
   go_enter Tryz.func33,Tryz.ntmps33
   go_wp2_with (go_at_call 46;refine (dquant_any _ _).mono ?_;rintro e w2 ⟨rfl,rfl⟩;rw [HQ.out])
   go_ret
   exact ⟨by rw [HT.out];rfl,Below.refl _ _⟩
  ·obtain ⟨m,rfl⟩:∃ m:Nat,n=(m:Int):=⟨n.toNat,by omega⟩
   have hm:m≤1099511627776:=by omega
   have hm0:0 < m:=by omega
   have hne:(((m:Nat):Int) == 0)=false:=by rw [beq_eq_false_iff_ne];omega
   have HT:=Lib.hid (show lft m []=txt (m:Int) by
    rw [txt_in hm]
    unfold lft
    rw [if_neg (by omega),List.append_nil])
   have HLEN:=Lib.hid (txt_len (m:Int))
   generalize txt (m:Int)=ans at *
   clear hq h0
   go_enter Tryz.func33,Tryz.ntmps33
   go_wp2_with (go_at_call 46;refine (dquant_any _ _).mono ?_;rintro e w2 ⟨rfl,rfl⟩;rw [HQ.out])
   go_loopw [0,3] (fun s0 s3 wr=>∃ (k:Nat) (acc:List UInt8),s0=.int .i64 k∧s3=.string (str acc)∧k≤1099511627776∧Aside (lft k acc=ans)∧Aside (Below w.heap.size w wr)) (fun s0 _ _=>(intOf s0).toNat)
   case atStart=>exact ⟨m,[],rfl,rfl,hm,HT.out,Below.refl _ _⟩
   case round =>
    obtain ⟨k,acc,rfl,rfl,hk,hl,hb⟩:=hrel
    have HB:=Lib.hid (show Below w.heap.size w wr from hb)
    by_cases hk0:0 < k
    ·have hl2:lft (k / 10) (dg1 (k % 10)::acc)=ans:=by rw [←lft_step hk0];exact hl
     have hal:=lft_le (k / 10) (dg1 (k % 10)::acc)
     rw [hl2] at hal
     have z1:(str acc).size≤13:=by
      rw [str_size]
      have:=HLEN.out
      simp at hal
      omega
     have z2:(str [dg1 (k % 10)]).size=1:=rfl
     have HL:=Lib.hid hl2
     have hone:=one_string wr (k % 10) (Nat.mod_lt _ (by decide))
     have htm:Int.tmod (k:Int) 10=((k % 10:Nat):Int):=rfl
     have htd:Int.tdiv (k:Int) 10=((k / 10:Nat):Int):=rfl
     have hd10:k % 10 < 10:=Nat.mod_lt _ (by decide)
     have hq10:k / 10 < k:=by omega
     have HB2:=Lib.hid (HB.out.alloc HB.out.size (.cells #[.int .u8 (48+((k % 10:Nat):Int))] 5))
     clear hl hb hl2 hal
     generalize k % 10=d at *
     generalize k / 10=k2 at *
     go_wp2
     go_roundw
     case rel=>exact ⟨k2,dg1 d::acc,rfl,by rw [str_app];rfl,by omega,HL.out,HB2.out⟩
     case measure=>simp [intOf];omega
    ·obtain rfl:k=0:=by omega
     have hans:acc=ans:=hl
     subst hans
     clear hl hb
     go_wp2
     go_ret
     exact ⟨rfl,HB.out⟩
 ·have HQ:=Lib.hid (show quant n=false from decide_eq_false hq)
  have HT:=Lib.hid (txt_out hq)
  clear hq
  go_enter Tryz.func33,Tryz.ntmps33
  go_wp2_with (go_at_call 46;refine (dquant_any _ _).mono ?_;rintro e w2 ⟨rfl,rfl⟩;rw [HQ.out])
  go_ret
  exact ⟨by rw [HT.out];rfl,Below.refl _ _⟩
theorem wrap_q {q:Nat} (h:q≤1099511627776):IntKind.i64.wrap (q:Int)=(q:Int):=by
 rw [IntKind.wrap_i64]
 omega
theorem add_run {a b:List UInt8} (ha:(str a).size≤1000) (hb:(str b).size≤1000) (W:World):(Op.stringOp .add (str a) (str b)).run Tryz.prog W=.ok (.string (str a++str b)) W:=run_string_add_sum W _ _ (by omega)
theorem below_undrew {B:Nat} {w w':World} (h:Below B w.drew w'):Below B w w':=⟨h.os,h.tape,h.output,h.size,h.block⟩
def fourN:Array Value:=#[.string { data:=#[84,105,66] },.string { data:=#[71,105,66] },.string { data:=#[77,105,66] },.string { data:=#[75,105,66] }]
theorem fourN_at {k:Nat} (hk:k < 4):fourN[k]?=some (.string (str (nm k))):=by
 have hc:k=0∨k=1∨k=2∨k=3:=by omega
 rcases hc with rfl | rfl | rfl | rfl <;> rfl
set_option maxRecDepth 100000 in
set_option maxHeartbeats 1600000 in
theorem dstext_out (n:Int) (hq:¬ (0 < n∧n≤1099511627776)) (w:World):Calls Tryz.prog 25 #[.int .i64 n] w (Told (.string (str (stxt n))) w):=by
 have HX:=Lib.hid (stxt_out hq)
 obtain ⟨w3,hw3⟩:∃ w3,w.alloc (.cells fourN 9)=w3:=⟨_,rfl⟩
 have HB3:=Lib.hid (show Below w.heap.size w w3 by rw [←hw3];exact (Below.refl _ _).alloc (Nat.le_refl _) _)
 unfold fourN at hw3
 obtain ⟨q,hqq⟩:∃ q,quant n=q:=⟨_,rfl⟩
 have HQ:=Lib.hid hqq
 have hcase:q=false∨(q=true∧decide (0 < n)=false):=by
  rw [←hqq]
  by_cases h:0≤n∧n≤1099511627776
  ·exact .inr ⟨decide_eq_true h,decide_eq_false (by omega)⟩
  ·exact .inl (decide_eq_false h)
 clear hqq hq
 rcases hcase with rfl | ⟨rfl,hn0⟩
 all_goals
  go_enter Tryz.func25,Tryz.ntmps25
  go_wp2
  clear hw3
  go_loopw [4] (fun s4 wr=>s4=.int .i64 0∧wr=w3) (fun s4 _=>0)
  case atStart=>exact ⟨rfl,rfl⟩
  case round =>
   obtain ⟨rfl,rfl⟩:=hrel
   go_wp2_with (first
    | (go_at_call 46;refine (dquant_any _ _).mono ?_;rintro e w4 ⟨rfl,rfl⟩;rw [HQ.out])
    | (go_at_call 33;refine (dtext_any n _).mono ?_;rintro e w5 ⟨rfl,hb5⟩;have HB5:=Lib.hid (HB3.out.trans (hb5.mono HB3.out.size));clear hb5))
   go_ret
   exact ⟨by rw [HX.out];rfl,HB5.out⟩
set_option maxRecDepth 100000 in
set_option maxHeartbeats 3200000 in
theorem dstext_in (n:Nat) (h0:0 < n) (h1:n≤1099511627776) (w:World):Calls Tryz.prog 25 #[.int .i64 (n:Int)] w (Told (.string (str (stxt (n:Int)))) w):=by
 have HQ:=Lib.hid (show quant (n:Int)=true from decide_eq_true (by omega))
 obtain ⟨w3,hw3⟩:∃ w3,w.alloc (.cells fourN 9)=w3:=⟨_,rfl⟩
 have hcell:∀ k,k < 4→w3.cell? ⟨w.heap.size,k,none⟩=some (.string (str (nm k))):=fun k hk=>by
  rw [←hw3,World.cell?_alloc_mark]
  exact fourN_at hk
 have HC:=Lib.hid hcell
 have hsz3:w.heap.size < w3.heap.size:=by rw [←hw3];simp
 have HB3:=Lib.hid (show Below w.heap.size w w3 by rw [←hw3];exact (Below.refl _ _).alloc (Nat.le_refl _) _)
 unfold fourN at hw3
 have hn0:decide (0 < (n:Int))=true:=decide_eq_true (by omega)
 clear hcell
 go_enter Tryz.func25,Tryz.ntmps25
 go_wp2
 clear hw3
 go_loopw [4] (fun s4 wr=>∃ k:Nat,s4=.int .i64 k∧k≤4∧Aside (∀ i,i < k→n % sz i≠0)∧Aside (Below w3.heap.size w3 wr)) (fun s4 _=>4 - (intOf s4).toNat)
 case atStart=>exact ⟨0,rfl,by omega,fun i hi=>absurd hi (by omega),Below.refl _ _⟩
 case round =>
  obtain ⟨k,rfl,hk,hno,hb⟩:=hrel
  have HB:=Lib.hid (show Below w3.heap.size w3 wr from hb)
  have HBW:=Lib.hid (HB3.out.trans (HB.out.mono HB3.out.size))
  have hszr:w.heap.size < wr.heap.size:=Nat.lt_of_lt_of_le hsz3 HB.out.size
  clear hb
  by_cases h4:k < 4
  ·have hcw:∀ W,Below wr.heap.size wr W→W.cell? ⟨w.heap.size,k,none⟩=some (.string (str (nm k))):=fun W hW=>by
    rw [Below.cell hW hszr,Below.cell HB.out hsz3]
    exact HC.out k h4
   have hck:=hcw wr (Below.refl _ _)
   have HCW:=Lib.hid hcw
   clear hcw
   have hsb:=sz_bd (show k < 8 by omega)
   have hs0:¬ ((sz k:Nat):Int)=0:=by omega
   have htm:Int.tmod (n:Int) ((sz k:Nat):Int)=((n % sz k:Nat):Int):=rfl
   have htd:Int.tdiv (n:Int) ((sz k:Nat):Int)=((n / sz k:Nat):Int):=rfl
   have HBY:=Lib.hid (by_nm (show k < 8 by omega))
   by_cases hd:n % sz k=0
   ·have hx:=stxt_at h0 h1 h4 hno hd
    have HX:=Lib.hid hx
    have hle:n / sz k≤1099511627776:=Nat.le_trans (Nat.div_le_self _ _) h1
    have z1:(str (txt ((n / sz k:Nat):Int))).size≤13:=by rw [str_size];exact txt_len _
    have z2:(str (nm k)).size≤3:=by rw [str_size];exact nm_len (by omega)
    have HTE:=Lib.hid (txt_in hle)
    rw [hd] at htm
    have hqb:n / sz k≤9223372036854775807:=Nat.le_trans hle (by decide)
    have hs0n:¬ sz k=0:=by omega
    have hwq:IntKind.i64.wrap ((n / sz k:Nat):Int)=((n / sz k:Nat):Int):=wrap_q hle
    have hadd:=add_run (Nat.le_trans z1 (by decide)) (Nat.le_trans z2 (by decide))
    clear hx hno hd hqb
    generalize n / sz k=q at *
    go_upto_region 6 with (first
     | (go_at_call 46;refine (dquant_any _ _).mono ?_;rintro e w4 ⟨rfl,rfl⟩;rw [HQ.out])
     | (go_at_call 45;refine (dby_any (nm k) _).mono ?_;rintro e w5 ⟨rfl,hb5⟩;rw [HBY.out];have HB5:=Lib.hid hb5;have hck5:=HCW.out _ hb5;have hsz5:=Nat.lt_of_lt_of_le hszr hb5.size;clear hb5))
    have hck5d:w5.drew.cell? ⟨w.heap.size,k,none⟩=some (.string (str (nm k))):=hck5
    go_region_held3 (fun W=>W.cell? ⟨w.heap.size,k,none⟩=some (.string (str (nm k)))) (first | assumption | (exact hck5) | (exact hck5d)) (first
     | (go_at_call 45;refine (dby_any (nm k) _).mono ?_;rintro e w6 ⟨rfl,hb6⟩;rw [HBY.out];have hb6':Below w5.heap.size w5 w6:=below_undrew hb6;clear hb6;have hck6:w6.cell? ⟨w.heap.size,k,none⟩=some (.string (str (nm k))):=(Below.cell hb6' hsz5).trans hck5;have hsz6:=Nat.lt_of_lt_of_le hsz5 hb6'.size;have HB6:=Lib.hid (HB5.out.trans (hb6'.mono HB5.out.size));clear hb6')
     | (go_at_call 33;refine (dtext_any (q:Int) _).mono ?_;rintro e w7 ⟨rfl,hb7⟩;have hck7:w7.cell? ⟨w.heap.size,k,none⟩=some (.string (str (nm k))):=(Below.cell hb7 hsz6).trans hck6;have HB7:=Lib.hid (HB6.out.trans (hb7.mono HB6.out.size));clear hb7))
    all_goals go_wp2
    all_goals go_ret
    all_goals exact ⟨by rw [HX.out,HTE.out,str_app];rfl,HBW.out.trans (HB7.out.mono HBW.out.size)⟩
   ·have hd2:((n % sz k:Nat):Int)≠0:=by omega
    have hno2:∀ i,i < k+1→n % sz i≠0:=fun i hi=>by
     rcases Nat.lt_or_ge i k with h | h
     ·exact hno i h
     ·rw [show i=k by omega];exact hd
    have HN:=Lib.hid hno2
    clear hno2 hno hd htd
    generalize n % sz k=r at *
    go_wp2_with (first
     | (go_at_call 46;refine (dquant_any _ _).mono ?_;rintro e w4 ⟨rfl,rfl⟩;rw [HQ.out])
     | (go_at_call 45;refine (dby_any (nm k) _).mono ?_;rintro e w5 ⟨rfl,hb5⟩;rw [HBY.out];have HB5:=Lib.hid (HB.out.trans (hb5.mono HB.out.size));clear hb5))
    go_roundw
    case rel=>exact ⟨k+1,by go_num,by omega,HN.out,HB5.out⟩
    case measure=>simp [intOf];omega
  ·obtain rfl:k=4:=by omega
   have HX:=Lib.hid (stxt_none h0 h1 hno)
   have HTE:=Lib.hid (txt_in h1)
   clear hno
   go_wp2_with (first
    | (go_at_call 46;refine (dquant_any _ _).mono ?_;rintro e w4 ⟨rfl,rfl⟩;rw [HQ.out])
    | (go_at_call 33;refine (dtext_any (n:Int) _).mono ?_;rintro e w5 ⟨rfl,hb5⟩;have HB5:=Lib.hid (HBW.out.trans (hb5.mono HBW.out.size));clear hb5))
   go_ret
   exact ⟨by rw [HX.out,HTE.out];rfl,HB5.out⟩
theorem dstext_any (n:Int) (w:World):Calls Tryz.prog 25 #[.int .i64 n] w (Told (.string (str (stxt n))) w):=by
 by_cases h:0 < n∧n≤1099511627776
 ·obtain ⟨m,rfl⟩:∃ m:Nat,n=(m:Int):=⟨n.toNat,by omega⟩
  exact dstext_in m (by omega) (by omega) w
 ·exact dstext_out n h w
end Go.Proofs.YtekcjfdllclphaaGreatDoor.gn
end
