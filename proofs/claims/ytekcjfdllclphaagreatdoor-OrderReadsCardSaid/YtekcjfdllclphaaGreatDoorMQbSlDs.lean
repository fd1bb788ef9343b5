/- The document's sameTexts, Same. (Written by gen_slDs.py.) -/
import Derived.Test.YtekcjfdllclphaaGreatDoorMQbSlSa
import Derived.BigQuiet
set_option linter.unusedVariables false
set_option linter.unusedSimpArgs false
section
namespace Go.Proofs.YtekcjfdllclphaaGreatDoor.gn
open Go.RowKit
open Go.Proofs.YtekcjfdllclphaaGreatDoor.un
open Go.Proofs.YtekcjfdllclphaaGreatDoor.di
open Go.Proofs.YtekcjfdllclphaaGreatDoor.sp (Slip)
set_option maxRecDepth 100000 in
set_option maxHeartbeats 4000000 in
theorem sameTexts_any (l m:List Tx) (v u:Value) (w:World) (h:RdC w v l.length (flS l)) (h':RdC w u m.length (flS m)) (hm:l.length≤maxLen) (hm':m.length≤maxLen):Calls Tryz.prog 47 #[v,u] w (Told (.bool (decide (l=m))) w):=by
 obtain ⟨p,c,rfl⟩:=h.form
 obtain ⟨p',c',rfl⟩:=h'.form
 have HC:=Lib.hid (fun hk:0 < l.length=>h.at_ (size:=1) rfl hk)
 have HC':=Lib.hid (fun hk:0 < m.length=>h'.at_ (size:=1) rfl hk)
 by_cases hlen:l.length=m.length
 ·obtain ⟨n,hn⟩:∃ n,l.length=n:=⟨_,rfl⟩
  have hn':m.length=n:=hlen ▸ hn
  rw [hn] at hm HC ⊢
  rw [hn'] at HC' ⊢
  have HN:=Lib.hid hn
  have HN':=Lib.hid hn'
  have hm2:n≤9223372036854775807:=by unfold maxLen at hm;omega
  clear h h' hn hn' hm hm' hlen
  go_enter Tryz.func47,Tryz.ntmps47
  go_wp2
  go_loopw [5] (fun s13 wr=>∃ k:Nat,s13=.int .i64 k∧k≤n∧Aside (l.take k=m.take k)∧Aside (Below w.heap.size w wr)) (fun s13 _=>n - (intOf s13).toNat)
  case atStart=>exact ⟨0,rfl,Nat.zero_le _,by show l.take 0=m.take 0;simp,Below.refl _ _⟩
  case round =>
   obtain ⟨k,rfl,hk,hnx,hb⟩:=hrel
   have HX:=Lib.hid (show l.take k=m.take k from hnx)
   have hb:Below w.heap.size w wr:=hb
   have HB:=Lib.hid hb
   clear hnx
   by_cases hkn:k < n
   ·obtain ⟨b,off,rfl,hbl,hc⟩:=HC.out (by omega)
    obtain ⟨b',off',rfl,hbl',hc'⟩:=HC'.out (by omega)
    obtain ⟨x,hx⟩:∃ x,l[k]?=some x:=⟨_,List.getElem?_eq_getElem (by rw [HN.out];exact hkn)⟩
    obtain ⟨y,hy⟩:∃ y,m[k]?=some y:=⟨_,List.getElem?_eq_getElem (by rw [HN'.out];exact hkn)⟩
    have c0:wr.cell? ⟨b,off+k,none⟩=some (.string (str x)):=by
     have:=(Below.cell hb (p:=⟨b,off+(k * 1+0),none⟩) hbl).trans (hc.elt (f:=cS) (k:=1) (fun _=>rfl) (j:=0) hx (by decide) rfl)
     first | exact this | (rw [←Nat.add_assoc] at this;exact this) | (rw [Nat.mul_one,Nat.add_zero] at this;exact this)
    have d0:wr.cell? ⟨b',off'+k,none⟩=some (.string (str y)):=by
     have:=(Below.cell hb (p:=⟨b',off'+(k * 1+0),none⟩) hbl').trans (hc'.elt (f:=cS) (k:=1) (fun _=>rfl) (j:=0) hy (by decide) rfl)
     first | exact this | (rw [←Nat.add_assoc] at this;exact this) | (rw [Nat.mul_one,Nat.add_zero] at this;exact this)
    have HY:=Lib.hid (And.intro hx hy)
    have hbw:b < wr.heap.size:=Nat.lt_of_lt_of_le hbl hb.size
    have hbw':b' < wr.heap.size:=Nat.lt_of_lt_of_le hbl' hb.size
    clear hc hc' hx hy hbl hbl' hb
    by_cases he:x=y
    ·have HM:=Lib.hid (take_same HY.out.1 HY.out.2 he HX.out)
     obtain ⟨q1,q2⟩:=(⟨by rw [eq_str];exact decide_eq_true he,by rw [he]⟩:((str x).toList == (str y).toList)=true∧(str x).toList=(str y).toList)
     clear he
     go_wp2_with (go_quiet (fail))
     go_roundw
     case rel=>exact ⟨k+1,by go_num,by omega,HM.out,HB.out.trans (Joins.below_draws _ _ _)⟩
     case measure=>simp [intOf];omega
    ·have HM:=Lib.hid (ne_at HY.out.1 HY.out.2 he)
     obtain ⟨q1,q2⟩:=(⟨by rw [eq_str];exact decide_eq_false he,fun h=>he (by rw [str_toList,str_toList] at h;exact h)⟩:((str x).toList == (str y).toList)=false∧¬ (str x).toList=(str y).toList)
     clear he
     go_wp2_with (go_quiet (fail))
     go_ret
     exact ⟨by rw [decide_eq_false HM.out];rfl,HB.out.trans (Joins.below_draws _ _ _)⟩
   ·obtain rfl:k=n:=by omega
    have hfin:l=m:=by
     have:=HX.out
     rwa [List.take_of_length_le (by rw [HN.out];exact Nat.le_refl _),List.take_of_length_le (by rw [HN'.out];exact Nat.le_refl _)] at this
    have HF:=Lib.hid hfin
    clear hfin hb
    go_wp2
    go_ret
    exact ⟨by rw [decide_eq_true HF.out];rfl,HB.out⟩
 ·have HF:=Lib.hid (show ¬ l=m from fun e=>hlen (by rw [e]))
  have hne:¬ ((l.length:Nat):Int)=((m.length:Nat):Int):=by omega
  have hnb:(((l.length:Nat):Int) == ((m.length:Nat):Int))=false:=by rw [beq_eq_false_iff_ne];exact hne
  clear h h' hlen
  generalize l.length=n1 at *
  generalize m.length=n2 at *
  go_enter Tryz.func47,Tryz.ntmps47
  go_wp2
  go_ret
  exact ⟨by rw [decide_eq_false HF.out];rfl,Below.refl _ _⟩
theorem slip_ext {x y:Slip} (h0:x.user=y.user) (h1:x.nodes=y.nodes) (h2:x.wall=y.wall) (h3:x.qos=y.qos) (h4:x.after=y.after) (h5:x.cap=y.cap) (h6:x.inn=y.inn) (h7:x.out=y.out) (h8:x.pool=y.pool) (h9:x.make=y.make) (h10:x.drop=y.drop) (h11:x.use=y.use):x=y:=by
 cases x
 cases y
 simp_all
set_option maxRecDepth 100000 in
set_option maxHeartbeats 32000000 in
theorem dSame_slip (x y:Slip) (g g':Gh) (w:World) (h:SR w x g) (h':SR w y g'):Calls Tryz.prog 26 #[sV x g,sV y g'] w (Told (.bool (decide (x=y))) w):=by
 obtain ⟨wb,hwb⟩:∃ wb,(w.alloc (.cells (scs x g) 27)).alloc (.cells (scs y g') 27)=wb:=⟨_,rfl⟩
 have hb0:Below w.heap.size w wb:=by rw [←hwb];exact ((Below.refl _ _).alloc (Nat.le_refl _) _).alloc (by simp) _
 have hx1:BoxA wb w.heap.size 27 (scs x g):=by rw [←hwb];exact (BoxA.new w _ _).next ((Below.refl _ _).alloc (Nat.le_refl _) _)
 have hx2:BoxA wb (w.heap.size+1) 27 (scs y g'):=by
  have:=BoxA.new (w.alloc (.cells (scs x g) 27)) 27 (scs y g')
  rw [World.size_alloc,hwb] at this
  exact this
 have HWB:=Lib.hid hwb
 have HFIN:=Lib.hid (fun (W:World) (hb:Below wb.heap.size wb W)=>hb0.trans (hb.mono hb0.size))
 have HCX:=Lib.hid (fun (W:World) (hb:Below wb.heap.size wb W)=>cel_box (hx1.next hb))
 have HCY:=Lib.hid (fun (W:World) (hb:Below wb.heap.size wb W)=>cel_box (hx2.next hb))
 have hs:=fun (W:World) (hb:Below wb.heap.size wb W)=>(h.next hb0).next hb
 have hs':=fun (W:World) (hb:Below wb.heap.size wb W)=>(h'.next hb0).next hb
 have H3:=Lib.hid (fun (W:World) (hb:Below wb.heap.size wb W)=>sameTexts_any x.drop y.drop g.d g'.d W (hs W hb).d (hs' W hb).d h.lens.2.2.1 h'.lens.2.2.1)
 have H4:=Lib.hid (fun (W:World) (hb:Below wb.heap.size wb W)=>sameTexts_any x.use y.use g.u g'.u W (hs W hb).u (hs' W hb).u h.lens.2.2.2 h'.lens.2.2.2)
 have la:=h.lens.1
 have lm:=h.lens.2.1
 have la':=h'.lens.1
 have lm':=h'.lens.2.1
 unfold maxLen at la lm la' lm'
 obtain ⟨pa,ca,ea,_,_⟩:=h.ca
 obtain ⟨pm,cm,em,_,_⟩:=h.cm
 obtain ⟨pa',ca',ea',_,_⟩:=h'.ca
 obtain ⟨pm',cm',em',_,_⟩:=h'.cm
 have HS:=Lib.hid (fun (W:World) (hb:Below wb.heap.size wb W)=>(And.intro (hs W hb).a (And.intro (hs W hb).m (And.intro (hs' W hb).a (hs' W hb).m))))
 clear h h' hb0 hwb hx1 hx2 hs hs'
 obtain ⟨va,vm,vd,vu⟩:=g
 obtain ⟨va',vm',vd',vu'⟩:=g'
 dsimp only at ea em ea' em'
 subst ea em ea' em'
 unfold sV scs at *
 dsimp only at *
 obtain ⟨c0,c1,c2,c3,c4,c5,c6,c7,c8,c9,c10,c11,clt⟩:=HCX.out wb (Below.refl _ _)
 obtain ⟨d0,d1,d2,d3,d4,d5,d6,d7,d8,d9,d10,d11,dlt⟩:=HCY.out wb (Below.refl _ _)
 dsimp only at c0 c1 c2 c3 c4 c5 c6 c7 c8 c9 c10 c11 d0 d1 d2 d3 d4 d5 d6 d7 d8 d9 d10 d11
 go_enter Tryz.func26,Tryz.ntmps26
 apply wp_seq_k
 intro K hK
 apply wp_region_lit
 refine Great.wpList_boxTo rfl _ _ rfl _ rfl w.heap.size rfl #[.string (str x.user),.int .i64 x.nodes,.int .i64 x.wall,.int .i64 x.qos,.slice pa x.after.length ca,.int .i64 x.cap,.int .i64 x.inn,.int .i64 x.out,.string (str x.pool),.slice pm x.make.length cm,vd,vu] rfl ?_
 simp only [Act.put,List.setIfInBounds_toArray,List.set_cons_zero,List.set_cons_succ]
 refine Great.wpList_boxTo rfl _ _ rfl _ rfl (w.heap.size+1) (World.size_alloc _ _) #[.string (str y.user),.int .i64 y.nodes,.int .i64 y.wall,.int .i64 y.qos,.slice pa' y.after.length ca',.int .i64 y.cap,.int .i64 y.inn,.int .i64 y.out,.string (str y.pool),.slice pm' y.make.length cm',vd',vu'] rfl ?_
 rw [HWB.out]
 simp only [Act.put,List.setIfInBounds_toArray,List.set_cons_zero,List.set_cons_succ]
 go_upto_region 1 with fail
 by_cases e0:x.user=y.user
 rotate_left
 ·have q0:((str x.user).toList == (str y.user).toList)=false:=by rw [eq_str];exact decide_eq_false e0
  have r0:¬ (str x.user).toList=(str y.user).toList:=fun h=>e0 (by rw [str_toList,str_toList] at h;exact h)
  have HNE:=Lib.hid (show ¬ x=y from fun e=>e0 (by rw [e]))
  clear e0
  go_wp2
  go_ret
  exact ⟨by rw [decide_eq_false HNE.out];rfl,HFIN.out wb (Below.refl _ _)⟩
 have q0:((str x.user).toList == (str y.user).toList)=true:=by rw [eq_str];exact decide_eq_true e0
 have r0:(str x.user).toList=(str y.user).toList:=by rw [e0]
 have E0:=Lib.hid e0
 clear e0
 by_cases e1:x.nodes=y.nodes
 rotate_left
 ·have q1:(x.nodes == y.nodes)=false:=by rw [beq_eq_false_iff_ne];omega
  have r1:(x.nodes != y.nodes)=true:=by rw [bne_iff_ne];omega
  have HNE:=Lib.hid (show ¬ x=y from fun e=>e1 (by rw [e]))
  clear e1
  go_wp2
  go_ret
  exact ⟨by rw [decide_eq_false HNE.out];rfl,HFIN.out wb (Below.refl _ _)⟩
 have q1:(x.nodes == y.nodes)=true:=by rw [beq_iff_eq];omega
 have r1:(x.nodes != y.nodes)=false:=by simp [e1]
 have E1:=Lib.hid e1
 clear e1
 by_cases e2:x.wall=y.wall
 rotate_left
 ·have q2:(x.wall == y.wall)=false:=by rw [beq_eq_false_iff_ne];omega
  have r2:(x.wall != y.wall)=true:=by rw [bne_iff_ne];omega
  have HNE:=Lib.hid (show ¬ x=y from fun e=>e2 (by rw [e]))
  clear e2
  go_wp2
  go_ret
  exact ⟨by rw [decide_eq_false HNE.out];rfl,HFIN.out wb (Below.refl _ _)⟩
 have q2:(x.wall == y.wall)=true:=by rw [beq_iff_eq];omega
 have r2:(x.wall != y.wall)=false:=by simp [e2]
 have E2:=Lib.hid e2
 clear e2
 by_cases e3:x.qos=y.qos
 rotate_left
 ·have q3:(x.qos == y.qos)=false:=by rw [beq_eq_false_iff_ne];omega
  have r3:(x.qos != y.qos)=true:=by rw [bne_iff_ne];omega
  have HNE:=Lib.hid (show ¬ x=y from fun e=>e3 (by rw [e]))
  clear e3
  go_wp2
  go_ret
  exact ⟨by rw [decide_eq_false HNE.out];rfl,HFIN.out wb (Below.refl _ _)⟩
 have q3:(x.qos == y.qos)=true:=by rw [beq_iff_eq];omega
 have r3:(x.qos != y.qos)=false:=by simp [e3]
 have E3:=Lib.hid e3
 clear e3
 by_cases e4:x.cap=y.cap
 rotate_left
 ·have q4:(x.cap == y.cap)=false:=by rw [beq_eq_false_iff_ne];omega
  have r4:(x.cap != y.cap)=true:=by rw [bne_iff_ne];omega
  have HNE:=Lib.hid (show ¬ x=y from fun e=>e4 (by rw [e]))
  clear e4
  go_wp2
  go_ret
  exact ⟨by rw [decide_eq_false HNE.out];rfl,HFIN.out wb (Below.refl _ _)⟩
 have q4:(x.cap == y.cap)=true:=by rw [beq_iff_eq];omega
 have r4:(x.cap != y.cap)=false:=by simp [e4]
 have E4:=Lib.hid e4
 clear e4
 by_cases e5:x.inn=y.inn
 rotate_left
 ·have q5:(x.inn == y.inn)=false:=by rw [beq_eq_false_iff_ne];omega
  have r5:(x.inn != y.inn)=true:=by rw [bne_iff_ne];omega
  have HNE:=Lib.hid (show ¬ x=y from fun e=>e5 (by rw [e]))
  clear e5
  go_wp2
  go_ret
  exact ⟨by rw [decide_eq_false HNE.out];rfl,HFIN.out wb (Below.refl _ _)⟩
 have q5:(x.inn == y.inn)=true:=by rw [beq_iff_eq];omega
 have r5:(x.inn != y.inn)=false:=by simp [e5]
 have E5:=Lib.hid e5
 clear e5
 by_cases e6:x.out=y.out
 rotate_left
 ·have q6:(x.out == y.out)=false:=by rw [beq_eq_false_iff_ne];omega
  have r6:(x.out != y.out)=true:=by rw [bne_iff_ne];omega
  have HNE:=Lib.hid (show ¬ x=y from fun e=>e6 (by rw [e]))
  clear e6
  go_wp2
  go_ret
  exact ⟨by rw [decide_eq_false HNE.out];rfl,HFIN.out wb (Below.refl _ _)⟩
 have q6:(x.out == y.out)=true:=by rw [beq_iff_eq];omega
 have r6:(x.out != y.out)=false:=by simp [e6]
 have E6:=Lib.hid e6
 clear e6
 by_cases e7:x.pool=y.pool
 rotate_left
 ·have q7:((str x.pool).toList == (str y.pool).toList)=false:=by rw [eq_str];exact decide_eq_false e7
  have r7:¬ (str x.pool).toList=(str y.pool).toList:=fun h=>e7 (by rw [str_toList,str_toList] at h;exact h)
  have HNE:=Lib.hid (show ¬ x=y from fun e=>e7 (by rw [e]))
  clear e7
  go_wp2
  go_ret
  exact ⟨by rw [decide_eq_false HNE.out];rfl,HFIN.out wb (Below.refl _ _)⟩
 have q7:((str x.pool).toList == (str y.pool).toList)=true:=by rw [eq_str];exact decide_eq_true e7
 have r7:(str x.pool).toList=(str y.pool).toList:=by rw [e7]
 have E7:=Lib.hid e7
 clear e7
 by_cases e8:x.after.length=y.after.length
 rotate_left
 ·have q8:((x.after.length:Int) == (y.after.length:Int))=false:=by rw [beq_eq_false_iff_ne];omega
  have r8:((x.after.length:Int) != (y.after.length:Int))=true:=by rw [bne_iff_ne];omega
  have HNE:=Lib.hid (show ¬ x=y from fun e=>e8 (by rw [e]))
  clear e8
  go_wp2
  go_ret
  exact ⟨by rw [decide_eq_false HNE.out];rfl,HFIN.out wb (Below.refl _ _)⟩
 have q8:((x.after.length:Int) == (y.after.length:Int))=true:=by rw [beq_iff_eq];omega
 have r8:((x.after.length:Int) != (y.after.length:Int))=false:=by simp [e8]
 have E8:=Lib.hid e8
 clear e8
 by_cases e9:x.make.length=y.make.length
 rotate_left
 ·have q9:((x.make.length:Int) == (y.make.length:Int))=false:=by rw [beq_eq_false_iff_ne];omega
  have r9:((x.make.length:Int) != (y.make.length:Int))=true:=by rw [bne_iff_ne];omega
  have HNE:=Lib.hid (show ¬ x=y from fun e=>e9 (by rw [e]))
  clear e9
  go_wp2
  go_ret
  exact ⟨by rw [decide_eq_false HNE.out];rfl,HFIN.out wb (Below.refl _ _)⟩
 have q9:((x.make.length:Int) == (y.make.length:Int))=true:=by rw [beq_iff_eq];omega
 have r9:((x.make.length:Int) != (y.make.length:Int))=false:=by simp [e9]
 have E9:=Lib.hid e9
 clear e9
 obtain ⟨na,hna⟩:∃ n,x.after.length=n:=⟨_,rfl⟩
 obtain ⟨nm,hnm⟩:∃ n,x.make.length=n:=⟨_,rfl⟩
 have hna':y.after.length=na:=by rw [←hna];exact E8.out.symm
 have hnm':y.make.length=nm:=by rw [←hnm];exact E9.out.symm
 have Na:=Lib.hid hna
 have Ma:=Lib.hid hna'
 have Nm:=Lib.hid hnm
 have Mm:=Lib.hid hnm'
 rw [hna,hna'] at q8 r8
 rw [hnm,hnm'] at q9 r9
 rw [hna] at c4 HCX la
 rw [hnm] at c9 HCX lm
 rw [hna'] at d4 HCY la'
 rw [hnm'] at d9 HCY lm'
 rw [hna,hna',hnm,hnm']
 clear hna hnm hna' hnm'
 go_wp2
 go_loopw [5] (fun s5 wr=>∃ k:Nat,s5=.int .i64 (k:Int)∧k≤na∧Aside (x.after.take k=y.after.take k∧Below wb.heap.size wb wr)) (fun s5 _=>na - (intOf s5).toNat)
 case atStart=>exact ⟨0,rfl,Nat.zero_le _,by show x.after.take 0=y.after.take 0;simp,Below.refl _ _⟩
 case round =>
  obtain ⟨k,rfl,hk,hnx,hb⟩:=hrel
  have HX:=Lib.hid (show x.after.take k=y.after.take k from hnx)
  have HB:=Lib.hid (show Below wb.heap.size wb wr from hb)
  clear hnx hb
  obtain ⟨c0,c1,c2,c3,c4,c5,c6,c7,c8,c9,c10,c11,clt⟩:=HCX.out _ HB.out
  obtain ⟨d0,d1,d2,d3,d4,d5,d6,d7,d8,d9,d10,d11,dlt⟩:=HCY.out _ HB.out
  dsimp only at c0 c1 c2 c3 c4 c5 c6 c7 c8 c9 c10 c11 d0 d1 d2 d3 d4 d5 d6 d7 d8 d9 d10 d11
  by_cases hkn:k < na
  ·obtain ⟨b,off,hp,hbl,hc⟩:=RdC.at_ (size:=2) ((HS.out _ HB.out).1) rfl (by rw [Na.out];omega)
   obtain ⟨b',off',hp',hbl',hc'⟩:=RdC.at_ (size:=2) ((HS.out _ HB.out).2.2.1) rfl (by rw [Ma.out];omega)
   subst hp hp'
   obtain ⟨a,ha⟩:∃ a,x.after[k]?=some a:=⟨_,List.getElem?_eq_getElem (by rw [Na.out];exact hkn)⟩
   obtain ⟨z,hz⟩:∃ z,y.after[k]?=some z:=⟨_,List.getElem?_eq_getElem (by rw [Ma.out];exact hkn)⟩
   have uk0:wr.cell? ⟨b,off+k * 2,none⟩=some (.int .i64 a.1):=by
    have:=hc.elt (f:=cA) (k:=2) (fun _=>rfl) (j:=0) ha (by decide) rfl
    first | exact this | (rw [←Nat.add_assoc] at this;exact this)
   have uk1:wr.cell? ⟨b,off+k * 2+1,none⟩=some (.bool a.2):=by
    have:=hc.elt (f:=cA) (k:=2) (fun _=>rfl) (j:=1) ha (by decide) rfl
    first | exact this | (rw [←Nat.add_assoc] at this;exact this)
   have vk0:wr.cell? ⟨b',off'+k * 2,none⟩=some (.int .i64 z.1):=by
    have:=hc'.elt (f:=cA) (k:=2) (fun _=>rfl) (j:=0) hz (by decide) rfl
    first | exact this | (rw [←Nat.add_assoc] at this;exact this)
   have vk1:wr.cell? ⟨b',off'+k * 2+1,none⟩=some (.bool z.2):=by
    have:=hc'.elt (f:=cA) (k:=2) (fun _=>rfl) (j:=1) hz (by decide) rfl
    first | exact this | (rw [←Nat.add_assoc] at this;exact this)
   have HY:=Lib.hid (And.intro ha hz)
   clear hc hc' ha hz
   by_cases he:a=z
   ·have HM:=Lib.hid (take_same HY.out.1 HY.out.2 he HX.out)
    have q20:∀ W,(binOp .neq 88 (.agg #[.int .i64 a.1,.bool a.2]) (.agg #[.int .i64 z.1,.bool z.2])).run Tryz.prog W=.ok (.bool false) W:=fun W=>(dep_ne a z W).trans (by rw [decide_eq_true he];rfl)
    clear he
    go_wp2_with (go_quiet (fail))
    go_roundw
    case rel=>exact ⟨k+1,by go_num,by omega,HM.out,HB.out.trans ((Joins.below_draws _ _ _).mono HB.out.size)⟩
    case measure=>simp [intOf];omega
   ·have HM:=Lib.hid (ne_at HY.out.1 HY.out.2 he)
    have q20:∀ W,(binOp .neq 88 (.agg #[.int .i64 a.1,.bool a.2]) (.agg #[.int .i64 z.1,.bool z.2])).run Tryz.prog W=.ok (.bool true) W:=fun W=>(dep_ne a z W).trans (by rw [decide_eq_false he];rfl)
    have HNE:=Lib.hid (show ¬ x=y from fun e=>HM.out (by rw [e]))
    clear he
    go_wp2_with (go_quiet (fail))
    go_ret
    exact ⟨by rw [decide_eq_false HNE.out];rfl,HFIN.out _ (HB.out.trans ((Joins.below_draws _ _ _).mono HB.out.size))⟩
  ·obtain rfl:k=na:=by omega
   have HQa:=Lib.hid (show x.after=y.after by
    have:=HX.out
    rwa [List.take_of_length_le (by rw [Na.out];exact Nat.le_refl _),List.take_of_length_le (by rw [Ma.out];exact Nat.le_refl _)] at this)
   clear HX
   go_wp2
   clear c0 c1 c2 c3 c4 c5 c6 c7 c8 c9 c10 c11 clt d0 d1 d2 d3 d4 d5 d6 d7 d8 d9 d10 d11 dlt
   go_loopw [6] (fun s5 wr=>∃ k:Nat,s5=.int .i64 (k:Int)∧k≤nm∧Aside (x.make.take k=y.make.take k∧Below wb.heap.size wb wr)) (fun s5 _=>nm - (intOf s5).toNat)
   case atStart=>exact ⟨0,rfl,Nat.zero_le _,by show x.make.take 0=y.make.take 0;simp,HB.out⟩
   case round =>
    obtain ⟨k,rfl,hk,hnx,hb⟩:=hrel
    have HX:=Lib.hid (show x.make.take k=y.make.take k from hnx)
    have HB:=Lib.hid (show Below wb.heap.size wb wr from hb)
    clear hnx hb
    obtain ⟨c0,c1,c2,c3,c4,c5,c6,c7,c8,c9,c10,c11,clt⟩:=HCX.out _ HB.out
    obtain ⟨d0,d1,d2,d3,d4,d5,d6,d7,d8,d9,d10,d11,dlt⟩:=HCY.out _ HB.out
    dsimp only at c0 c1 c2 c3 c4 c5 c6 c7 c8 c9 c10 c11 d0 d1 d2 d3 d4 d5 d6 d7 d8 d9 d10 d11
    by_cases hkn:k < nm
    ·obtain ⟨b,off,hp,hbl,hc⟩:=RdC.at_ (size:=5) ((HS.out _ HB.out).2.1) rfl (by rw [Nm.out];omega)
     obtain ⟨b',off',hp',hbl',hc'⟩:=RdC.at_ (size:=5) ((HS.out _ HB.out).2.2.2) rfl (by rw [Mm.out];omega)
     subst hp hp'
     obtain ⟨a,ha⟩:∃ a,x.make[k]?=some a:=⟨_,List.getElem?_eq_getElem (by rw [Nm.out];exact hkn)⟩
     obtain ⟨z,hz⟩:∃ z,y.make[k]?=some z:=⟨_,List.getElem?_eq_getElem (by rw [Mm.out];exact hkn)⟩
     have uk0:wr.cell? ⟨b,off+k * 5,none⟩=some (.int .u8 (a.kind:Nat)):=by
      have:=hc.elt (f:=cM) (k:=5) (fun _=>rfl) (j:=0) ha (by decide) rfl
      first | exact this | (rw [←Nat.add_assoc] at this;exact this)
     have uk1:wr.cell? ⟨b,off+k * 5+1,none⟩=some (.string (str a.name)):=by
      have:=hc.elt (f:=cM) (k:=5) (fun _=>rfl) (j:=1) ha (by decide) rfl
      first | exact this | (rw [←Nat.add_assoc] at this;exact this)
     have uk2:wr.cell? ⟨b,off+k * 5+2,none⟩=some (.string (str a.pool)):=by
      have:=hc.elt (f:=cM) (k:=5) (fun _=>rfl) (j:=2) ha (by decide) rfl
      first | exact this | (rw [←Nat.add_assoc] at this;exact this)
     have uk3:wr.cell? ⟨b,off+k * 5+3,none⟩=some (.int .i64 a.size):=by
      have:=hc.elt (f:=cM) (k:=5) (fun _=>rfl) (j:=3) ha (by decide) rfl
      first | exact this | (rw [←Nat.add_assoc] at this;exact this)
     have uk4:wr.cell? ⟨b,off+k * 5+4,none⟩=some (.bool a.opn):=by
      have:=hc.elt (f:=cM) (k:=5) (fun _=>rfl) (j:=4) ha (by decide) rfl
      first | exact this | (rw [←Nat.add_assoc] at this;exact this)
     have vk0:wr.cell? ⟨b',off'+k * 5,none⟩=some (.int .u8 (z.kind:Nat)):=by
      have:=hc'.elt (f:=cM) (k:=5) (fun _=>rfl) (j:=0) hz (by decide) rfl
      first | exact this | (rw [←Nat.add_assoc] at this;exact this)
     have vk1:wr.cell? ⟨b',off'+k * 5+1,none⟩=some (.string (str z.name)):=by
      have:=hc'.elt (f:=cM) (k:=5) (fun _=>rfl) (j:=1) hz (by decide) rfl
      first | exact this | (rw [←Nat.add_assoc] at this;exact this)
     have vk2:wr.cell? ⟨b',off'+k * 5+2,none⟩=some (.string (str z.pool)):=by
      have:=hc'.elt (f:=cM) (k:=5) (fun _=>rfl) (j:=2) hz (by decide) rfl
      first | exact this | (rw [←Nat.add_assoc] at this;exact this)
     have vk3:wr.cell? ⟨b',off'+k * 5+3,none⟩=some (.int .i64 z.size):=by
      have:=hc'.elt (f:=cM) (k:=5) (fun _=>rfl) (j:=3) hz (by decide) rfl
      first | exact this | (rw [←Nat.add_assoc] at this;exact this)
     have vk4:wr.cell? ⟨b',off'+k * 5+4,none⟩=some (.bool z.opn):=by
      have:=hc'.elt (f:=cM) (k:=5) (fun _=>rfl) (j:=4) hz (by decide) rfl
      first | exact this | (rw [←Nat.add_assoc] at this;exact this)
     have HY:=Lib.hid (And.intro ha hz)
     clear hc hc' ha hz
     by_cases he:a=z
     ·have HM:=Lib.hid (take_same HY.out.1 HY.out.2 he HX.out)
      have q20:∀ W,(binOp .neq 80 (.agg #[.int .u8 (a.kind:Nat),.string (str a.name),.string (str a.pool),.int .i64 a.size,.bool a.opn]) (.agg #[.int .u8 (z.kind:Nat),.string (str z.name),.string (str z.pool),.int .i64 z.size,.bool z.opn])).run Tryz.prog W=.ok (.bool false) W:=fun W=>(dir_ne a z W).trans (by rw [decide_eq_true he];rfl)
      clear he
      go_wp2_with (go_quiet (fail))
      go_roundw
      case rel=>exact ⟨k+1,by go_num,by omega,HM.out,HB.out.trans ((Joins.below_draws _ _ _).mono HB.out.size)⟩
      case measure=>simp [intOf];omega
     ·have HM:=Lib.hid (ne_at HY.out.1 HY.out.2 he)
      have q20:∀ W,(binOp .neq 80 (.agg #[.int .u8 (a.kind:Nat),.string (str a.name),.string (str a.pool),.int .i64 a.size,.bool a.opn]) (.agg #[.int .u8 (z.kind:Nat),.string (str z.name),.string (str z.pool),.int .i64 z.size,.bool z.opn])).run Tryz.prog W=.ok (.bool true) W:=fun W=>(dir_ne a z W).trans (by rw [decide_eq_false he];rfl)
      have HNE:=Lib.hid (show ¬ x=y from fun e=>HM.out (by rw [e]))
      clear he
      go_wp2_with (go_quiet (fail))
      go_ret
      exact ⟨by rw [decide_eq_false HNE.out];rfl,HFIN.out _ (HB.out.trans ((Joins.below_draws _ _ _).mono HB.out.size))⟩
    ·obtain rfl:k=nm:=by omega
     have HQm:=Lib.hid (show x.make=y.make by
      have:=HX.out
      rwa [List.take_of_length_le (by rw [Nm.out];exact Nat.le_refl _),List.take_of_length_le (by rw [Mm.out];exact Nat.le_refl _)] at this)
     clear HX
     by_cases e10:x.drop=y.drop
     rotate_left
     ·rw [decide_eq_false e10] at H3
      have HNE:=Lib.hid (show ¬ x=y from fun e=>e10 (by rw [e]))
      clear e10
      go_wp2_with (go_at_call 47;((with_reducible refine (H3.out _ HB.out).mono ?_);rintro e w3 ⟨rfl,hb⟩);have A3:=Lib.hid (show Below wb.heap.size wb w3 from HB.out.trans (hb.mono HB.out.size));obtain ⟨c0,c1,c2,c3,c4,c5,c6,c7,c8,c9,c10,c11,clt⟩:=HCX.out _ A3.out;obtain ⟨d0,d1,d2,d3,d4,d5,d6,d7,d8,d9,d10,d11,dlt⟩:=HCY.out _ A3.out;dsimp only at c0 c1 c2 c3 c4 c5 c6 c7 c8 c9 c10 c11 d0 d1 d2 d3 d4 d5 d6 d7 d8 d9 d10 d11;clear hb)
      go_ret
      exact ⟨by rw [decide_eq_false HNE.out];rfl,HFIN.out _ A3.out⟩
     by_cases e11:x.use=y.use
     rotate_left
     ·rw [decide_eq_true e10] at H3
      rw [decide_eq_false e11] at H4
      have HNE:=Lib.hid (show ¬ x=y from fun e=>e11 (by rw [e]))
      clear e10 e11
      go_wp2_with (first
       | (go_at_call 47;((with_reducible refine (H3.out _ HB.out).mono ?_);rintro e w3 ⟨rfl,hb⟩);have A3:=Lib.hid (show Below wb.heap.size wb w3 from HB.out.trans (hb.mono HB.out.size));obtain ⟨c0,c1,c2,c3,c4,c5,c6,c7,c8,c9,c10,c11,clt⟩:=HCX.out _ A3.out;obtain ⟨d0,d1,d2,d3,d4,d5,d6,d7,d8,d9,d10,d11,dlt⟩:=HCY.out _ A3.out;dsimp only at c0 c1 c2 c3 c4 c5 c6 c7 c8 c9 c10 c11 d0 d1 d2 d3 d4 d5 d6 d7 d8 d9 d10 d11;clear hb)
       | (go_at_call 47;((with_reducible refine (H4.out _ A3.out).mono ?_);rintro e w4 ⟨rfl,hb⟩);have A4:=Lib.hid (show Below wb.heap.size wb w4 from A3.out.trans (hb.mono A3.out.size));clear hb))
      go_ret
      exact ⟨by rw [decide_eq_false HNE.out];rfl,HFIN.out _ A4.out⟩
     have HEQ:=Lib.hid (slip_ext E0.out E1.out E2.out E3.out HQa.out E4.out E5.out E6.out E7.out HQm.out e10 e11)
     rw [decide_eq_true e10] at H3
     rw [decide_eq_true e11] at H4
     clear e10 e11
     go_wp2_with (first
      | (go_at_call 47;((with_reducible refine (H3.out _ HB.out).mono ?_);rintro e w3 ⟨rfl,hb⟩);have A3:=Lib.hid (show Below wb.heap.size wb w3 from HB.out.trans (hb.mono HB.out.size));obtain ⟨c0,c1,c2,c3,c4,c5,c6,c7,c8,c9,c10,c11,clt⟩:=HCX.out _ A3.out;obtain ⟨d0,d1,d2,d3,d4,d5,d6,d7,d8,d9,d10,d11,dlt⟩:=HCY.out _ A3.out;dsimp only at c0 c1 c2 c3 c4 c5 c6 c7 c8 c9 c10 c11 d0 d1 d2 d3 d4 d5 d6 d7 d8 d9 d10 d11;clear hb)
      | (go_at_call 47;((with_reducible refine (H4.out _ A3.out).mono ?_);rintro e w4 ⟨rfl,hb⟩);have A4:=Lib.hid (show Below wb.heap.size wb w4 from A3.out.trans (hb.mono A3.out.size));clear hb))
     go_ret
     exact ⟨by rw [decide_eq_true HEQ.out];rfl,HFIN.out _ A4.out⟩
end Go.Proofs.YtekcjfdllclphaaGreatDoor.gn
end
