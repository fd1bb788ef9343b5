/- The contract of directives. -/
import Derived.Test.YtekcjfdllclphaaGreatDoorMQbOrO
import Derived.Deep.DeepCutAuto
set_option linter.unusedVariables false
set_option linter.unusedSimpArgs false
section
namespace Go.Proofs.YtekcjfdllclphaaGreatDoor.gn
open Go.RowKit
open Go.Proofs.YtekcjfdllclphaaGreatDoor.un
open Go.Proofs.YtekcjfdllclphaaGreatDoor.di
open Go.Proofs.YtekcjfdllclphaaGreatDoor.sp (Slip shortP soundP waitsP storedP apartP dirsP dropD useD capD innD outD chkS chkS_P)
structure DSt (w wb:World) (l:List Dir) (v:Value) (W:World):Prop where
 own:W.ownsRow (w.heap.size+1) 80 5 v l.length (flM l)
 low:Below (w.heap.size+1) wb W
 hz:w.heap.size+1≤wb.heap.size
theorem DSt.next {w wb W W':World} {l:List Dir} {v:Value} (h:DSt w wb l v W) (hb:Below W.heap.size W W'):DSt w wb l v W' :=
 ⟨World.ownsRow.kept h.own (grown_new hb) (by cases hv:v.ownBlock <;> simp),h.low.trans (hb.mono (Nat.le_trans h.hz h.low.size)),h.hz⟩
theorem flM_one' (l:Dir):∀ u∈cM l,u.oneCell'=true:=fun u hu=>by
 simp only [cM,List.mem_cons,List.not_mem_nil,or_false] at hu
 rcases hu with rfl | rfl | rfl | rfl | rfl <;> rfl
theorem row_cells' (w:World) (cs:List Value) (t:TypeId):∀ j u,cs[j]?=some u→(w.alloc (.cells cs.toArray t)).cell? ((⟨w.heap.size,0,none⟩:Addr).add j)=some u:=fun j u hu=>by
 rw [Addr.add_lit,World.cell?_alloc_mark]
 simpa using hu
theorem wpl_dir {ops:Array Oper} {rest:List Oper} {o:Oper} {a:Act} {w wb W:World} {Q:Exit→Act→World→Prop} (hgd:o.guard=none) (s x:Operand)
  (ho:o.op=.call { callee:=.builtin .append,args:=#[s,x],argTypes:=#[24,24] }) {l:List Dir} {v:Value} (h:DSt w wb l v W) (hl:l.length≤1000) (d:Dir)
  (hs:a.eval s=v) (hx:a.eval x=.slice (some ⟨W.heap.size,0,none⟩) 1 1)
  (hK:∀ g c w' n,n=l.length+1→DSt w wb (l++[d]) (.slice (some ⟨g,0,none⟩) n c) w'→wpList Tryz.prog ops Q rest (a.put o.dst (.slice (some ⟨g,0,none⟩) n c)) w') :
  wpList Tryz.prog ops Q (o::rest) a (W.alloc (.cells #[.int .u8 (d.kind:Nat),.string (str d.name),.string (str d.pool),.int .i64 d.size,.bool d.opn] 80)):=by
 have hb:Below W.heap.size W (W.alloc (.cells #[.int .u8 (d.kind:Nat),.string (str d.name),.string (str d.pool),.int .i64 d.size,.bool d.opn] 80)):=(Below.refl _ _).alloc (Nat.le_refl _) _
 have h2:=h.next hb
 refine wpl_app eltM hgd s x ho (base:=w.heap.size+1) (n:=l.length) hs h2.own ⟨W.heap.size,0,none⟩ (cM d) hx (row_cells' W (cM d) 80) rfl (flM_one' d) (by omega) (by decide) (Nat.le_trans h2.hz h2.low.size) fun g c w' r1 r2=>hK g c w' _ rfl ⟨?_,h2.low.trans r2,h.hz⟩
 rw [List.length_append,flM_app]
 have e:flM [d]=cM d:=by simp [flM]
 rw [e]
 exact r1
theorem cap_few (x:Slip):(capD x).length≤1:=by unfold capD;split <;> simp
theorem inn_few (x:Slip):(innD x).length≤1:=by unfold innD;split <;> simp
theorem out_few (x:Slip):(outD x).length≤1:=by unfold outD;split <;> simp
theorem low_next {w wb W:World} (h1:Below w.heap.size w wb) (h2:Below (w.heap.size+1) wb W):Below w.heap.size w W:=h1.trans (h2.mono (Nat.le_succ _))
set_option maxRecDepth 100000 in
set_option maxHeartbeats 8000000 in
theorem directives_any (x:Slip) (g:Gh) (w:World) (h:SR w x g) (hm:x.make.length≤100) (hd:x.drop.length≤100) (hu:x.use.length≤100) :
  Calls Tryz.prog 52 #[sV x g] w fun e w'=>∃ v,e=.returned v∧w'.ownsRow w.heap.size 80 5 v (dirsP x).length (flM (dirsP x))∧Below w.heap.size w w':=by
 obtain ⟨va,vm,vd,vu⟩:=g
 obtain ⟨pm,cm,em,lm1,lm2⟩:=h.cm
 obtain ⟨pd,cd,ed,ld1,ld2⟩:=h.cd
 obtain ⟨pu,cu,eu,lu1,lu2⟩:=h.cu
 dsimp only at em ed eu
 subst em ed eu
 have HM:=Lib.hid h.m
 have HD:=Lib.hid h.d
 have HU:=Lib.hid h.u
 dsimp only at HM HD HU
 clear h lm1 lm2 ld1 ld2 lu1 lu2
 unfold sV scs
 dsimp only
 obtain ⟨us,nodes,wall,qos,after,cap,inn,out,pool,mk,dr,use⟩:=x
 dsimp only at HM HD HU hm hd hu ⊢
 obtain ⟨nm,hnm⟩:∃ n,mk.length=n:=⟨_,rfl⟩
 obtain ⟨nd,hnd⟩:∃ n,dr.length=n:=⟨_,rfl⟩
 obtain ⟨nu,hnu⟩:∃ n,use.length=n:=⟨_,rfl⟩
 rw [hnm] at hm HM
 rw [hnd] at hd HD
 rw [hnu] at hu HU
 rw [hnm,hnd,hnu]
 have HNM:=Lib.hid hnm
 have HND:=Lib.hid hnd
 have HNU:=Lib.hid hnu
 generalize str us=sus at *
 obtain ⟨xx,hxx⟩:∃ xx:Slip,xx=⟨us,nodes,wall,qos,after,cap,inn,out,pool,mk,dr,use⟩:=⟨_,rfl⟩
 rw [←hxx]
 have HXX:=Lib.hid hxx
 clear hnm hnd hnu hxx
 obtain ⟨wb,hwb⟩:∃ wb,w.alloc (.cells #[.string sus,.int .i64 nodes,.int .i64 wall,.int .i64 qos,va,.int .i64 cap,.int .i64 inn,.int .i64 out,.string (str pool),.slice pm nm cm,.slice pd nd cd,.slice pu nu cu] 27)=wb:=⟨_,rfl⟩
 have hbx:BoxA wb w.heap.size 27 #[.string sus,.int .i64 nodes,.int .i64 wall,.int .i64 qos,va,.int .i64 cap,.int .i64 inn,.int .i64 out,.string (str pool),.slice pm nm cm,.slice pd nd cd,.slice pu nu cu]:=by rw [←hwb];exact BoxA.new _ _ _
 have hB1:Below w.heap.size w wb:=by rw [←hwb];exact (Below.refl _ _).alloc (Nat.le_refl _) _
 have hzb:wb.heap.size=w.heap.size+1:=by rw [←hwb];simp
 have HS0:=Lib.hid (show DSt w wb [] (.slice none 0 0) wb from ⟨World.ownsRow_nil _ _ _ _,Below.refl _ _,by omega⟩)
 have HBX:=Lib.hid hbx
 have HB1:=Lib.hid hB1
 have HWB:=Lib.hid hwb
 have hlt:=hbx.lt
 have cellAt:=Lib.hid (fun (W:World) (hb:Below (w.heap.size+1) wb W)=>(show BoxA W w.heap.size 27 #[.string sus,.int .i64 nodes,.int .i64 wall,.int .i64 qos,va,.int .i64 cap,.int .i64 inn,.int .i64 out,.string (str pool),.slice pm nm cm,.slice pd nd cd,.slice pu nu cu] from (hb.block _ (Nat.lt_succ_self _)).trans hbx))
 have c5:=hbx.cell 5 _
 have c8:=hbx.cell 8 _
 clear hbx hB1 hwb hzb
 go_enter Tryz.func52,Tryz.ntmps52
 go_upto_region 2 with fail
 rw [HWB.out]
 go_cut [15] (fun s15 wx=>s15=.bool (decide (cap≠0∨pool≠[]))∧wb=wx)
 case first =>
  by_cases h1:cap=0
  ·have q1:(cap != 0)=false:=by rw [h1];rfl
   by_cases h2:pool=[]
   ·obtain ⟨q2,q3⟩:=lit_yes h2
    have HR:=Lib.hid (show decide (cap≠0∨pool≠[])=false by simp [h1,h2])
    clear h1 h2
    go_wp2
    go_meet
    case rel=>exact ⟨by rw [HR.out],rfl⟩
   ·obtain ⟨q2,q3⟩:=lit_no h2
    have HR:=Lib.hid (show decide (cap≠0∨pool≠[])=true by simp [h2])
    clear h1 h2
    go_wp2
    go_meet
    case rel=>exact ⟨by rw [HR.out],rfl⟩
  ·have q1:(cap != 0)=true:=by simp [h1]
   have HR:=Lib.hid (show decide (cap≠0∨pool≠[])=true by simp [h1])
   clear h1
   go_wp2
   go_meet
   case rel=>exact ⟨by rw [HR.out],rfl⟩
 case rest =>
  obtain ⟨rfl,rfl⟩:=hcut
  go_upto_if 15 with fail
  go_cut [3] (fun s3 wx=>∃ v3,s3=v3∧Aside (DSt w wb (capD xx) v3 wx))
  case first =>
   by_cases h1:cap≠0∨pool≠[]
   ·have HR:=Lib.hid (show capD xx=[⟨1,[],pool,cap,false⟩] by rw [HXX.out];unfold capD;dsimp only;rw [if_pos h1])
    rw [decide_eq_true h1]
    clear h1
    go_wp2_with (at_builtin;refine wpl_dir rfl _ _ rfl HS0.out (Nat.zero_le _) ⟨1,[],pool,cap,false⟩ rfl rfl ?_;intro gb cb w6 n6 hn6 h1;have H6:=Lib.hid h1;clear h1 hn6)
    go_meet
    case rel=>exact ⟨_,rfl,show DSt w wb _ _ _ by rw [HR.out];exact H6.out⟩
   ·have HR:=Lib.hid (show capD xx=[] by rw [HXX.out];unfold capD;dsimp only;rw [if_neg h1])
    rw [decide_eq_false h1]
    clear h1
    go_wp2
    go_meet
    case rel=>exact ⟨_,rfl,show DSt w wb _ _ _ by rw [HR.out];exact HS0.out⟩
  case rest =>
  obtain ⟨v1,hv1,hcut⟩:=hcut
  replace hv1:=hv1.symm
  subst hv1
  have H1:=Lib.hid (show DSt w wb (capD xx) v1 wc from hcut)
  clear hcut c5 c8
  have c6:=(cellAt.out _ H1.out.low).cell 6 _
  have hl6:=(cellAt.out _ H1.out.low).lt
  go_upto_if 26 with fail
  go_cut [3] (fun s3 wx=>∃ v3,s3=v3∧Aside (DSt w wb (capD xx++innD xx) v3 wx))
  case first =>
   by_cases h1:inn=0
   ·have q1:(inn != 0)=false:=by rw [h1];rfl
    have HR:=Lib.hid (show innD xx=[] by rw [HXX.out];unfold innD;dsimp only;rw [if_neg (by simp [h1])])
    clear h1
    go_wp2
    go_meet
    case rel=>exact ⟨_,rfl,show DSt w wb _ _ _ by rw [HR.out,List.append_nil];exact H1.out⟩
   ·have q1:(inn != 0)=true:=by simp [h1]
    have HR:=Lib.hid (show innD xx=[⟨2,[],[],inn,false⟩] by rw [HXX.out];unfold innD;dsimp only;rw [if_pos h1])
    clear h1
    go_wp2_with (at_builtin;refine wpl_dir rfl _ _ rfl H1.out (Nat.le_trans (cap_few xx) (by decide)) ⟨2,[],[],inn,false⟩ rfl rfl ?_;intro gb cb w6 n6 hn6 h1;have H6:=Lib.hid h1;clear h1 hn6)
    go_meet
    case rel=>exact ⟨_,rfl,show DSt w wb _ _ _ by rw [HR.out];exact H6.out⟩
  case rest =>
  obtain ⟨v2,hv2,hcut⟩:=hcut
  replace hv2:=hv2.symm
  subst hv2
  have H2:=Lib.hid (show DSt w wb (capD xx++innD xx) v2 wc from hcut)
  clear hcut
  have c7:=(cellAt.out _ H2.out.low).cell 7 _
  have hl7:=(cellAt.out _ H2.out.low).lt
  go_upto_if 35 with fail
  go_cut [3] (fun s3 wx=>∃ v3,s3=v3∧Aside (DSt w wb (capD xx++innD xx++outD xx) v3 wx))
  case first =>
   by_cases h1:out=0
   ·have q1:(out != 0)=false:=by rw [h1];rfl
    have HR:=Lib.hid (show outD xx=[] by rw [HXX.out];unfold outD;dsimp only;rw [if_neg (by simp [h1])])
    clear h1
    go_wp2
    go_meet
    case rel=>exact ⟨_,rfl,show DSt w wb _ _ _ by rw [HR.out,List.append_nil];exact H2.out⟩
   ·have q1:(out != 0)=true:=by simp [h1]
    have HR:=Lib.hid (show outD xx=[⟨3,[],[],out,false⟩] by rw [HXX.out];unfold outD;dsimp only;rw [if_pos h1])
    clear h1
    go_wp2_with (at_builtin;refine wpl_dir rfl _ _ rfl H2.out (by rw [List.length_append];have:=cap_few xx;have:=inn_few xx;omega) ⟨3,[],[],out,false⟩ rfl rfl ?_;intro gb cb w6 n6 hn6 h1;have H6:=Lib.hid h1;clear h1 hn6)
    go_meet
    case rel=>exact ⟨_,rfl,show DSt w wb _ _ _ by rw [HR.out];exact H6.out⟩
  case rest =>
  obtain ⟨v3,hv3,hcut⟩:=hcut
  replace hv3:=hv3.symm
  subst hv3
  have H3:=Lib.hid (show DSt w wb (capD xx++innD xx++outD xx) v3 wc from hcut)
  clear hcut
  obtain ⟨L3,hL3⟩:∃ L3,capD xx++innD xx++outD xx=L3:=⟨_,rfl⟩
  have hF3:L3.length≤3:=by rw [←hL3];have:=cap_few xx;have:=inn_few xx;have:=out_few xx;simp only [List.length_append];omega
  rw [hL3] at H3
  have HL3:=Lib.hid hL3
  obtain ⟨n3,hn3⟩:∃ n,L3.length=n:=⟨_,rfl⟩
  have HN3:=Lib.hid hn3
  have HF3:=Lib.hid (show n3≤3∧L3.length≤3 from ⟨by rw [←hn3];exact hF3,hF3⟩)
  have HO8:=Lib.hid (show wc.ownsRow (w.heap.size+1) 80 5 v3 n3 (flM L3) by rw [←hn3];exact H3.out.own)
  clear hL3 hF3 hn3
  have c9:=(cellAt.out _ H3.out.low).cell 9 _
  have hl9:=(cellAt.out _ H3.out.low).lt
  have HR8:=Lib.hid (show RdC wc (.slice pm nm cm) nm (flM mk) from HM.out.next (low_next HB1.out H3.out.low))
  have HM8:=Lib.hid (show (flM mk).length=nm * 5 by rw [flM_len,HNM.out])
  have HL8:=Lib.hid (show n3+nm≤1000000 by have:=HF3.out;omega)
  have HZ8:=Lib.hid (Nat.le_trans H3.out.hz H3.out.low.size)
  go_upto_region 9 with (at_builtin;go_loud (refine wpl_ow eltM rfl _ _ rfl (base:=w.heap.size+1) (n:=n3) (cs:=flM (L3)) (v:=v3) rfl HO8.out rfl HR8.out HM8.out (flM_one mk) HL8.out (by decide) HZ8.out ?_;intro p6 k6 w6 h1 h2;have H4:=Lib.hid (show DSt w wb (L3++mk) (.slice p6 (n3+nm) k6) w6 from ⟨by rw [List.length_append,flM_app,HNM.out,HN3.out];exact h1,H3.out.low.trans h2,H3.out.hz⟩);clear h1 h2))
  clear c9 HR8
  have c10:=(cellAt.out _ H4.out.low).cell 10 _
  have hl10:=(cellAt.out _ H4.out.low).lt
  have hbd10:(L3++mk).length≤800:=by
   have:=HF3.out;have:=HNM.out;have:=HND.out
   simp only [List.length_append,List.length_map];omega
  have HT10:=Lib.hid hbd10
  clear hbd10
  go_upto_region 10 with fail
  go_loopw [3,49] (fun s3 si W=>∃ (k:Nat) (v3:Value),s3=v3∧si=.int .i64 k∧k≤nd∧Aside (DSt w wb (L3++mk++(dr.take k).map dropD) v3 W)) (fun _ si _=>nd - (intOf si).toNat)
  case atStart=>exact ⟨0,_,rfl,rfl,Nat.zero_le _,show DSt w wb _ _ _ by rw [List.take_zero,List.map_nil,List.append_nil];exact H4.out⟩
  case round =>
   obtain ⟨k,v3,h3,rfl,hk,hst⟩:=hrel
   replace h3:=h3.symm
   subst h3
   have HS:=Lib.hid (show DSt w wb (L3++mk++(dr.take k).map dropD) v3 wr from hst)
   clear hst
   by_cases hkn:k < nd
   ·obtain ⟨b,off,hp,hb,hc⟩:=(HD.out.next (low_next HB1.out HS.out.low)).at_ (size:=1) rfl (by omega)
    subst hp
    obtain ⟨y,hy⟩:∃ y,dr[k]?=some y:=⟨_,List.getElem?_eq_getElem (by rw [HND.out];exact hkn)⟩
    have c0:wr.cell? ⟨b,off+k,none⟩=some (.string (str y)):=by
     have:=hc.elt (f:=cS) (k:=1) (fun _=>rfl) (j:=0) hy (by decide) rfl
     rwa [Nat.mul_one,Nat.add_zero] at this
    have HT:=Lib.hid (take_snoc hy)
    have HLN:=Lib.hid (show (L3++mk++(dr.take k).map dropD).length≤1000 by rw [List.length_append,List.length_map,List.length_take];have:=HT10.out;omega)
    clear hc hy
    go_wp2_with (at_builtin;refine wpl_dir rfl _ _ rfl HS.out HLN.out (dropD y) rfl rfl ?_;intro gb cb w6 n6 hn6 h1;have H6:=Lib.hid h1;clear h1 hn6)
    go_roundw
    case rel=>exact ⟨k+1,_,rfl,by go_num,by omega,show DSt w wb _ _ _ by rw [HT.out,List.map_append,← List.append_assoc];exact H6.out⟩
    case measure=>simp [intOf];omega
   ·obtain rfl:k=nd:=by omega
    have H5:=Lib.hid (show DSt w wb (L3++mk++dr.map dropD) v3 wr by have:=HS.out;rwa [List.take_of_length_le (by rw [HND.out];exact Nat.le_refl _)] at this)
    clear HS hk hkn
    have c11:=(cellAt.out _ H5.out.low).cell 11 _
    have hl11:=(cellAt.out _ H5.out.low).lt
    have hbd11:(L3++mk++dr.map dropD).length≤800:=by
     have:=HF3.out;have:=HNM.out;have:=HND.out
     simp only [List.length_append,List.length_map];omega
    have HT11:=Lib.hid hbd11
    clear hbd11
    go_upto_region 15 with fail
    go_loopw [3,62] (fun s3 si W=>∃ (k:Nat) (v3:Value),s3=v3∧si=.int .i64 k∧k≤nu∧Aside (DSt w wb (L3++mk++dr.map dropD++(use.take k).map useD) v3 W)) (fun _ si _=>nu - (intOf si).toNat)
    case atStart=>exact ⟨0,_,rfl,rfl,Nat.zero_le _,show DSt w wb _ _ _ by rw [List.take_zero,List.map_nil,List.append_nil];exact H5.out⟩
    case round =>
     obtain ⟨k,v3,h3,rfl,hk,hst⟩:=hrel
     replace h3:=h3.symm
     subst h3
     have HS:=Lib.hid (show DSt w wb (L3++mk++dr.map dropD++(use.take k).map useD) v3 wr from hst)
     clear hst
     by_cases hkn:k < nu
     ·obtain ⟨b,off,hp,hb,hc⟩:=(HU.out.next (low_next HB1.out HS.out.low)).at_ (size:=1) rfl (by omega)
      subst hp
      obtain ⟨y,hy⟩:∃ y,use[k]?=some y:=⟨_,List.getElem?_eq_getElem (by rw [HNU.out];exact hkn)⟩
      have c0:wr.cell? ⟨b,off+k,none⟩=some (.string (str y)):=by
       have:=hc.elt (f:=cS) (k:=1) (fun _=>rfl) (j:=0) hy (by decide) rfl
       rwa [Nat.mul_one,Nat.add_zero] at this
      have HT:=Lib.hid (take_snoc hy)
      have HLN:=Lib.hid (show (L3++mk++dr.map dropD++(use.take k).map useD).length≤1000 by rw [List.length_append,List.length_map,List.length_take];have:=HT11.out;omega)
      clear hc hy
      go_wp2_with (at_builtin;refine wpl_dir rfl _ _ rfl HS.out HLN.out (useD y) rfl rfl ?_;intro gb cb w6 n6 hn6 h1;have H6:=Lib.hid h1;clear h1 hn6)
      go_roundw
      case rel=>exact ⟨k+1,_,rfl,by go_num,by omega,show DSt w wb _ _ _ by rw [HT.out,List.map_append,← List.append_assoc];exact H6.out⟩
      case measure=>simp [intOf];omega
     ·obtain rfl:k=nu:=by omega
      have H7:=Lib.hid (show DSt w wb (L3++mk++dr.map dropD++use.map useD) v3 wr by have:=HS.out;rwa [List.take_of_length_le (by rw [HNU.out];exact Nat.le_refl _)] at this)
      clear HS hk hkn
      go_wp2
      go_ret
      have e:L3++mk++dr.map dropD++use.map useD=dirsP xx:=by rw [←HL3.out];unfold dirsP;rw [HXX.out]
      refine ⟨_,rfl,?_,low_next HB1.out H7.out.low⟩
      rw [←e]
      have ho:=H7.out.own
      refine ⟨ho.1,?_⟩
      rcases ho.2 with h9 | ⟨q,cap,cur,r1,r2,r3⟩
      ·exact .inl h9
      ·exact .inr ⟨q,cap,cur,r1,Nat.le_of_succ_le r2,r3⟩
end Go.Proofs.YtekcjfdllclphaaGreatDoor.gn
end
