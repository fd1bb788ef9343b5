/- The contracts of stored, apart. -/
import Derived.Test.YtekcjfdllclphaaGreatDoorMQaSlJ
import Derived.Test.YtekcjfdllclphaaGreatDoorMQaSlF
import Derived.Test.YtekcjfdllclphaaGreatDoorMQaSlN
import Derived.Shelf.Abstract
import Derived.IntWalk
import Derived.OwnWalkIn
import Derived.TacticsInMore
import Derived.LoopNIn
import Derived.Outline
import Derived.LoopIn
import Derived.Sort.CutIn
section
set_option linter.unusedVariables false
set_option linter.unusedSimpArgs false
namespace Go.Proofs.YtekcjfdllclphaaGreatDoor.gn
open Go.RowKit
open Go.Proofs.YtekcjfdllclphaaGreatDoor.un
open Go.Proofs.YtekcjfdllclphaaGreatDoor.di
open Go.Proofs.YtekcjfdllclphaaGreatDoor.sp (Slip shortP soundP waitsP storedP apartP dirsP dropD useD capD innD outD chkS chkS_P)
theorem dirsP_DW {x:Slip} (h:SW x):∀ d∈dirsP x,DW d:=by
 intro d hd
 have e0:([]:Tx).length≤9223372036854775807:=by decide
 unfold dirsP capD innD outD at hd
 simp only [List.mem_append,List.mem_map] at hd
 rcases hd with ((((hd | hd) | hd) | hd) | ⟨n,hn,rfl⟩) | ⟨n,hn,rfl⟩
 ·split at hd
  ·simp at hd;subst hd;exact ⟨by show (1:Nat) < 256;decide,e0,h.pool,h.cap.1,h.cap.2⟩
  ·cases hd
 ·split at hd
  ·simp at hd;subst hd;exact ⟨by show (2:Nat) < 256;decide,e0,e0,h.inn.1,h.inn.2⟩
  ·cases hd
 ·split at hd
  ·simp at hd;subst hd;exact ⟨by show (3:Nat) < 256;decide,e0,e0,h.out.1,h.out.2⟩
  ·cases hd
 ·exact h.make d hd
 ·exact ⟨by show (5:Nat) < 256;decide,h.drop n hn,e0,by show (-9223372036854775808:Int)≤0;decide,by show (0:Int)≤9223372036854775807;decide⟩
 ·exact ⟨by show (6:Nat) < 256;decide,h.use n hn,e0,by show (-9223372036854775808:Int)≤0;decide,by show (0:Int)≤9223372036854775807;decide⟩
theorem dirsP_len (x:Slip) (hm:x.make.length≤100) (hd:x.drop.length≤100) (hu:x.use.length≤100):(dirsP x).length≤303:=by
 have:=cap_few x;have:=inn_few x;have:=out_few x
 unfold dirsP
 simp only [List.length_append,List.length_map]
 omega
theorem cellM {w:World} {b off:Nat} {l:List Dir} (h:CellsC w b off (flM l)) {k:Nat} {d:Dir} (hd:l[k]?=some d) :
  w.cell? ⟨b,off+k * 5,none⟩=some (.int .u8 (d.kind:Nat))∧w.cell? ⟨b,off+k * 5+1,none⟩=some (.string (str d.name))∧w.cell? ⟨b,off+k * 5+2,none⟩=some (.string (str d.pool))∧w.cell? ⟨b,off+k * 5+3,none⟩=some (.int .i64 d.size)∧w.cell? ⟨b,off+k * 5+4,none⟩=some (.bool d.opn):=by
 have key:=fun j u=>h.elt (f:=cM) (k:=5) (fun _=>rfl) (j:=j) (u:=u) hd
 refine ⟨key 0 _ (by decide) rfl,?_,?_,?_,?_⟩
 ·have:=key 1 _ (by decide) rfl;rwa [←Nat.add_assoc] at this
 ·have:=key 2 _ (by decide) rfl;rwa [←Nat.add_assoc] at this
 ·have:=key 3 _ (by decide) rfl;rwa [←Nat.add_assoc] at this
 ·have:=key 4 _ (by decide) rfl;rwa [←Nat.add_assoc] at this
set_option maxRecDepth 100000 in
set_option maxHeartbeats 8000000 in
theorem stored_any (x:Slip) (g:Gh) (w:World) (h:SR w x g) (hW:SW x) (hm:x.make.length≤100) (hd:x.drop.length≤100) (hu:x.use.length≤100) (hL:LaidD w) :
  Calls Tryz.prog 60 #[sV x g] w (Told (.bool (storedP x)) w):=by
 have HDW:=Lib.hid (dirsP_DW hW)
 have hlen:=dirsP_len x hm hd hu
 have HL:=Lib.hid hL.base
 obtain ⟨wb,hwb⟩:∃ wb,w.alloc (.cells (scs x g) 27)=wb:=⟨_,rfl⟩
 have hbx:BoxA wb w.heap.size 27 (scs x g):=by rw [←hwb];exact BoxA.new _ _ _
 have hB1:Below w.heap.size w wb:=by rw [←hwb];exact (Below.refl _ _).alloc (Nat.le_refl _) _
 have HDI:=Lib.hid (directives_any x g wb (h.next hB1) hm hd hu)
 have HWB:=Lib.hid hwb
 have HB1:=Lib.hid hB1
 have cellAt:=Lib.hid (fun (W:World) (hb:Below wb.heap.size wb W)=>hbx.next hb)
 have HST:=Lib.hid (show storedP x=(decide (∀ d∈dirsP x,chk d=true) && (decide (x.inn≤x.cap) && decide (x.out≤x.cap))) by
  unfold storedP
  rw [Bool.eq_iff_iff]
  simp)
 have hlt:=hbx.lt
 clear h hW hm hd hu hL hB1
 unfold sV at HDI ⊢
 obtain ⟨va,vm,vd,vu⟩:=g
 unfold scs at HDI HWB cellAt hbx ⊢
 dsimp only at HDI HWB cellAt hbx ⊢
 generalize dirsP x=L at *
 obtain ⟨n,hn⟩:∃ n,L.length=n:=⟨_,rfl⟩
 rw [hn] at HDI hlen
 have HN:=Lib.hid hn
 clear hn
 obtain ⟨us,nodes,wall,qos,after,cap,inn,out,pool,mk,dr,use⟩:=x
 dsimp only at HDI HWB HST cellAt hbx ⊢
 generalize str us=sus at *
 generalize str pool=spl at *
 generalize storedP _=st at *
 have c0:=hbx.cell 0 _
 have c1:=hbx.cell 1 _
 have c2:=hbx.cell 2 _
 have c3:=hbx.cell 3 _
 have c4:=hbx.cell 4 _
 have c5:=hbx.cell 5 _
 have c6:=hbx.cell 6 _
 have c7:=hbx.cell 7 _
 have c8:=hbx.cell 8 _
 have c9:=hbx.cell 9 _
 have c10:=hbx.cell 10 _
 have c11:=hbx.cell 11 _
 clear hbx hwb
 go_enter Tryz.func60,Tryz.ntmps60
 go_upto_region 1 with fail
 rw [HWB.out]
 go_upto_region 2 with (go_at_call 52;((with_reducible refine HDI.out.mono ?_);rintro e w2 ⟨v,rfl,ho,hb⟩;obtain ⟨p,c,hv⟩:=(RdC.form (ApC.rdc (.inr ho)));subst hv;have HO:=Lib.hid ho;have HB:=Lib.hid hb;clear ho hb))
 have HCA:=Lib.hid (fun (W:World) (hb:Below wb.heap.size wb W)=>(And.intro (BoxA.cell (cellAt.out W hb) 5 _) (And.intro (BoxA.cell (cellAt.out W hb) 6 _) (And.intro (BoxA.cell (cellAt.out W hb) 7 _) (cellAt.out W hb).lt))))
 have HR:=Lib.hid (show RdC w2 (.slice p n c) n (flM L) from ApC.rdc (.inr HO.out))
 clear c0 c1 c2 c3 c4 c5 c6 c7 c8 c9 c10 c11 HO
 go_loopw [8] (fun s8 W=>∃ k:Nat,s8=.int .i64 k∧k≤n∧Aside (∀ d∈L.take k,chk d=true)∧Aside (Below w2.heap.size w2 W)) (fun s8 _=>n - (intOf s8).toNat)
 case atStart=>exact ⟨0,rfl,Nat.zero_le _,by show ∀ d∈L.take 0,_;simp,Below.refl _ _⟩
 case round =>
  obtain ⟨k,rfl,hk,hok,hbl⟩:=hrel
  have HOK:=Lib.hid (show ∀ d∈L.take k,chk d=true from hok)
  have HBL:=Lib.hid (show Below w2.heap.size w2 wr from hbl)
  have HLOW:=Lib.hid (HB.out.trans ((show Below w2.heap.size w2 wr from hbl).mono HB.out.size))
  clear hok hbl
  by_cases hkn:k < n
  ·obtain ⟨b,off,hp,hb,hc⟩:=(HR.out.next HBL.out).at_ (size:=5) rfl (by omega)
   subst hp
   obtain ⟨d,hd⟩:∃ d,L[k]?=some d:=⟨_,List.getElem?_eq_getElem (by rw [HN.out];exact hkn)⟩
   obtain ⟨y0,y1,y2,y3,y4⟩:=cellM hc hd
   have HD:=Lib.hid (HDW.out d (List.mem_of_getElem? hd))
   have HX:=Lib.hid hd
   clear hc hd
   go_upto_region 4 with fail
   have hD:BoxA (wr.alloc (.cells #[.int .u8 (d.kind:Nat),.string (str d.name),.string (str d.pool),.int .i64 d.size,.bool d.opn] 80)) wr.heap.size 80 #[.int .u8 (d.kind:Nat),.string (str d.name),.string (str d.pool),.int .i64 d.size,.bool d.opn]:=BoxA.new _ _ _
   have hb4:Below wr.heap.size wr (wr.alloc (.cells #[.int .u8 (d.kind:Nat),.string (str d.name),.string (str d.pool),.int .i64 d.size,.bool d.opn] 80)):=(Below.refl _ _).alloc (Nat.le_refl _) _
   generalize wr.alloc (.cells #[.int .u8 (d.kind:Nat),.string (str d.name),.string (str d.pool),.int .i64 d.size,.bool d.opn] 80)=w4 at *
   have z0:=hD.cell 0 _
   have z1:=hD.cell 1 _
   have z2:=hD.cell 2 _
   have z3:=hD.cell 3 _
   have z4:=hD.cell 4 _
   have zl:=hD.lt
   have HB4:=Lib.hid (HBL.out.trans (hb4.mono HBL.out.size))
   have HLW:=Lib.hid (HLOW.out.trans (hb4.mono HLOW.out.size))
   have HCK:=Lib.hid (Check_any d HD.out w4 (HL.out _ (HB1.out.trans (HLW.out.mono HB1.out.size))))
   generalize wr.heap.size=bd at *
   clear hD hb4 y0 y1 y2 y3 y4 hb
   unfold dV dcs at HCK
   by_cases hck:chk d=true
   ·have HCE:=Lib.hid (show cE d=0 by unfold cE;rw [if_pos hck])
    have HK:=Lib.hid (show ∀ d∈L.take (k+1),chk d=true from fun y hy=>by
     rw [take_snoc HX.out] at hy
     rcases List.mem_append.1 hy with hy | hy
     ·exact HOK.out y hy
     ·simp at hy;subst hy;exact hck)
    rw [HCE.out] at HCK
    clear hck
    go_wp2_with (go_at_call 94;((with_reducible refine HCK.out.mono ?_);rintro e w5 ⟨rfl,hb5⟩);have HB5:=Lib.hid hb5;clear hb5)
    go_roundw
    case rel=>exact ⟨k+1,by go_num,by omega,HK.out,HB4.out.trans (HB5.out.mono HB4.out.size)⟩
    case measure=>simp [intOf];omega
   ·have HCE:=Lib.hid (show cE d=140 by unfold cE;rw [if_neg hck])
    have HSF:=Lib.hid (show st=false by rw [HST.out,decide_eq_false (fun h=>hck (h d (List.mem_of_getElem? HX.out)))];rfl)
    rw [HCE.out] at HCK
    clear hck
    go_wp2_with (go_at_call 94;((with_reducible refine HCK.out.mono ?_);rintro e w5 ⟨rfl,hb5⟩);have HB5:=Lib.hid hb5;clear hb5)
    go_ret
    exact ⟨by rw [HSF.out];rfl,HB1.out.trans ((HLW.out.trans (HB5.out.mono HLW.out.size)).mono HB1.out.size)⟩
  ·obtain rfl:k=n:=by omega
   have hall:∀ d∈L,chk d=true:=by
    have:=HOK.out
    rwa [List.take_of_length_le (by rw [HN.out];exact Nat.le_refl _)] at this
   have HS2:=Lib.hid (show st=(decide (inn≤cap) && decide (out≤cap)) by rw [HST.out,decide_eq_true hall];rfl)
   obtain ⟨c5,c6,c7,hlw⟩:=HCA.out _ HLOW.out
   clear hall hk hkn
   by_cases h1:inn≤cap
   ·have q1:decide (inn≤cap)=true:=decide_eq_true h1
    have HF:=Lib.hid (show st=decide (out≤cap) by rw [HS2.out,q1];rfl)
    clear h1
    go_wp2
    go_ret
    exact ⟨by rw [HF.out];rfl,HB1.out.trans (HLOW.out.mono HB1.out.size)⟩
   ·have q1:decide (inn≤cap)=false:=decide_eq_false h1
    have HF:=Lib.hid (show st=false by rw [HS2.out,q1];rfl)
    clear h1
    go_wp2
    go_ret
    exact ⟨by rw [HF.out];rfl,HB1.out.trans (HLOW.out.mono HB1.out.size)⟩
end Go.Proofs.YtekcjfdllclphaaGreatDoor.gn
end
section
set_option linter.unusedVariables false
set_option linter.unusedSimpArgs false
namespace Go.Proofs.YtekcjfdllclphaaGreatDoor.gn
open Go.RowKit
open Go.Proofs.YtekcjfdllclphaaGreatDoor.un
open Go.Proofs.YtekcjfdllclphaaGreatDoor.di
open Go.Proofs.YtekcjfdllclphaaGreatDoor.sp (Slip shortP soundP waitsP storedP apartP dirsP dropD useD capD innD outD chkS chkS_P)
theorem apart_eq (x:Slip):apartP x=(decide (∀ d∈x.make,d.kind=4) && (decide (x.make.map (·.name)++x.use).Nodup && decide x.drop.Nodup)):=by
 unfold apartP
 rw [Bool.eq_iff_iff]
 simp only [Bool.and_eq_true,decide_eq_true_eq]
set_option maxRecDepth 100000 in
set_option maxHeartbeats 8000000 in
theorem apart_any (x:Slip) (g:Gh) (w:World) (h:SR w x g) (hm:x.make.length≤100) (hu:x.use.length≤100):Calls Tryz.prog 61 #[sV x g] w (Told (.bool (apartP x)) w):=by
 have HAP:=Lib.hid (apart_eq x)
 have HM:=Lib.hid h.m
 have HU:=Lib.hid h.u
 have HD:=Lib.hid h.d
 have HCD:=Lib.hid h.cd
 obtain ⟨va,vm,vd,vu⟩:=g
 obtain ⟨pm,cm,em,lm1,lm2⟩:=h.cm
 dsimp only at em
 subst em
 clear h lm1 lm2
 unfold sV scs
 dsimp only at HM HU HD HCD ⊢
 obtain ⟨us,nodes,wall,qos,after,cap,inn,out,pool,mk,dr,use⟩:=x
 dsimp only at HAP HM HU HD HCD hm hu ⊢
 obtain ⟨n,hn⟩:∃ n,mk.length=n:=⟨_,rfl⟩
 obtain ⟨nu,hnu⟩:∃ n,use.length=n:=⟨_,rfl⟩
 rw [hn] at hm HM ⊢
 rw [hnu] at hu HU
 have HN:=Lib.hid hn
 have HNU:=Lib.hid hnu
 generalize str us=sus at *
 generalize str pool=spl at *
 generalize apartP _=ap at *
 clear hn hnu
 obtain ⟨wb,hwb⟩:∃ wb,w.alloc (.cells #[.string sus,.int .i64 nodes,.int .i64 wall,.int .i64 qos,va,.int .i64 cap,.int .i64 inn,.int .i64 out,.string spl,.slice pm n cm,vd,vu] 27)=wb:=⟨_,rfl⟩
 have hbx:BoxA wb w.heap.size 27 #[.string sus,.int .i64 nodes,.int .i64 wall,.int .i64 qos,va,.int .i64 cap,.int .i64 inn,.int .i64 out,.string spl,.slice pm n cm,vd,vu]:=by rw [←hwb];exact BoxA.new _ _ _
 have hB1:Below w.heap.size w wb:=by rw [←hwb];exact (Below.refl _ _).alloc (Nat.le_refl _) _
 have hzb:wb.heap.size=w.heap.size+1:=by rw [←hwb];simp
 have HZ:=Lib.hid hzb
 have HB1:=Lib.hid hB1
 have HWB:=Lib.hid hwb
 have hlt:=hbx.lt
 have cellAt:=Lib.hid (fun (W:World) (hb:Below (w.heap.size+1) wb W)=>(show BoxA W w.heap.size 27 #[.string sus,.int .i64 nodes,.int .i64 wall,.int .i64 qos,va,.int .i64 cap,.int .i64 inn,.int .i64 out,.string spl,.slice pm n cm,vd,vu] from (hb.block _ (Nat.lt_succ_self _)).trans hbx))
 have c9:=hbx.cell 9 _
 clear hbx hB1 hzb hwb
 go_enter Tryz.func61,Tryz.ntmps61
 go_upto_region 2 with fail
 rw [HWB.out]
 go_upto_region 3 with fail
 go_loopw [3,9] (fun s3 s9 W=>∃ (k:Nat) (v3:Value),s3=v3∧s9=.int .i64 k∧k≤n∧Aside (∀ d∈mk.take k,d.kind=4)∧Aside (W.ownsRow (w.heap.size+1) 9 1 v3 k (flS ((mk.take k).map (·.name))))∧Aside (Below (w.heap.size+1) wb W)) (fun _ s9 _=>n - (intOf s9).toNat)
 case atStart=>exact ⟨0,_,rfl,rfl,Nat.zero_le _,by show ∀ d∈mk.take 0,_;simp,World.ownsRow_nil _ _ _ _,Below.refl _ _⟩
 case round =>
  obtain ⟨k,v3,h3,rfl,hk,hok,hown,hbl⟩:=hrel
  replace h3:=h3.symm
  subst h3
  have HO:=Lib.hid (show ∀ d∈mk.take k,d.kind=4 from hok)
  have HW:=Lib.hid (show wr.ownsRow (w.heap.size+1) 9 1 v3 k (flS ((mk.take k).map (·.name))) from hown)
  have HB:=Lib.hid (show Below (w.heap.size+1) wb wr from hbl)
  have HZR:=Lib.hid (show w.heap.size+1≤wr.heap.size by have:=hbl.size;have:=HZ.out;omega)
  clear hok hown hbl c9
  by_cases hkn:k < n
  ·obtain ⟨b,off,hp,hb,hc⟩:=(HM.out.next (low_next HB1.out HB.out)).at_ (size:=5) rfl (by omega)
   subst hp
   obtain ⟨d,hd⟩:∃ d,mk[k]?=some d:=⟨_,List.getElem?_eq_getElem (by rw [HN.out];exact hkn)⟩
   obtain ⟨y0,y1,y2,y3,y4⟩:=cellM hc hd
   have HX:=Lib.hid hd
   clear hc hd
   obtain ⟨dk,dn,dp,dz,dop⟩:=d
   dsimp only at y0 y1 y2 y3 y4
   go_upto_region 5 with fail
   have hD:BoxA (wr.alloc (.cells #[.int .u8 (dk:Nat),.string (str dn),.string (str dp),.int .i64 dz,.bool dop] 80)) wr.heap.size 80 #[.int .u8 (dk:Nat),.string (str dn),.string (str dp),.int .i64 dz,.bool dop]:=BoxA.new _ _ _
   have hb4:Below wr.heap.size wr (wr.alloc (.cells #[.int .u8 (dk:Nat),.string (str dn),.string (str dp),.int .i64 dz,.bool dop] 80)):=(Below.refl _ _).alloc (Nat.le_refl _) _
   generalize wr.alloc (.cells #[.int .u8 (dk:Nat),.string (str dn),.string (str dp),.int .i64 dz,.bool dop] 80)=w4 at *
   have z0:=hD.cell 0 _
   have z1:=hD.cell 1 _
   have zl:=hD.lt
   have HW4:=Lib.hid (show w4.ownsRow (w.heap.size+1) 9 1 v3 k (flS ((mk.take k).map (·.name))) from World.ownsRow.kept HW.out (grown_new hb4) (by cases hv:v3.ownBlock <;> simp))
   have HB4:=Lib.hid (HB.out.trans (hb4.mono HZR.out))
   have HZ4:=Lib.hid (Nat.le_trans HZR.out hb4.size)
   generalize wr.heap.size=bd at *
   clear hD hb4 y0 y1 y2 y3 y4 hb
   by_cases h4:dk=4
   ·have q4:((dk:Int) != 4)=false:=by rw [h4];rfl
    have HK:=Lib.hid (show ∀ d∈mk.take (k+1),d.kind=4 from fun y hy=>by
     rw [take_snoc HX.out] at hy
     rcases List.mem_append.1 hy with hy | hy
     ·exact HO.out y hy
     ·simp at hy;subst hy;exact h4)
    have HK2:=Lib.hid (show flS ((mk.take k).map (·.name))++cS dn=flS ((mk.take (k+1)).map (·.name)) by rw [take_snoc HX.out,List.map_append,flS_app];rfl)
    have hb5:Below w4.heap.size w4 (w4.alloc (.cells #[.string (str dn)] 9)):=(Below.refl _ _).alloc (Nat.le_refl _) _
    have HW5:=Lib.hid (show (w4.alloc (.cells #[.string (str dn)] 9)).ownsRow (w.heap.size+1) 9 1 v3 k (flS ((mk.take k).map (·.name))) from World.ownsRow.kept HW4.out (grown_new hb5) (by cases hv:v3.ownBlock <;> simp))
    have HC5:=Lib.hid (show ∀ j u,(cS dn)[j]?=some u→(w4.alloc (.cells #[.string (str dn)] 9)).cell? ((⟨w4.heap.size,0,none⟩:Addr).add j)=some u from row_cells' w4 (cS dn) 9)
    have HZ5:=Lib.hid (Nat.le_trans HZ4.out hb5.size)
    have HB5:=Lib.hid (HB4.out.trans (hb5.mono HZ4.out))
    clear hb5 h4
    go_wp2_with (at_builtin;refine wpl_app eltS rfl _ _ rfl (base:=w.heap.size+1) (n:=k) (cs:=flS ((mk.take k).map (·.name))) (v:=v3) rfl HW5.out ⟨w4.heap.size,0,none⟩ (cS dn) rfl HC5.out rfl (fun u hu=>by simp [cS] at hu;subst hu;rfl) (by omega) (by decide) HZ5.out ?_;intro gb cb w6 h1 h2;have HW6:=Lib.hid h1;have HB6:=Lib.hid (HB5.out.trans h2);clear h1 h2)
    go_roundw
    case rel=>exact ⟨k+1,_,rfl,by go_num,by omega,HK.out,by rw [←HK2.out];exact HW6.out,HB6.out⟩
    case measure=>simp [intOf];omega
   ·have q4:((dk:Int) != 4)=true:=by simp;omega
    have HF:=Lib.hid (show ap=false by rw [HAP.out,decide_eq_false (fun h=>h4 (h _ (List.mem_of_getElem? HX.out)))];rfl)
    clear h4
    go_wp2
    go_ret
    exact ⟨by rw [HF.out];rfl,low_next HB1.out HB4.out⟩
  ·obtain rfl:k=n:=by omega
   have ht:mk.take k=mk:=List.take_of_length_le (by rw [HN.out];exact Nat.le_refl _)
   rw [ht] at HO HW
   have HA2:=Lib.hid (show ap=(decide (mk.map (·.name)++use).Nodup && decide dr.Nodup) by rw [HAP.out,decide_eq_true HO.out];rfl)
   have c11:=(cellAt.out wr HB.out).cell 11 _
   have c10:=(cellAt.out wr HB.out).cell 10 _
   have hl:=(cellAt.out wr HB.out).lt
   have HRU:=Lib.hid (show RdC wr vu nu (flS use) from HU.out.next (low_next HB1.out HB.out))
   have HFU:=Lib.hid (show (flS use).length=nu * 1 by rw [flS_len,HNU.out])
   have HLN:=Lib.hid (show (mk.map (·.name)++use).length=k+nu by rw [List.length_append,List.length_map,HN.out,HNU.out])
   have HDR:=Lib.hid (fun (W:World) (hb:Below (w.heap.size+1) wb W)=>distinct_s dr vd W (HD.out.next (low_next HB1.out hb)) HCD.out)
   have HCL:=Lib.hid (fun (W:World) (hb:Below (w.heap.size+1) wb W)=>And.intro ((cellAt.out W hb).cell 10 _) (cellAt.out W hb).lt)
   clear ht hk hkn
   obtain ⟨b1,hb1⟩:∃ b,decide (mk.map (·.name)++use).Nodup=b:=⟨_,rfl⟩
   obtain ⟨b2,hb2⟩:∃ b,decide dr.Nodup=b:=⟨_,rfl⟩
   rw [hb1,hb2] at HA2
   rw [hb2] at HDR
   have H1:=Lib.hid hb1
   clear hb1 hb2
   cases b1 with
   | false =>
    go_wp2_with (first
     | (at_builtin;refine wpl_ow eltS rfl _ _ rfl (base:=w.heap.size+1) (n:=k) (m:=nu) (cs:=flS (mk.map (·.name))) (ds:=flS use) (v:=v3) (u:=vu) rfl HW.out rfl HRU.out HFU.out (flS_one use) (by omega) (by decide) HZR.out ?_;intro p6 k6 w6 h1 h2;rw [←flS_app] at h1;have HC:=Lib.hid (by have:=distinct_s (mk.map (·.name)++use) (.slice p6 (k+nu) k6) w6 (by rw [HLN.out];exact ApC.rdc (.inr h1)) (by rw [HLN.out];exact cp_own h1);rw [H1.out] at this;exact this);have HB6:=Lib.hid (HB.out.trans h2);clear h1 h2)
     | (go_at_call 101;((with_reducible refine HC.out.mono ?_);rintro e w3 ⟨rfl,rfl⟩)))
    go_ret
    exact ⟨by rw [HA2.out];rfl,low_next HB1.out HB6.out⟩
   | true =>
    go_wp2_with (first
     | (at_builtin;refine wpl_ow eltS rfl _ _ rfl (base:=w.heap.size+1) (n:=k) (m:=nu) (cs:=flS (mk.map (·.name))) (ds:=flS use) (v:=v3) (u:=vu) rfl HW.out rfl HRU.out HFU.out (flS_one use) (by omega) (by decide) HZR.out ?_;intro p6 k6 w6 h1 h2;rw [←flS_app] at h1;have HC:=Lib.hid (by have:=distinct_s (mk.map (·.name)++use) (.slice p6 (k+nu) k6) w6 (by rw [HLN.out];exact ApC.rdc (.inr h1)) (by rw [HLN.out];exact cp_own h1);rw [H1.out] at this;exact this);have HB6:=Lib.hid (HB.out.trans h2);obtain ⟨c10b,hlb⟩:=HCL.out _ HB6.out;clear h1 h2)
     | (go_at_call 101;first | ((with_reducible refine HC.out.mono ?_);rintro e w3 ⟨rfl,rfl⟩) | ((with_reducible refine (HDR.out _ HB6.out).mono ?_);rintro e w3 ⟨rfl,rfl⟩)))
    go_ret
    exact ⟨by rw [HA2.out];rfl,low_next HB1.out HB6.out⟩
end Go.Proofs.YtekcjfdllclphaaGreatDoor.gn
end
section
set_option linter.unusedVariables false
set_option linter.unusedSimpArgs false
set_option maxRecDepth 100000
namespace Go.Proofs.YtekcjfdllclphaaGreatDoor.gn
open Go.RowKit Go.Shelf
open Go.Proofs.YtekcjfdllclphaaGreatDoor.un
open Go.Proofs.YtekcjfdllclphaaGreatDoor.di
open Go.Proofs.YtekcjfdllclphaaGreatDoor.sp (Slip cuts cutB fldB fldB_len cuts_ne cuts_app cuts_one cutB_some cutB_mem)
attribute [local go_sem] Oper.semAt_some
def numb:Nat→List Tx→List (Nat × Tx)
 | _,[]=>[]
 | i,l::r=>(i,l)::numb (i+1) r
theorem numb_len:∀ (i:Nat) (L:List Tx),(numb i L).length=L.length
 | _,[]=>rfl
 | i,l::r=>by simp [numb,numb_len (i+1) r]
theorem numb_at:∀ (i:Nat) (L:List Tx) (k:Nat),(numb i L)[k]?=(L[k]?).map fun l=>(i+k,l)
 | _,[],k=>by simp [numb]
 | i,l::r,0=>by simp [numb]
 | i,l::r,k+1=>by
  simp only [numb,List.getElem?_cons_succ]
  rw [numb_at (i+1) r k]
  congr 1
  funext x
  rw [show i+1+k=i+(k+1) by omega]
def encL (x:Nat × Tx):Array Value:=#[.int .i64 (x.1:Nat),.string (str x.2)]
def LnS (s:Tx) (k:Nat) (rest:Tx) (more:Bool):Prop:=if more=true then (cuts 10 s).drop k=cuts 10 rest∧rest.length≤s.length else k=(cuts 10 s).length
theorem cuts_way (rest:Tx):cuts 10 rest=(fldB 10 rest).1::(if (cutB 10 rest).isSome=true then cuts 10 (fldB 10 rest).2 else []):=by
 unfold fldB
 cases hc:cutB 10 rest with
 | none=>exact cuts_one 10 rest ((cutB_mem 10).1 hc)
 | some f =>
  obtain ⟨e,hn⟩:=cutB_some 10 rest f.1 f.2 hc
  simp only [Option.getD_some,Option.isSome_some,if_true]
  rw [e,cuts_app 10 f.1 f.2 hn]
theorem LnS.step {s:Tx} {k:Nat} {rest:Tx} (h:LnS s k rest true):(cuts 10 s)[k]?=some (fldB 10 rest).1∧k < (cuts 10 s).length∧LnS s (k+1) (fldB 10 rest).2 (cutB 10 rest).isSome:=by
 unfold LnS at h
 rw [if_pos rfl] at h
 obtain ⟨h,hl⟩:=h
 have hw:=cuts_way rest
 rw [←h] at hw
 have hk:(cuts 10 s)[k]?=some (fldB 10 rest).1:=by
  have:((cuts 10 s).drop k)[0]?=some (fldB 10 rest).1:=by rw [hw];rfl
  rwa [List.getElem?_drop,Nat.add_zero] at this
 have hlt:=(List.getElem?_eq_some_iff.1 hk).1
 have hd:(cuts 10 s).drop (k+1)=if (cutB 10 rest).isSome=true then cuts 10 (fldB 10 rest).2 else []:=by
  rw [←List.drop_drop,hw]
  rfl
 refine ⟨hk,hlt,?_⟩
 unfold LnS
 cases hc:(cutB 10 rest).isSome with
 | true =>
  rw [hc,if_pos rfl] at hd
  rw [if_pos rfl]
  exact ⟨hd,Nat.le_trans (fldB_len 10 rest).2 hl⟩
 | false =>
  rw [hc,if_neg (by decide)] at hd
  rw [if_neg (by decide)]
  have:=congrArg List.length hd
  simp only [List.length_drop,List.length_nil] at this
  omega
set_option maxHeartbeats 4000000 in
theorem lines1_seq (n:Nat) (hn:1≤n) (s:Tx) (hs:s.length≤100000) (lB:Nat) (w:World) (hB:Boxed w lB 9 (.string (str s))) :
  SeqP n Tryz.prog 106 #[.pointer (some ⟨lB,0,none⟩)] encL (numb 1 (cuts 10 s)) LaidD w:=by
 intro l0 J Jp W hW hok hJb hY h0
 have kB:=(show Boxed W lB 9 (.string (str s)) from (hW.block lB (lt_of_block hB)).trans hB).cell
 have sB:lB < W.heap.size:=Nat.lt_of_lt_of_le (lt_of_block hB) hW.size
 obtain ⟨N,hN⟩:∃ N,(cuts 10 s).length=N:=⟨_,rfl⟩
 have hNb:=sp.cuts_len 10 s
 rw [hN] at hNb
 have HN:=Lib.hid hN
 have HY:=Lib.hid hY
 have HJ:=Lib.hid hJb
 have HO:=Lib.hid hok
 have H0:=Lib.hid h0
 have HS:=Lib.hid hs
 have HL0:=Lib.hid (show LnS s 0 s true by unfold LnS;rw [if_pos rfl];exact ⟨rfl,Nat.le_refl _⟩)
 have hN2:N≤100001:=by omega
 clear hY hJb hok h0 hB hW hN hNb hs
 refine callsIn_of_wp Tryz.func106 rfl trivial ?_ rfl
 simp only [Tryz.ntmps106,List.size_toArray,List.length_cons,List.length_nil,Nat.reduceAdd,Nat.reduceSub,Array.replicate_succ,Array.replicate_zero,List.push_toArray,List.append_toArray,List.nil_append,List.cons_append]
 gi_wp2_with fail
 gi_loopw [3,4,5] (fun s3 s4 s5 wr=>∃ (k:Nat) (rest:Tx) (more:Bool),s3=.string (str rest)∧s4=.bool more∧s5=.int .i64 ((k:Int)+1)∧k≤N∧Aside (LnS s k rest more)∧Aside (J k wr)) (fun _ _ s5 _=>N+1 - (intOf s5).toNat)
 case atStart=>exact ⟨0,s,true,rfl,rfl,rfl,Nat.zero_le _,HL0.out,H0.out⟩
 case round =>
  obtain ⟨k,rest,more,rfl,rfl,rfl,hk,hln,hj⟩:=hrel
  have HLN:=Lib.hid (show LnS s k rest more from hln)
  have HJK:=Lib.hid (show J k wr from hj)
  clear hln hj HL0 H0
  cases more with
  | true =>
   have hst:=HLN.out.step
   have hrl:rest.length≤100000:=by
    have:=HLN.out
    unfold LnS at this
    rw [if_pos rfl] at this
    have:=HS.out
    omega
   have HC:=Lib.hid (cut_c 10 rest hrl wr (HO.out k wr HJK.out))
   have hkN:k < N:=by have:=hst.2.1;rw [HN.out] at this;exact this
   obtain ⟨line,hline⟩:∃ line,(fldB 10 rest).1=line:=⟨_,rfl⟩
   obtain ⟨rest2,hrest2⟩:∃ r,(fldB 10 rest).2=r:=⟨_,rfl⟩
   obtain ⟨more2,hmore2⟩:∃ m,(cutB 10 rest).isSome=m:=⟨_,rfl⟩
   rw [hline,hrest2,hmore2] at HC
   rw [hline,hrest2,hmore2] at hst
   have HX:=Lib.hid (show (numb 1 (cuts 10 s))[k]?=some (1+k,line) by rw [numb_at,hst.1];rfl)
   have HST:=Lib.hid hst.2.2
   have e1:((1+k:Nat):Int)=(k:Int)+1:=by omega
   have HE:=Lib.hid e1
   clear hst hrl hline hrest2 hmore2 e1
   gi_upto_region 6 with fail
   refine ⟨trivial,?_⟩
   gi_at_call 16
   refine (callsIn_wide.2 HC.out).mono ?_
   rintro e w2 ⟨rfl,hb2⟩
   have HB2:=Lib.hid hb2
   clear hb2
   gi_upto_region 6 with fail
   obtain ⟨fn,tmps,assign,body,hy,hR⟩:=HY.out k (1+k,line) w2 (HJ.out k wr w2 HJK.out HB2.out) HX.out
   unfold encL at hy
   dsimp only at hy
   rw [HE.out] at hy
   gi_wp2_with fail
   refine hR.mono ?_
   rintro e W4 (⟨rfl,hJ4⟩ | ⟨ch,rfl,hJp⟩)
   ·have HJ4:=Lib.hid hJ4
    clear hR hy hJ4
    gi_wp2_with fail
    go_roundw
    case rel=>exact ⟨k+1,rest2,more2,rfl,rfl,by go_num,by omega,HST.out,HJ4.out⟩
    case measure=>simp [intOf];omega
   ·clear hR hy
    exact ⟨rfl,.inr ⟨ch,rfl,hJp⟩⟩
  | false =>
   have hkN:k=N:=by
    have:=HLN.out
    unfold LnS at this
    rw [if_neg (by decide),HN.out] at this
    exact this
   have HL:=Lib.hid (show (numb 1 (cuts 10 s)).length=k by rw [numb_len,HN.out,hkN])
   clear hkN
   gi_wp2_with fail
   go_end0
   exact .inl ⟨_,rfl,by rw [HL.out];exact HJK.out⟩
end Go.Proofs.YtekcjfdllclphaaGreatDoor.gn
end
