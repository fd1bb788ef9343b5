/- The document's Parse of a slip. (Written by gen_slDp.py.) -/
import Derived.Test.YtekcjfdllclphaaGreatDoorMQbSlFr
import Derived.Test.YtekcjfdllclphaaGreatDoorMQbSlTx
import Derived.Test.YtekcjfdllclphaaGreatDoorMQbOrR
set_option linter.unusedVariables false
set_option linter.unusedSimpArgs false
section
namespace Go.Proofs.YtekcjfdllclphaaGreatDoor.gn
open Go.RowKit
open Go.Proofs.YtekcjfdllclphaaGreatDoor.un
open Go.Proofs.YtekcjfdllclphaaGreatDoor.di
open Go.Proofs.YtekcjfdllclphaaGreatDoor.sp (Slip cuts cuts_ne cuts_lens first? first_bd sread lrun put chkS isD isD_bb isD_short isD_long LR lr_start lr_skip lr_next lr_err lr_twice lr_end Bd put_bd bd_mono)
theorem spot_one (e l:Int):(#[Value.int .i64 e,Value.int .i64 l]:Array Value).all (·.oneCell')=true:=by kernel_rfl
theorem two_made (w:World) (z y:Array Value) (t u:TypeId):∃ W,(w.alloc (.cells z t)).alloc (.cells y u)=W∧BoxA W w.heap.size t z∧BoxA W (w.heap.size+1) u y∧Below w.heap.size w W∧W.heap.size=w.heap.size+2:=by
 refine ⟨_,rfl,BoxA.next (BoxA.new w t z) ((Below.refl _ _).alloc (Nat.le_refl _) _),?_,((Below.refl _ w).alloc (Nat.le_refl _) _).alloc (by simp) _,by simp⟩
 have:=BoxA.new (w.alloc (.cells z t)) u y
 rwa [World.size_alloc] at this
theorem slp_ret {s:Tx} {w W:World} {tmps:Array Value} {x:Slip} {g:Gh} {cs ds c0 c1:Array Value} {e l:Int} (hlow:Below w.heap.size w W) (hcs:scs x g=cs) (hds:#[.int .i64 e,.int .i64 l]=ds) (hpr:BoxA W w.heap.size 27 c0) (hsp:BoxA W (w.heap.size+1) 32 c1)
  (h23:(tmps.getD 2 undef,tmps.getD 3 undef)=(.pointer (some ⟨w.heap.size,0,none⟩),.pointer (some ⟨w.heap.size+1,0,none⟩))) (hr:((sread s).1,(sread s).2.1,((sread s).2.2:Int))=(x,e,l)) (hs:SR ((W.setRow w.heap.size cs).setRow (w.heap.size+1) ds) x g) :
  bodyPost Tryz.prog Tryz.f19 (PaT s w) Exit.ret ⟨tmps,[]⟩ ((W.setRow w.heap.size cs).setRow (w.heap.size+1) ds):=by
 subst hcs hds
 simp only [Prod.mk.injEq] at h23 hr
 obtain ⟨h2,h3⟩:=h23
 obtain ⟨r1,r2,r3⟩:=hr
 refine bodyPost_ret (v:=.tuple #[sV x g,.agg #[.int .i64 e,.int .i64 l]]) ?_ rfl ?_
 ·exact results_cells2 rfl _ _ w.heap.size (w.heap.size+1) _ _ (scs x g) #[.int .i64 e,.int .i64 l] _ _ _ _ h2 ((setRow_other _ _ _ _ (by omega)).trans (setRow_heap _ _ _ _ _ _ hpr)) Tryz.underlying27 rfl (by kernel_rfl) h3 (setRow_heap _ _ _ _ _ _ ((setRow_other _ _ _ _ (by omega)).trans hsp)) Tryz.underlying32 rfl (by kernel_rfl)
 ·refine ⟨below_setRow (below_setRow hlow (Nat.le_refl _) _) (by omega) _,g,?_,?_⟩
  ·rw [r1,r2,r3]
  ·rw [r1];exact hs
theorem read_first {s l0:Tx} {ws:List Tx} (hs:s.length≤10000) (hc:cuts 10 s=l0::ws) (hf:first? l0=none):sread s=(Slip.zero,150,1):=by
 unfold sread
 rw [if_neg (by omega),hc]
 dsimp only
 rw [hf]
theorem read_err {s l0:Tx} {ws:List Tx} (hs:s.length≤10000) (hc:cuts 10 s=l0::ws) {x0:Slip} (hf:first? l0=some x0) {e:Int} {n:Nat} (hr:lrun (x0,[]) 2 ws=.error (e,n)):sread s=(Slip.zero,e,n):=by
 unfold sread
 rw [if_neg (by omega),hc]
 dsimp only
 rw [hf]
 dsimp only
 rw [hr]
theorem read_ok {s l0:Tx} {ws:List Tx} (hs:s.length≤10000) (hc:cuts 10 s=l0::ws) {x0 x:Slip} (hf:first? l0=some x0) {S:List Nat} (hr:lrun (x0,[]) 2 ws=.ok (x,S)):sread s=if chkS x=true then (x,0,0) else (Slip.zero,150,ws.length+1):=by
 unfold sread
 rw [if_neg (by omega),hc]
 dsimp only
 rw [hf]
 dsimp only
 rw [hr]
theorem px_final {P X:Nat} {w2 W:World} {x:Slip} {va vm vd vu:Value} {S:List Nat} (h:PX X w2 x va vm vd vu S W) (hX:w2.heap.size=X) (hva:w2.ownsRow (P+2) 88 2 va x.after.length (flA x.after)) (hPX:P+2≤X) (cs ds:Array Value):SR ((W.setRow P cs).setRow (P+1) ds) x ⟨va,vm,vd,vu⟩:=by
 have k:∀ {e:TypeId} {size:Nat} {v:Value} {n:Nat} {c:List Value},W.ownsRow (P+2) e size v n c→((W.setRow P cs).setRow (P+1) ds).ownsRow (P+2) e size v n c:=fun ho=>own_same ho fun b hb=>by
  have:=(World.ownsRow.lt ho b hb).1
  exact (setRow_other _ _ _ _ (by omega)).trans (setRow_other _ _ _ _ (by omega))
 have ha:W.ownsRow (P+2) 88 2 va x.after.length (flA x.after):=own_same hva fun b hb=>h.low.block b (by have:=(World.ownsRow.lt hva b hb).2;omega)
 have hm:=k (own_base h.m (show P+2≤X+2 by omega))
 have hd:=k (own_base h.d (show P+2≤X+2 by omega))
 have hu:=k (own_base h.u (show P+2≤X+2 by omega))
 exact ⟨ApC.rdc (.inr (k ha)),ApC.rdc (.inr hm),ApC.rdc (.inr hd),ApC.rdc (.inr hu),cp_own ha,cp_own h.m,cp_own h.d,cp_own h.u⟩
theorem dcs_one (d:Dir):(dcs d).all (·.oneCell')=true:=by
 unfold dcs
 kernel_rfl
theorem split_ln (l:Tx) (hl:l.length≤100000) (w:World):Calls Tryz.prog 20 #[.string (str l),.int .u8 10] w fun e w'=>∃ v,e=.returned v∧Wds w.heap.size w' v (cuts 10 l)∧Below w.heap.size w w':=Split_any 10 l hl w
set_option maxRecDepth 100000 in
set_option maxHeartbeats 32000000 in
theorem dParse_slip (s:Tx) (hs:s.length≤10000) (w:World):Calls Tryz.prog 19 #[.string (str s)] w (PaT s w):=by
 have hz:=str_size s
 have hz0:¬ 10000 < (str s).size:=by omega
 have hz1:(str s).size≤10000:=by omega
 have HSP:=Lib.hid (fun (W:World)=>split_ln s (by omega) W)
 obtain ⟨l0,ws,hcs⟩:∃ l0 ws,cuts 10 s=l0::ws:=by
  cases h:cuts 10 s with
  | nil=>exact absurd h (cuts_ne 10 s)
  | cons a b=>exact ⟨a,b,rfl⟩
 have hcl:=cuts_lens 10 s
 rw [hcs] at hcl HSP
 have HCS:=Lib.hid hcs
 have HCL:=Lib.hid (fun (p:Tx) (hp:p∈l0::ws)=>(show p.length≤10000 from Nat.le_trans (hcl.2 p hp) hs))
 have hnl:(l0::ws).length≤10001:=by have:=hcl.1;omega
 obtain ⟨n,hn⟩:∃ n,(l0::ws).length=n:=⟨_,rfl⟩
 rw [hn] at hnl
 have hn1:1≤n:=by rw [←hn];simp
 have HN:=Lib.hid hn
 have HWN:=Lib.hid (show ws.length+1=n from hn)
 have HFI:=Lib.hid (fun (W:World)=>dfirst_any l0 (HCL.out l0 (by simp)) W)
 have HSL:=Lib.hid hs
 clear hcs hcl hn hz hs
 obtain ⟨W0,hW0,hpr,hsp,hlow,hsz⟩:=two_made w #[.string { data:=#[] },.int .i64 0,.int .i64 0,.int .i64 0,.slice none 0 0,.int .i64 0,.int .i64 0,.int .i64 0,.string { data:=#[] },.slice none 0 0,.slice none 0 0,.slice none 0 0] #[.int .i64 0,.int .i64 0] 27 32
 have HP0:=Lib.hid (show BoxA W0 w.heap.size 27 zz from hpr)
 have HS0:=Lib.hid hsp
 have HL0:=Lib.hid hlow
 have HZ0:=Lib.hid hsz
 have HW0:=Lib.hid hW0
 clear hpr hsp hlow hsz hW0
 go_enter Tryz.func19,Tryz.ntmps19
 go_upto_region 1 with fail
 rw [HW0.out]
 go_upto_region 4 with (go_at_call 20;((with_reducible refine (HSP.out _).mono ?_);rintro e w1 ⟨v,rfl,⟨gp,cp,rfl,hps,hcp,hgb⟩,hb⟩);have A1:=Lib.hid hb;have HPS:=Lib.hid hps;have HGP:=Lib.hid hgb;rw [HN.out];clear hb hps hcp hgb)
 have cy0:=prt_at HPS.out (show (l0::ws)[0]?=some l0 from rfl)
 have gl0:=HPS.out.1
 go_upto_region 5 with (first
  | (go_at_call 41;((with_reducible refine (HFI.out _).mono ?_);rintro e w2 ⟨x0,va,b,rfl,hsr,hown,hem,hf,hb⟩);have A2:=Lib.hid hb;have HSR:=Lib.hid hsr;have HOW:=Lib.hid hown;have HEM:=Lib.hid hem;have HF:=Lib.hid hf;clear hb hsr hown hem hf)
  | (refine wpList_store_row rfl _ _ _ rfl w2.heap.size (scs x0 (gA va)) rfl rfl _ _ (BoxA.new w2 _ _) (by kernel_rfl) rfl (scs_one HSR.out) ?_))
 clear cy0 gl0
 obtain ⟨W3,hW3,hbx,hb3⟩:=box_end w2 #[.string { data:=#[] },.int .i64 0,.int .i64 0,.int .i64 0,.slice none 0 0,.int .i64 0,.int .i64 0,.int .i64 0,.string { data:=#[] },.slice none 0 0,.slice none 0 0,.slice none 0 0] (scs x0 (gA va)) 27
 have hsz3:W3.heap.size=w2.heap.size+1:=by rw [←hW3];simp [World.setRow]
 rw [hW3]
 clear hW3
 have A12:=Lib.hid (A1.out.trans (A2.out.mono A1.out.size))
 have HPX2:=Lib.hid (show w.heap.size+2≤w2.heap.size by have:=A12.out.size;have:=HZ0.out;omega)
 have HL2:=Lib.hid (HL0.out.trans (A12.out.mono (by have:=HZ0.out;omega)))
 have HP2:=Lib.hid (HP0.out.next A12.out)
 have HS2:=Lib.hid (HS0.out.next A12.out)
 have HPS2:=Lib.hid (HPS.out.next A2.out)
 have HVA:=Lib.hid (show w2.ownsRow (w.heap.size+2) 88 2 va x0.after.length (flA x0.after) from own_base HOW.out (by have:=A1.out.size;have:=HZ0.out;omega))
 obtain ⟨X,hX⟩:∃ X,w2.heap.size=X:=⟨_,rfl⟩
 have HXE:=Lib.hid hX
 rw [hX] at hbx hb3 HPX2 hsz3 ⊢
 have HSZ3:=Lib.hid hsz3
 clear hsz3
 have HAT:=Lib.hid (fun (W:World) (hb:Below X w2 W)=>(show BoxA W w.heap.size 27 zz∧BoxA W (w.heap.size+1) 32 #[.int .i64 0,.int .i64 0]∧Prts W gp 0 (l0::ws)∧Below w.heap.size w W from
  have hb':Below w2.heap.size w2 W:=by rw [HXE.out];exact hb
  ⟨HP2.out.next hb',HS2.out.next hb',HPS2.out.next hb',HL2.out.trans (hb'.mono (by have:=HPX2.out;have:=HXE.out;omega))⟩))
 have HB3:=Lib.hid hb3
 have HBX:=Lib.hid hbx
 clear hbx hb3 hX HP0 HS0 HL0 HZ0 HW0 A1 A2 A12 HPS HGP HP2 HS2 HPS2 HSP HFI HOW
 cases b with
 | false =>
  have HNO:=Lib.hid (read_first HSL.out HCS.out HF.out)
  go_wp2_with (first
   | (refine wpList_store_row rfl _ _ _ rfl w.heap.size zz rfl rfl _ _ (HAT.out W3 HB3.out).1 (by kernel_rfl) rfl (by kernel_rfl) ?_)
   | (refine wpList_store_row rfl _ _ _ rfl (w.heap.size+1) #[.int .i64 150,.int .i64 1] rfl rfl _ _ ((setRow_other _ _ _ _ (by omega)).trans (HAT.out W3 HB3.out).2.1) (by kernel_rfl) rfl (spot_one _ _) ?_))
  exact slp_ret (x:=Slip.zero) (g:=g0) (HAT.out W3 HB3.out).2.2.2 rfl rfl (HAT.out W3 HB3.out).1 (HAT.out W3 HB3.out).2.1 rfl (by rw [HNO.out];rfl) (sr_zero _)
 | true =>
  have HFS:=Lib.hid (show first? l0=some x0 from HF.out)
  have HBD:=Lib.hid (first_bd (HCL.out l0 (by simp)) HFS.out)
  obtain ⟨W4,hW4⟩:∃ W4,W3.alloc (.cells #[.bool false,.bool false,.bool false,.bool false] 78)=W4:=⟨_,rfl⟩
  have hx1:W3.heap.size=X+1:=HSZ3.out
  have hb4:Below W3.heap.size W3 W4:=by rw [←hW4];exact (Below.refl _ _).alloc (Nat.le_refl _) _
  have PX0:=Lib.hid (show PX X w2 x0 va (.slice none 0 0) (.slice none 0 0) (.slice none 0 0) [] W4 from ⟨HBX.out.next hb4,by rw [←hW4,← hx1];exact BoxA.new _ _ _,by rw [HEM.out.1];exact World.ownsRow_nil _ _ _ _,by rw [HEM.out.2.1];exact World.ownsRow_nil _ _ _ _,by rw [HEM.out.2.2];exact World.ownsRow_nil _ _ _ _,(fun b hb=>by cases hb),HB3.out.trans (hb4.mono (by omega)),by rw [←hW4];simp;omega⟩)
  have HW4:=Lib.hid hW4
  have HX1:=Lib.hid hx1
  clear hW4 hx1 hb4
  go_upto_region 8 with fail
  rw [HW4.out,HX1.out]
  clear HW4 HX1 HBX HB3
  go_wp2
  go_loopw [8,9,10] (fun s8 s9 s10 wr=>∃ (i:Nat) (x:Slip) (vm vd vu:Value) (S:List Nat),s8=.int .i64 (i:Int)∧1≤i∧i≤n∧Aside (LR x0 ws i x S∧PX X w2 x va vm vd vu S wr∧Bd (i - 1) x∧x.after=x0.after)) (fun s8 _ _ _=>n - (intOf s8).toNat)
  case atStart=>exact ⟨1,x0,_,_,_,[],rfl,Nat.le_refl _,hn1,lr_start x0 ws,PX0.out,HBD.out,rfl⟩
  case round =>
   obtain ⟨i,x,vm,vd,vu,S,rfl,hi1,hin,hlr,hpx,hbd,haf⟩:=hrel
   have HLR:=Lib.hid (show LR x0 ws i x S from hlr)
   have PXR:=Lib.hid (show PX X w2 x va vm vd vu S wr from hpx)
   have HBR:=Lib.hid (show Bd (i - 1) x from hbd)
   have HAF:=Lib.hid (show x.after=x0.after from haf)
   clear hlr hpx hbd haf PX0
   have hpl:=(HAT.out wr PXR.out.low)
   by_cases hlt:i < n
   ·obtain ⟨y,hy⟩:∃ y,(l0::ws)[i]?=some y:=⟨_,List.getElem?_eq_getElem (by rw [HN.out];exact hlt)⟩
    have hyl:=HCL.out y (List.mem_of_getElem? hy)
    have cy:=prt_at hpl.2.2.1 hy
    have gl:=hpl.2.2.1.1
    have HWI:=Lib.hid (show ws[i - 1]?=some y by
     obtain ⟨m,rfl⟩:∃ m,i=m+1:=⟨i - 1,by omega⟩
     exact hy)
    have HYS:=Lib.hid (str_size y)
    clear hpl hy
    go_upto_region 11 with fail
    go_cut [55] (fun s55 wx=>s55=.bool (!isD y)∧wr=wx)
    case first =>
     have ey:(str y).size≤10000:=by rw [str_size];exact hyl
     by_cases hbb:y=[35,66,66]
     ·obtain ⟨q1,q2⟩:=lit_yes (a:=y) (c:=[35,66,66]) hbb
      have HI:=Lib.hid (isD_bb hbb)
      clear hbb
      go_wp2
      go_meet
      case rel=>exact ⟨by rw [HI.out];rfl,rfl⟩
     obtain ⟨q1,q2⟩:=lit_no (a:=y) (c:=[35,66,66]) hbb
     by_cases h4:y.length < 4
     ·have HI:=Lib.hid (show isD y=false by simpa using isD_short hbb h4)
      have e4:(str y).size < 4:=by rw [str_size];exact h4
      clear hbb h4
      go_wp2
      go_meet
      case rel=>exact ⟨by rw [HI.out];rfl,rfl⟩
     have e4:¬ (str y).size < 4:=by rw [str_size];exact h4
     have r4:=fun W=>sl_upto y (4:Int) 4 rfl (by omega) W
     by_cases ht:y.take 4=[35,66,66,32]
     ·obtain ⟨q3,q4⟩:=lit_yes (a:=y.take 4) (c:=[35,66,66,32]) ht
      have HI:=Lib.hid ((isD_long hbb (by omega)).2 ht)
      generalize y.take 4=y4 at *
      clear hbb h4 ht
      go_wp2
      go_meet
      case rel=>exact ⟨by rw [HI.out];first | rfl | (rw [show decide ((((str y).size:Nat):Int) < 4)=false from decide_eq_false (by omega)];rfl),rfl⟩
     ·obtain ⟨q3,q4⟩:=lit_no (a:=y.take 4) (c:=[35,66,66,32]) ht
      have HI:=Lib.hid (show isD y=false by
       cases h:isD y with
       | false=>rfl
       | true=>exact absurd ((isD_long hbb (by omega)).1 h) ht)
      generalize y.take 4=y4 at *
      clear hbb h4 ht
      go_wp2
      go_meet
      case rel=>exact ⟨by rw [HI.out];rfl,rfl⟩
    case rest =>
    obtain ⟨rfl,rfl⟩:=hcut
    cases hisd:isD y with
    | false =>
     have HNX:=Lib.hid (lr_skip HLR.out hi1 HWI.out (by rw [hisd];decide))
     clear hisd
     go_wp2
     go_roundw
     case rel=>exact ⟨i+1,x,vm,vd,vu,S,by go_num,by omega,by omega,HNX.out,PXR.out,bd_mono HBR.out (by omega),HAF.out⟩
     case measure=>simp [intOf];omega
    | true =>
     have HIS:=Lib.hid hisd
     clear hisd
     have HDP:=Lib.hid (fun (W:World)=>dParse_any y (by omega) W)
     obtain ⟨d,hd⟩:∃ d,ldir y=d:=⟨_,rfl⟩
     obtain ⟨er,her⟩:∃ er,lerr y=er:=⟨_,rfl⟩
     unfold ParseT at HDP
     rw [hd,her] at HDP
     have HD:=Lib.hid hd
     have HER:=Lib.hid her
     have HDO:=Lib.hid (dcs_one d)
     clear hd her
     unfold dV at HDP
     go_upto_region 13 with (first
      | (go_at_call 42;((with_reducible refine (HDP.out _).mono ?_);rintro e w4 ⟨rfl,hb⟩);have HB4:=Lib.hid hb;clear hb)
      | (refine wpList_store_row rfl _ _ _ rfl w4.heap.size (dcs d) rfl rfl _ _ (BoxA.new w4 _ _) (by kernel_rfl) rfl HDO.out ?_))
     obtain ⟨W5,hW5,hbd5,hb5⟩:=box_end w4 #[.int .u8 0,.string { data:=#[] },.string { data:=#[] },.int .i64 0,.bool false] (dcs d) 80
     rw [hW5]
     clear hW5 cy gl
     have HB5:=Lib.hid (HB4.out.trans (hb5.mono HB4.out.size))
     have PX5:=Lib.hid (PXR.out.next HB5.out)
     have HDB:=Lib.hid hbd5
     have HDX:=Lib.hid (show X+2≤w4.heap.size from Nat.le_trans PXR.out.hz HB4.out.size)
     have hpl:=HAT.out W5 PX5.out.low
     clear hbd5 hb5
     generalize w4.heap.size=dd at *
     by_cases he:er=0
     rotate_left
     ·have q5:(er != 0)=true:=by simp [he]
      have HNO:=Lib.hid (read_err HSL.out HCS.out HFS.out (lr_err HLR.out hi1 HWI.out HIS.out (by rw [HER.out];exact he)))
      rw [HER.out] at HNO
      clear he
      go_wp2_with (first
       | (refine wpList_store_row rfl _ _ _ rfl w.heap.size zz rfl rfl _ _ hpl.1 (by kernel_rfl) rfl (by kernel_rfl) ?_)
       | (refine wpList_store_row rfl _ _ _ rfl (w.heap.size+1) #[.int .i64 er,.int .i64 ((i+1:Nat):Int)] rfl rfl _ _ ((setRow_other _ _ _ _ (by omega)).trans hpl.2.1) (by kernel_rfl) rfl (spot_one _ _) ?_))
      exact slp_ret (x:=Slip.zero) (g:=g0) hpl.2.2.2 rfl rfl hpl.1 hpl.2.1 rfl (by rw [HNO.out]) (sr_zero _)
     have HCK:=Lib.hid (show chk d=true from HD.out ▸ sp.ldir_chk (by rw [HER.out];exact he))
     have HE0:=Lib.hid (show lerr y=0 from HER.out.trans he)
     have hk6:=(sp.chk_name HCK.out).2.2.2
     have hk1:1≤d.kind:=((chk_iff d).1 HCK.out).1.1
     have HBN:=Lib.hid (put_bd HBR.out HCK.out)
     subst he
     obtain ⟨kd,nm,pl,sz,op⟩:=d
     unfold dcs at HDB
     dsimp only at HDB hk6 hk1 HBN
     have n1:¬ dd=X:=by have:=HDX.out;omega
     have n2:¬ X=dd:=by have:=HDX.out;omega
     have n3:¬ dd=X+1:=by have:=HDX.out;omega
     have n4:¬ X+1=dd:=by have:=HDX.out;omega
     have HNE:=Lib.hid (And.intro n1 n3)
     clear hpl
     rcases six ⟨hk1,hk6⟩ with rfl | rfl | rfl | rfl | rfl | rfl
     ·have y0:=HDB.out.cell 0 _
      have y1:=HDB.out.cell 1 _
      have y2:=HDB.out.cell 2 _
      have y3:=HDB.out.cell 3 _
      have y4:=HDB.out.cell 4 _
      have yl:=HDB.out.lt
      have xl:=PX5.out.bx.lt
      have sl:=PX5.out.sb.lt
      have z0:=PX5.out.sb.cell 1 _
      by_cases hm:1∈S
      ·have HNO:=Lib.hid (read_err HSL.out HCS.out HFS.out (lr_twice HLR.out hi1 HWI.out HIS.out HE0.out HD.out ⟨(show (1:Nat)≤3 by decide),hm⟩))
       have zc:W5.cell? ⟨X+1,1,none⟩=some (.bool true):=by rw [←decide_eq_true hm];exact z0
       clear z0 hm
       go_wp2_with (first
        | (refine wpList_store_row rfl _ _ _ rfl w.heap.size zz rfl rfl _ _ (HAT.out W5 PX5.out.low).1 (by kernel_rfl) rfl (by kernel_rfl) ?_)
        | (refine wpList_store_row rfl _ _ _ rfl (w.heap.size+1) #[.int .i64 150,.int .i64 ((i+1:Nat):Int)] rfl rfl _ _ ((setRow_other _ _ _ _ (by omega)).trans (HAT.out W5 PX5.out.low).2.1) (by kernel_rfl) rfl (spot_one _ _) ?_))
       exact slp_ret (x:=Slip.zero) (g:=g0) (HAT.out W5 PX5.out.low).2.2.2 rfl rfl (HAT.out W5 PX5.out.low).1 (HAT.out W5 PX5.out.low).2.1 rfl (by rw [HNO.out]) (sr_zero _)
      have HLN:=Lib.hid (lr_next HLR.out hi1 HWI.out HIS.out HE0.out HD.out (fun h=>hm h.2))
      have zc:W5.cell? ⟨X+1,1,none⟩=some (.bool false):=by rw [←decide_eq_false hm];exact z0
      have zf:=PX5.out.sb.free 1
      clear z0 hm
      go_upto_region 19 with fail
      have PX6:=Lib.hid (PX5.out.seen 1 (by decide))
      have HDB6:=Lib.hid (HDB.out.but ((But.refl (X+1) W5).setCell 1 (.bool true)) HNE.out.2)
      obtain ⟨W6,hW6⟩:∃ W6,W5.setCell ⟨X+1,1,none⟩ (.bool true)=W6:=⟨_,rfl⟩
      rw [hW6] at PX6 HDB6
      rw [hW6]
      clear hW6 y0 y1 y2 y3 y4 yl xl sl zc zf
      have y0:=HDB6.out.cell 0 _
      have y1:=HDB6.out.cell 1 _
      have y2:=HDB6.out.cell 2 _
      have y3:=HDB6.out.cell 3 _
      have y4:=HDB6.out.cell 4 _
      have yl:=HDB6.out.lt
      have xl:=PX6.out.bx.lt
      have t5:=PX6.out.bx.cell 5 _
      have f5:=PX6.out.bx.free 5
      go_upto_region 22 with fail
      have PX7:=Lib.hid (PX6.out.put (y:={ x with cap:=sz }) 5 (.int .i64 sz) rfl rfl rfl rfl)
      have HDB7:=Lib.hid (HDB6.out.but ((But.refl X W6).setCell 5 (.int .i64 sz)) HNE.out.1)
      obtain ⟨W7,hW7⟩:∃ W7,W6.setCell ⟨X,5,none⟩ (.int .i64 sz)=W7:=⟨_,rfl⟩
      rw [hW7] at PX7 HDB7
      rw [hW7]
      clear hW7 y0 y1 y2 y3 y4 yl xl t5 f5
      have y2:=HDB7.out.cell 2 _
      have yl:=HDB7.out.lt
      have xl:=PX7.out.bx.lt
      have t8:=PX7.out.bx.cell 8 _
      have f8:=PX7.out.bx.free 8
      go_wp2
      go_roundw
      case rel=>exact ⟨i+1,_,vm,vd,vu,_,by go_num,by omega,by omega,HLN.out,PX7.out.put (y:={ x with cap:=sz,pool:=pl }) 8 (.string (str pl)) rfl rfl rfl rfl,bd_mono HBN.out (by omega),HAF.out⟩
      case measure=>simp [intOf];omega
     ·have y0:=HDB.out.cell 0 _
      have y1:=HDB.out.cell 1 _
      have y2:=HDB.out.cell 2 _
      have y3:=HDB.out.cell 3 _
      have y4:=HDB.out.cell 4 _
      have yl:=HDB.out.lt
      have xl:=PX5.out.bx.lt
      have sl:=PX5.out.sb.lt
      have z0:=PX5.out.sb.cell 2 _
      by_cases hm:2∈S
      ·have HNO:=Lib.hid (read_err HSL.out HCS.out HFS.out (lr_twice HLR.out hi1 HWI.out HIS.out HE0.out HD.out ⟨(show (2:Nat)≤3 by decide),hm⟩))
       have zc:W5.cell? ⟨X+1,2,none⟩=some (.bool true):=by rw [←decide_eq_true hm];exact z0
       clear z0 hm
       go_wp2_with (first
        | (refine wpList_store_row rfl _ _ _ rfl w.heap.size zz rfl rfl _ _ (HAT.out W5 PX5.out.low).1 (by kernel_rfl) rfl (by kernel_rfl) ?_)
        | (refine wpList_store_row rfl _ _ _ rfl (w.heap.size+1) #[.int .i64 150,.int .i64 ((i+1:Nat):Int)] rfl rfl _ _ ((setRow_other _ _ _ _ (by omega)).trans (HAT.out W5 PX5.out.low).2.1) (by kernel_rfl) rfl (spot_one _ _) ?_))
       exact slp_ret (x:=Slip.zero) (g:=g0) (HAT.out W5 PX5.out.low).2.2.2 rfl rfl (HAT.out W5 PX5.out.low).1 (HAT.out W5 PX5.out.low).2.1 rfl (by rw [HNO.out]) (sr_zero _)
      have HLN:=Lib.hid (lr_next HLR.out hi1 HWI.out HIS.out HE0.out HD.out (fun h=>hm h.2))
      have zc:W5.cell? ⟨X+1,2,none⟩=some (.bool false):=by rw [←decide_eq_false hm];exact z0
      have zf:=PX5.out.sb.free 2
      clear z0 hm
      go_upto_region 19 with fail
      have PX6:=Lib.hid (PX5.out.seen 2 (by decide))
      have HDB6:=Lib.hid (HDB.out.but ((But.refl (X+1) W5).setCell 2 (.bool true)) HNE.out.2)
      obtain ⟨W6,hW6⟩:∃ W6,W5.setCell ⟨X+1,2,none⟩ (.bool true)=W6:=⟨_,rfl⟩
      rw [hW6] at PX6 HDB6
      rw [hW6]
      clear hW6 y0 y1 y2 y3 y4 yl xl sl zc zf
      have y0:=HDB6.out.cell 0 _
      have y1:=HDB6.out.cell 1 _
      have y2:=HDB6.out.cell 2 _
      have y3:=HDB6.out.cell 3 _
      have y4:=HDB6.out.cell 4 _
      have yl:=HDB6.out.lt
      have xl:=PX6.out.bx.lt
      have t5:=PX6.out.bx.cell 6 _
      have f5:=PX6.out.bx.free 6
      go_wp2
      go_roundw
      case rel=>exact ⟨i+1,_,vm,vd,vu,_,by go_num,by omega,by omega,HLN.out,PX6.out.put (y:={ x with inn:=sz }) 6 (.int .i64 sz) rfl rfl rfl rfl,bd_mono HBN.out (by omega),HAF.out⟩
      case measure=>simp [intOf];omega
     ·have y0:=HDB.out.cell 0 _
      have y1:=HDB.out.cell 1 _
      have y2:=HDB.out.cell 2 _
      have y3:=HDB.out.cell 3 _
      have y4:=HDB.out.cell 4 _
      have yl:=HDB.out.lt
      have xl:=PX5.out.bx.lt
      have sl:=PX5.out.sb.lt
      have z0:=PX5.out.sb.cell 3 _
      by_cases hm:3∈S
      ·have HNO:=Lib.hid (read_err HSL.out HCS.out HFS.out (lr_twice HLR.out hi1 HWI.out HIS.out HE0.out HD.out ⟨(show (3:Nat)≤3 by decide),hm⟩))
       have zc:W5.cell? ⟨X+1,3,none⟩=some (.bool true):=by rw [←decide_eq_true hm];exact z0
       clear z0 hm
       go_wp2_with (first
        | (refine wpList_store_row rfl _ _ _ rfl w.heap.size zz rfl rfl _ _ (HAT.out W5 PX5.out.low).1 (by kernel_rfl) rfl (by kernel_rfl) ?_)
        | (refine wpList_store_row rfl _ _ _ rfl (w.heap.size+1) #[.int .i64 150,.int .i64 ((i+1:Nat):Int)] rfl rfl _ _ ((setRow_other _ _ _ _ (by omega)).trans (HAT.out W5 PX5.out.low).2.1) (by kernel_rfl) rfl (spot_one _ _) ?_))
       exact slp_ret (x:=Slip.zero) (g:=g0) (HAT.out W5 PX5.out.low).2.2.2 rfl rfl (HAT.out W5 PX5.out.low).1 (HAT.out W5 PX5.out.low).2.1 rfl (by rw [HNO.out]) (sr_zero _)
      have HLN:=Lib.hid (lr_next HLR.out hi1 HWI.out HIS.out HE0.out HD.out (fun h=>hm h.2))
      have zc:W5.cell? ⟨X+1,3,none⟩=some (.bool false):=by rw [←decide_eq_false hm];exact z0
      have zf:=PX5.out.sb.free 3
      clear z0 hm
      go_upto_region 19 with fail
      have PX6:=Lib.hid (PX5.out.seen 3 (by decide))
      have HDB6:=Lib.hid (HDB.out.but ((But.refl (X+1) W5).setCell 3 (.bool true)) HNE.out.2)
      obtain ⟨W6,hW6⟩:∃ W6,W5.setCell ⟨X+1,3,none⟩ (.bool true)=W6:=⟨_,rfl⟩
      rw [hW6] at PX6 HDB6
      rw [hW6]
      clear hW6 y0 y1 y2 y3 y4 yl xl sl zc zf
      have y0:=HDB6.out.cell 0 _
      have y1:=HDB6.out.cell 1 _
      have y2:=HDB6.out.cell 2 _
      have y3:=HDB6.out.cell 3 _
      have y4:=HDB6.out.cell 4 _
      have yl:=HDB6.out.lt
      have xl:=PX6.out.bx.lt
      have t5:=PX6.out.bx.cell 7 _
      have f5:=PX6.out.bx.free 7
      go_wp2
      go_roundw
      case rel=>exact ⟨i+1,_,vm,vd,vu,_,by go_num,by omega,by omega,HLN.out,PX6.out.put (y:={ x with out:=sz }) 7 (.int .i64 sz) rfl rfl rfl rfl,bd_mono HBN.out (by omega),HAF.out⟩
      case measure=>simp [intOf];omega
     ·have y0:=HDB.out.cell 0 _
      have y1:=HDB.out.cell 1 _
      have y2:=HDB.out.cell 2 _
      have y3:=HDB.out.cell 3 _
      have y4:=HDB.out.cell 4 _
      have yl:=HDB.out.lt
      have xl:=PX5.out.bx.lt
      have sl:=PX5.out.sb.lt
      have HLN:=Lib.hid (lr_next HLR.out hi1 HWI.out HIS.out HE0.out HD.out (fun h=>absurd (show (4:Nat)≤3 from h.1) (by decide)))
      have PX6:=Lib.hid (PX5.out.other 4 (by decide))
      have HDB6:=HDB
      go_upto_region 19 with fail
      obtain ⟨W6,hW6⟩:∃ W6,W6=W5:=⟨_,rfl⟩
      subst hW6
      clear y0 y1 y2 y3 y4 yl xl sl
      have y0:=HDB6.out.cell 0 _
      have y1:=HDB6.out.cell 1 _
      have y2:=HDB6.out.cell 2 _
      have y3:=HDB6.out.cell 3 _
      have y4:=HDB6.out.cell 4 _
      have yl:=HDB6.out.lt
      have xl:=PX6.out.bx.lt
      have t5:=PX6.out.bx.cell 9 _
      have f5:=PX6.out.bx.free 9
      have HW9:=Lib.hid ((Below.refl _ W6).alloc (Nat.le_refl _) (.cells #[.int .u8 4,.string (str nm),.string (str pl),.int .i64 sz,.bool op] 80))
      have PX9:=Lib.hid (PX6.out.next HW9.out)
      have HCC2:=Lib.hid (row_cells' W6 (cM ⟨4,nm,pl,sz,op⟩) 80)
      have HA5:=Lib.hid (show x.make.length≤1000000 by have:=HBR.out.make.1;omega)
      have HZ9:=Lib.hid (show X+2≤W6.heap.size from PX6.out.hz)
      go_wp2_with (at_builtin;refine wpl_own2 eltM rfl _ _ rfl (base:=X+2) (n:=x.make.length) (cs:=flM x.make) (v:=vm) rfl PX9.out.m ⟨W6.heap.size,0,none⟩ (cM ⟨4,nm,pl,sz,op⟩) rfl HCC2.out rfl (cM_one _) HA5.out (by decide) (Nat.le_trans HZ9.out HW9.out.size) ?_;intro gb cb w9 h1 h2 h3;have FP:=Lib.hid (PX.push_m PX6.out HW9.out h2 ⟨4,nm,pl,sz,op⟩ (v':=.slice (some ⟨gb,0,none⟩) (x.make.length+1) cb) h1 (h3.imp (fun e=>e) (fun e=>congrArg Option.some e)));have k9:BoxA w9 X 27 _:=(h2.block X PX9.out.bx.lt (fun e=>by have:=(World.ownsRow.lt PX9.out.m _ e.symm).1;omega)).trans PX9.out.bx;have e9:=k9.cell 9 _;have f9:=k9.free 9;have l9:=k9.lt;clear h1 h2 h3 k9)
      go_roundw
      case rel=>exact ⟨i+1,_,_,vd,vu,_,by go_num,by omega,by omega,HLN.out,FP.out,bd_mono HBN.out (by omega),HAF.out⟩
      case measure=>simp [intOf];omega
     ·have y0:=HDB.out.cell 0 _
      have y1:=HDB.out.cell 1 _
      have y2:=HDB.out.cell 2 _
      have y3:=HDB.out.cell 3 _
      have y4:=HDB.out.cell 4 _
      have yl:=HDB.out.lt
      have xl:=PX5.out.bx.lt
      have sl:=PX5.out.sb.lt
      have HLN:=Lib.hid (lr_next HLR.out hi1 HWI.out HIS.out HE0.out HD.out (fun h=>absurd (show (5:Nat)≤3 from h.1) (by decide)))
      have PX6:=Lib.hid (PX5.out.other 5 (by decide))
      have HDB6:=HDB
      go_upto_region 19 with fail
      obtain ⟨W6,hW6⟩:∃ W6,W6=W5:=⟨_,rfl⟩
      subst hW6
      clear y0 y1 y2 y3 y4 yl xl sl
      have y0:=HDB6.out.cell 0 _
      have y1:=HDB6.out.cell 1 _
      have y2:=HDB6.out.cell 2 _
      have y3:=HDB6.out.cell 3 _
      have y4:=HDB6.out.cell 4 _
      have yl:=HDB6.out.lt
      have xl:=PX6.out.bx.lt
      have t5:=PX6.out.bx.cell 10 _
      have f5:=PX6.out.bx.free 10
      have HW9:=Lib.hid ((Below.refl _ W6).alloc (Nat.le_refl _) (.cells #[.string (str nm)] 9))
      have PX9:=Lib.hid (PX6.out.next HW9.out)
      have HCC2:=Lib.hid (row_cells' W6 (cS nm) 9)
      have HA5:=Lib.hid (show x.drop.length≤1000000 by have:=HBR.out.drop.1;omega)
      have HZ9:=Lib.hid (show X+2≤W6.heap.size from PX6.out.hz)
      go_wp2_with (at_builtin;refine wpl_own2 eltS rfl _ _ rfl (base:=X+2) (n:=x.drop.length) (cs:=flS x.drop) (v:=vd) rfl PX9.out.d ⟨W6.heap.size,0,none⟩ (cS nm) rfl HCC2.out rfl (cS_one nm) HA5.out (by decide) (Nat.le_trans HZ9.out HW9.out.size) ?_;intro gb cb w9 h1 h2 h3;have FP:=Lib.hid (PX.push_d PX6.out HW9.out h2 nm (v':=.slice (some ⟨gb,0,none⟩) (x.drop.length+1) cb) h1 (h3.imp (fun e=>e) (fun e=>congrArg Option.some e)));have k9:BoxA w9 X 27 _:=(h2.block X PX9.out.bx.lt (fun e=>by have:=(World.ownsRow.lt PX9.out.d _ e.symm).1;omega)).trans PX9.out.bx;have e9:=k9.cell 10 _;have f9:=k9.free 10;have l9:=k9.lt;clear h1 h2 h3 k9)
      go_roundw
      case rel=>exact ⟨i+1,_,vm,_,vu,_,by go_num,by omega,by omega,HLN.out,FP.out,bd_mono HBN.out (by omega),HAF.out⟩
      case measure=>simp [intOf];omega
     ·have y0:=HDB.out.cell 0 _
      have y1:=HDB.out.cell 1 _
      have y2:=HDB.out.cell 2 _
      have y3:=HDB.out.cell 3 _
      have y4:=HDB.out.cell 4 _
      have yl:=HDB.out.lt
      have xl:=PX5.out.bx.lt
      have sl:=PX5.out.sb.lt
      have HLN:=Lib.hid (lr_next HLR.out hi1 HWI.out HIS.out HE0.out HD.out (fun h=>absurd (show (6:Nat)≤3 from h.1) (by decide)))
      have PX6:=Lib.hid (PX5.out.other 6 (by decide))
      have HDB6:=HDB
      go_upto_region 19 with fail
      obtain ⟨W6,hW6⟩:∃ W6,W6=W5:=⟨_,rfl⟩
      subst hW6
      clear y0 y1 y2 y3 y4 yl xl sl
      have y0:=HDB6.out.cell 0 _
      have y1:=HDB6.out.cell 1 _
      have y2:=HDB6.out.cell 2 _
      have y3:=HDB6.out.cell 3 _
      have y4:=HDB6.out.cell 4 _
      have yl:=HDB6.out.lt
      have xl:=PX6.out.bx.lt
      have t5:=PX6.out.bx.cell 11 _
      have f5:=PX6.out.bx.free 11
      have HW9:=Lib.hid ((Below.refl _ W6).alloc (Nat.le_refl _) (.cells #[.string (str nm)] 9))
      have PX9:=Lib.hid (PX6.out.next HW9.out)
      have HCC2:=Lib.hid (row_cells' W6 (cS nm) 9)
      have HA5:=Lib.hid (show x.use.length≤1000000 by have:=HBR.out.use.1;omega)
      have HZ9:=Lib.hid (show X+2≤W6.heap.size from PX6.out.hz)
      go_wp2_with (at_builtin;refine wpl_own2 eltS rfl _ _ rfl (base:=X+2) (n:=x.use.length) (cs:=flS x.use) (v:=vu) rfl PX9.out.u ⟨W6.heap.size,0,none⟩ (cS nm) rfl HCC2.out rfl (cS_one nm) HA5.out (by decide) (Nat.le_trans HZ9.out HW9.out.size) ?_;intro gb cb w9 h1 h2 h3;have FP:=Lib.hid (PX.push_u PX6.out HW9.out h2 nm (v':=.slice (some ⟨gb,0,none⟩) (x.use.length+1) cb) h1 (h3.imp (fun e=>e) (fun e=>congrArg Option.some e)));have k9:BoxA w9 X 27 _:=(h2.block X PX9.out.bx.lt (fun e=>by have:=(World.ownsRow.lt PX9.out.u _ e.symm).1;omega)).trans PX9.out.bx;have e9:=k9.cell 11 _;have f9:=k9.free 11;have l9:=k9.lt;clear h1 h2 h3 k9)
      go_roundw
      case rel=>exact ⟨i+1,_,vm,vd,_,_,by go_num,by omega,by omega,HLN.out,FP.out,bd_mono HBN.out (by omega),HAF.out⟩
      case measure=>simp [intOf];omega
   ·obtain rfl:i=n:=by omega
    have HRO:=Lib.hid (read_ok HSL.out HCS.out HFS.out (lr_end HLR.out HWN.out.symm))
    have HVX:=Lib.hid (show w2.ownsRow (w.heap.size+2) 88 2 va x.after.length (flA x.after) by rw [HAF.out];exact HVA.out)
    have HRR:=Lib.hid (PXR.out.sr HXE.out (ApC.rdc (.inr HVX.out)) (cp_own HVX.out))
    have HCK:=Lib.hid (dCheck_slip x ⟨va,vm,vd,vu⟩ wr HRR.out (Bd.sw HBR.out) (Bd.mid HBR.out (by omega)))
    obtain ⟨d0,d1,d2,d3,d4,d5,d6,d7,d8,d9,d10,d11,dl⟩:=cel_box PXR.out.bx
    dsimp only at d0 d1 d2 d3 d4 d5 d6 d7 d8 d9 d10 d11
    unfold sV scs at HCK
    dsimp only at HCK
    by_cases hc:chkS x=true
    ·rw [show sE x=0 by unfold sE;rw [if_pos hc]] at HCK
     have HOK:=Lib.hid (show sread s=(x,0,0) by rw [HRO.out,if_pos hc])
     clear hc hpl
     go_upto_region 35 with (go_at_call 43;go_loud ((with_reducible refine HCK.out.mono ?_);rintro e w7 ⟨rfl,hb⟩);have PX7:=Lib.hid (PXR.out.next hb);clear hb)
     clear d0 d1 d2 d3 d4 d5 d6 d7 d8 d9 d10 d11 dl
     obtain ⟨d0,d1,d2,d3,d4,d5,d6,d7,d8,d9,d10,d11,dl⟩:=cel_box PX7.out.bx
     dsimp only at d0 d1 d2 d3 d4 d5 d6 d7 d8 d9 d10 d11
     go_wp2_with (first
      | (refine wpList_store_row rfl _ _ _ rfl w.heap.size (scs x ⟨va,vm,vd,vu⟩) rfl rfl _ _ (HAT.out w7 PX7.out.low).1 (by kernel_rfl) rfl (scs_one HRR.out) ?_)
      | (refine wpList_store_row rfl _ _ _ rfl (w.heap.size+1) #[.int .i64 0,.int .i64 0] rfl rfl _ _ ((setRow_other _ _ _ _ (by omega)).trans (HAT.out w7 PX7.out.low).2.1) (by kernel_rfl) rfl (spot_one _ _) ?_))
     exact slp_ret (x:=x) (g:=⟨va,vm,vd,vu⟩) (HAT.out w7 PX7.out.low).2.2.2 rfl rfl (HAT.out w7 PX7.out.low).1 (HAT.out w7 PX7.out.low).2.1 rfl (by rw [HOK.out];rfl) (px_final PX7.out HXE.out HVX.out HPX2.out _ _)
    ·rw [show sE x=150 by unfold sE;rw [if_neg hc]] at HCK
     have HNO:=Lib.hid (show sread s=(Slip.zero,150,i) by rw [HRO.out,if_neg hc,HWN.out])
     clear hc hpl
     go_upto_region 34 with (go_at_call 43;go_loud ((with_reducible refine HCK.out.mono ?_);rintro e w7 ⟨rfl,hb⟩);have PX7:=Lib.hid (PXR.out.next hb);clear hb)
     go_wp2_with (first
      | (refine wpList_store_row rfl _ _ _ rfl w.heap.size zz rfl rfl _ _ (HAT.out w7 PX7.out.low).1 (by kernel_rfl) rfl (by kernel_rfl) ?_)
      | (refine wpList_store_row rfl _ _ _ rfl (w.heap.size+1) #[.int .i64 150,.int .i64 (i:Int)] rfl rfl _ _ ((setRow_other _ _ _ _ (by omega)).trans (HAT.out w7 PX7.out.low).2.1) (by kernel_rfl) rfl (spot_one _ _) ?_))
     exact slp_ret (x:=Slip.zero) (g:=g0) (HAT.out w7 PX7.out.low).2.2.2 rfl rfl (HAT.out w7 PX7.out.low).1 (HAT.out w7 PX7.out.low).2.1 rfl (by rw [HNO.out]) (sr_zero _)
end Go.Proofs.YtekcjfdllclphaaGreatDoor.gn
end
