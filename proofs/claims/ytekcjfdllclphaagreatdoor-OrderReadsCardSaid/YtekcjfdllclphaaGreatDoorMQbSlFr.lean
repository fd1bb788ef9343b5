/- The document's first. (Written by gen_slFr.py.) -/
import Derived.Test.YtekcjfdllclphaaGreatDoorMQbSlTx
import Derived.Deep.DeepCutAuto
import Derived.Deep.CutBlock
import Derived.Deep.RegionHeld3
set_option linter.unusedVariables false
set_option linter.unusedSimpArgs false
section
namespace Go.Proofs.YtekcjfdllclphaaGreatDoor.gn
open Go.RowKit
open Go.Proofs.YtekcjfdllclphaaGreatDoor.un
open Go.Proofs.YtekcjfdllclphaaGreatDoor.di
open Go.Proofs.YtekcjfdllclphaaGreatDoor.sp (Slip cutB cuts cuts_ne key2 five KeysOk fput fput_five frun LeftF left_start left_next left_nocut left_no left_end first? first_fin first_non first_noj key_in key_out keys_more jobW userK nodesK wallK qosK afterK within? dep? okW anyW)
theorem split_sp (l:Tx) (hl:l.length≤100000) (w:World):Calls Tryz.prog 20 #[.string (str l),.int .u8 32] w fun e w'=>∃ v,e=.returned v∧Wds w.heap.size w' v (cuts 32 l)∧Below w.heap.size w w':=Split_any 32 l hl w
theorem split_co (l:Tx) (hl:l.length≤100000) (w:World):Calls Tryz.prog 20 #[.string (str l),.int .u8 44] w fun e w'=>∃ v,e=.returned v∧Wds w.heap.size w' v (cuts 44 l)∧Below w.heap.size w w':=Split_any 44 l hl w
theorem cut_eq (l:Tx) (hl:l.length≤100000) (w:World):Calls Tryz.prog 71 #[.string (str l),.int .u8 61] w (Told (cutV 61 l) w):=dcut_any 61 l hl w
theorem cut_col (l:Tx) (hl:l.length≤100000) (w:World):Calls Tryz.prog 71 #[.string (str l),.int .u8 58] w (Told (cutV 58 l) w):=dcut_any 58 l hl w
theorem cuts_len (c:UInt8):∀ l:Tx,(cuts c l).length≤l.length+1∧∀ p∈cuts c l,p.length≤l.length
 | []=>by simp [cuts]
 | b::r=>by
  obtain ⟨h1,h2⟩:=cuts_len c r
  unfold cuts
  split
  ·refine ⟨by simp;omega,fun p hp=>?_⟩
   rcases List.mem_cons.1 hp with rfl | hp
   ·simp
   ·have:=h2 p hp;simp;omega
  ·cases hr:cuts c r with
   | nil=>exact absurd hr (cuts_ne c r)
   | cons h t =>
    rw [hr] at h1 h2
    refine ⟨by simp at h1 ⊢;omega,fun p hp=>?_⟩
    rcases List.mem_cons.1 hp with rfl | hp
    ·have:=h2 h (by simp);simp;omega
    ·have:=h2 p (by simp [hp]);simp;omega
theorem cutB_len {c:UInt8}:∀ {l k v:Tx},cutB c l=some (k,v)→k.length≤l.length∧v.length≤l.length
 | [],k,v,h=>by cases h
 | b::r,k,v,h=>by
  unfold cutB at h
  split at h
  ·cases h;simp
  ·cases hr:cutB c r with
   | none=>rw [hr] at h;cases h
   | some f =>
    obtain ⟨k2,v2⟩:=f
    rw [hr] at h
    cases h
    have:=cutB_len hr
    simp;omega
theorem within_le {s:Tx} {a b n:Nat} (h:within? s a b=some n):a≤n∧n≤b:=by
 unfold within? at h
 split at h
 ·split at h
  ·cases h;assumption
  ·cases h
 ·cases h
def ndL (m:Nat):UInt8:=if m=0 then 117 else if m=1 then 110 else 119
structure Sw (P:Nat) (w0:World) (gp:Nat) (PL:List Tx) (x:Slip) (key val:Tx) (b:Bool) (y:Slip) (v:Value) (W:World):Prop where
 fx:FX P w0 gp PL y v W
 yes:b=true→fput x (key,val)=some y
 no:b=false→fput x (key,val)=none
 af:y.after=x.after∨key=afterK
set_option maxRecDepth 100000 in
set_option maxHeartbeats 32000000 in
theorem dfirst_any (l:Tx) (hl:l.length≤10000) (w:World):Calls Tryz.prog 41 #[.string (str l)] w (FiT l w):=by
 have HSP:=Lib.hid (fun (W:World)=>split_sp l (by omega) W)
 obtain ⟨j,ws,hcs⟩:∃ j ws,cuts 32 l=j::ws:=by
  cases h:cuts 32 l with
  | nil=>exact absurd h (cuts_ne 32 l)
  | cons a b=>exact ⟨a,b,rfl⟩
 have hcl:=cuts_len 32 l
 rw [hcs] at hcl HSP
 have HCS:=Lib.hid hcs
 have HCL:=Lib.hid (fun (p:Tx) (hp:p∈j::ws)=>(show p.length≤10000 from Nat.le_trans (hcl.2 p hp) hl))
 have hnl:(j::ws).length≤10001:=by have:=hcl.1;omega
 obtain ⟨n,hn⟩:∃ n,(j::ws).length=n:=⟨_,rfl⟩
 rw [hn] at hnl
 have hn1:1≤n:=by rw [←hn];simp
 have HN:=Lib.hid hn
 have HWN:=Lib.hid (show ws.length+1=n from hn)
 clear hcs hcl hn
 go_enter Tryz.func41,Tryz.ntmps41
 obtain ⟨W0,hW0,hpr,hbx,hlow,hsz⟩:=two_zero w 27 zz
 have HP0:=Lib.hid hpr
 have HB0:=Lib.hid hbx
 have HL0:=Lib.hid hlow
 have HZ0:=Lib.hid hsz
 have HW0:=Lib.hid (show ((w.alloc (.cells #[.string { data:=#[] },.int .i64 0,.int .i64 0,.int .i64 0,.slice none 0 0,.int .i64 0,.int .i64 0,.int .i64 0,.string { data:=#[] },.slice none 0 0,.slice none 0 0,.slice none 0 0] 27)).alloc (.cells #[.string { data:=#[] },.int .i64 0,.int .i64 0,.int .i64 0,.slice none 0 0,.int .i64 0,.int .i64 0,.int .i64 0,.string { data:=#[] },.slice none 0 0,.slice none 0 0,.slice none 0 0] 27)).setRow (w.heap.size+1) zz=W0 from hW0)
 have hbz:BoxA ((w.alloc (.cells zz 27)).alloc (.cells zz 27)) (w.heap.size+1) 27 zz:=by
  have:=BoxA.new (w.alloc (.cells zz 27)) 27 zz
  rwa [World.size_alloc] at this
 have HBZ:=Lib.hid hbz
 clear hpr hbx hlow hsz hW0 hbz
 go_upto_region 2 with (refine wpList_store_row rfl _ _ _ rfl (w.heap.size+1) zz rfl rfl _ _ HBZ.out (by kernel_rfl) rfl (by kernel_rfl) ?_)
 rw [HW0.out]
 go_upto_region 4 with (go_at_call 20;((with_reducible refine (HSP.out _).mono ?_);rintro e w1 ⟨v,rfl,⟨gp,cp,rfl,hps,hcp,hgb⟩,hb⟩);have A1:=Lib.hid hb;have HPS:=Lib.hid hps;have HGP:=Lib.hid hgb;rw [HN.out];clear hb hps hcp hgb)
 have F1:=Lib.hid (show FX w.heap.size w gp (j::ws) Slip.zero (.slice none 0 0) w1 from ⟨HP0.out.next A1.out,HB0.out.next A1.out,World.ownsRow_nil _ _ _ _,HL0.out.trans (A1.out.mono HL0.out.size),Nat.le_trans HZ0.out A1.out.size,⟨rfl,rfl,rfl⟩,HPS.out,by have:=HGP.out;have:=HZ0.out;omega,(fun e=>by cases e)⟩)
 have cy0:=prt_at HPS.out (show (j::ws)[0]?=some j from rfl)
 have gl0:=HPS.out.1
 clear HP0 HB0 HL0 HZ0 HW0 HBZ HPS HGP A1
 have d0:=F1.out.bx.cell 0 _
 have d1:=F1.out.bx.cell 1 _
 have d2:=F1.out.bx.cell 2 _
 have d3:=F1.out.bx.cell 3 _
 have d4:=F1.out.bx.cell 4 _
 have d5:=F1.out.bx.cell 5 _
 have d6:=F1.out.bx.cell 6 _
 have d7:=F1.out.bx.cell 7 _
 have d8:=F1.out.bx.cell 8 _
 have d9:=F1.out.bx.cell 9 _
 have d10:=F1.out.bx.cell 10 _
 have d11:=F1.out.bx.cell 11 _
 have dl:=F1.out.bx.lt
 have pl:=F1.out.pr.lt
 by_cases hj:j=jobW
 rotate_left
 ·obtain ⟨q1,q2⟩:=lit_no (a:=j) (c:=[106,111,98]) hj
  have HNO:=Lib.hid (first_noj HCS.out hj)
  clear hj
  go_wp2_with (refine wpList_store_row rfl _ _ _ rfl w.heap.size (scs Slip.zero (gA (.slice none 0 0))) rfl rfl _ _ F1.out.pr (by kernel_rfl) rfl F1.out.one ?_)
  exact first_ret (b:=false) F1.out rfl (HNO.out) rfl rfl
 obtain ⟨q1,q2⟩:=lit_yes (a:=j) (c:=[106,111,98]) hj
 have HCJ:=Lib.hid (show cuts 32 l=jobW::ws by rw [HCS.out,hj])
 clear hj
 go_wp2
 clear q1 q2 cy0 gl0
 clear d0 d1 d2 d3 d4 d5 d6 d7 d8 d9 d10 d11 dl pl
 go_loopw [6,7,8,9,10,11,12,13,14,15,16,17,18,19] (fun s6 s7 s8 s9 s10 s11 s12 s13 s14 s15 s16 s17 s18 s19 wr=>∃ (i:Nat) (x:Slip) (v:Value) (K:List Tx) (sn:Tx),s6=.string (str sn)∧s7=.int .i64 (i:Int)∧1≤i∧i≤n∧sn.length < i∧Aside (LeftF ws (i - 1) x K∧KeysOk K∧FX w.heap.size w gp (j::ws) x v wr∧(afterK∈K∨x.after=[])∧sn=K.map key2)) (fun _ s7 _ _ _ _ _ _ _ _ _ _ _ _ _=>n - (intOf s7).toNat)
 case atStart=>exact ⟨1,Slip.zero,.slice none 0 0,[],[],rfl,rfl,Nat.le_refl _,hn1,by decide,left_start ws,(fun k hk=>by cases hk),F1.out,.inr rfl,rfl⟩
 case round =>
  obtain ⟨i,x,v,K,sn,rfl,rfl,hi1,hin,hsl,hleft,hko,hfx,haf,hsn⟩:=hrel
  have HLEFT:=Lib.hid (show LeftF ws (i - 1) x K from hleft)
  have HKO:=Lib.hid (show KeysOk K from hko)
  have FXR:=Lib.hid (show FX w.heap.size w gp (j::ws) x v wr from hfx)
  have HAF:=Lib.hid (show afterK∈K∨x.after=[] from haf)
  have HSN:=Lib.hid (show sn=K.map key2 from hsn)
  clear hleft hko hfx haf hsn F1
  have e6:(str sn).size≤10001:=by rw [str_size];omega
  by_cases hlt:i < n
  ·obtain ⟨wi,hwi⟩:∃ wi,(j::ws)[i]?=some wi:=⟨_,List.getElem?_eq_getElem (by rw [HN.out];exact hlt)⟩
   have hwl:=HCL.out wi (List.mem_of_getElem? hwi)
   have cy:=prt_at FXR.out.ps hwi
   have gl:=FXR.out.ps.1
   have HWI:=Lib.hid (show ws[i - 1]?=some wi by
    obtain ⟨m,rfl⟩:∃ m,i=m+1:=⟨i - 1,by omega⟩
    exact hwi)
   have HCE:=Lib.hid (fun (W:World)=>cut_eq wi (by omega) W)
   clear hwi
   cases hcb:cutB 61 wi with
   | none =>
    have HV:=Lib.hid (show cutV 61 wi=.tuple #[.string (str wi),.string ({ data:=#[] }:ByteArray),.bool false] by unfold cutV;rw [hcb])
    have HNO:=Lib.hid (first_non HCJ.out (left_nocut HLEFT.out HWI.out hcb))
    rw [HV.out] at HCE
    clear hcb
    go_upto_region 10 with (go_at_call 71;((with_reducible refine (HCE.out _).mono ?_);rintro e w2 ⟨rfl,hb⟩);have F2:=Lib.hid (FXR.out.next hb);clear hb)
    have d0:=F2.out.bx.cell 0 _
    have d1:=F2.out.bx.cell 1 _
    have d2:=F2.out.bx.cell 2 _
    have d3:=F2.out.bx.cell 3 _
    have d4:=F2.out.bx.cell 4 _
    have d5:=F2.out.bx.cell 5 _
    have d6:=F2.out.bx.cell 6 _
    have d7:=F2.out.bx.cell 7 _
    have d8:=F2.out.bx.cell 8 _
    have d9:=F2.out.bx.cell 9 _
    have d10:=F2.out.bx.cell 10 _
    have d11:=F2.out.bx.cell 11 _
    have dl:=F2.out.bx.lt
    have pl:=F2.out.pr.lt
    go_wp2_with (refine wpList_store_row rfl _ _ _ rfl w.heap.size (scs x (gA v)) rfl rfl _ _ F2.out.pr (by kernel_rfl) rfl F2.out.one ?_)
    exact first_ret (b:=false) F2.out rfl (HNO.out) rfl rfl
   | some f =>
    obtain ⟨key,val⟩:=f
    have HV:=Lib.hid (show cutV 61 wi=.tuple #[.string (str key),.string (str val),.bool true] by unfold cutV;rw [hcb])
    have HCB:=Lib.hid hcb
    have hkl:=cutB_len hcb
    have hkl1:key.length≤10000:=by omega
    have hkl2:val.length≤10000:=by omega
    rw [HV.out] at HCE
    clear hcb hkl
    go_upto_region 13 with (go_at_call 71;((with_reducible refine (HCE.out _).mono ?_);rintro e w2 ⟨rfl,hb⟩);have F2:=Lib.hid (FXR.out.next hb);clear hb)
    clear cy gl
    obtain ⟨w3,hw3⟩:∃ w3,w3=w2:=⟨_,rfl⟩
    subst hw3
    go_wp2
    go_loopw [11] (fun s11 wx=>∃ k:Nat,s11=.int .i64 (k:Int)∧k≤(str sn).size∧Aside (key2 key ∉ sn.take k∧FX w.heap.size w gp (j::ws) x v wx)) (fun s11 _=>(str sn).size - (intOf s11).toNat)
    case atStart=>exact ⟨0,rfl,Nat.zero_le _,by show key2 key ∉ sn.take 0;simp,F2.out⟩
    case round =>
     obtain ⟨k,rfl,hk,hnx,hfx⟩:=hrel
     have HX:=Lib.hid (show key2 key ∉ sn.take k from hnx)
     have F3:=Lib.hid (show FX w.heap.size w gp (j::ws) x v wr from hfx)
     clear hnx hfx
     have HSZ:=Lib.hid (str_size sn)
     by_cases hkn:k < (str sn).size
     ·have hge:=str_at sn k hkn
      have hil:k < sn.length:=by rw [←HSZ.out];exact hkn
      have HK2:=Lib.hid (fun (W:World)=>key2_any key (by omega) W)
      obtain ⟨d,hd⟩:∃ d:Int,((key2 key).toNat:Int)=d:=⟨_,rfl⟩
      rw [hd] at HK2
      have HD:=Lib.hid hd
      clear hd
      by_cases hb:sn[k]=key2 key
      ·have q3:((((str sn)[k]'hkn).toNat:Int) == d)=true:=by rw [hge,hb,HD.out];exact beq_self_eq_true _
       have HNO:=Lib.hid (first_non HCJ.out (left_no HLEFT.out HWI.out HCB.out (by
        have hm:key2 key∈K.map key2:=by rw [←HSN.out,← hb];exact List.getElem_mem hil
        rcases key_in HKO.out hm with h | h
        ·exact .inl h
        ·exact .inr (fput_five h))))
       clear hb hge
       go_upto_region 15 with fail
       go_cut [61] (fun s61 wx=>s61=.bool true∧Aside (Below wr.heap.size wr wx))
       case first =>
        go_region_held3 (fun _=>True) (exact trivial) ((go_at_call 72;((with_reducible refine (HK2.out _).mono ?_);rintro e w4 ⟨rfl,rfl⟩)))
        all_goals
         go_wp2_with fail
         go_meet
         case rel=>exact ⟨rfl,drew_low wr⟩
       case rest =>
       obtain ⟨rfl,hcut⟩:=hcut
       have F4:=Lib.hid (F3.out.next (show Below wr.heap.size wr wc from hcut))
       clear hcut
       have d0:=F4.out.bx.cell 0 _
       have d1:=F4.out.bx.cell 1 _
       have d2:=F4.out.bx.cell 2 _
       have d3:=F4.out.bx.cell 3 _
       have d4:=F4.out.bx.cell 4 _
       have d5:=F4.out.bx.cell 5 _
       have d6:=F4.out.bx.cell 6 _
       have d7:=F4.out.bx.cell 7 _
       have d8:=F4.out.bx.cell 8 _
       have d9:=F4.out.bx.cell 9 _
       have d10:=F4.out.bx.cell 10 _
       have d11:=F4.out.bx.cell 11 _
       have dl:=F4.out.bx.lt
       have pl:=F4.out.pr.lt
       go_wp2_with (refine wpList_store_row rfl _ _ _ rfl w.heap.size (scs x (gA v)) rfl rfl _ _ F4.out.pr (by kernel_rfl) rfl F4.out.one ?_)
       exact first_ret (b:=false) F4.out rfl (HNO.out) rfl rfl
      ·have q3:((((str sn)[k]'hkn).toNat:Int) == d)=false:=by
        rw [hge,beq_eq_false_iff_ne]
        intro e
        exact hb (UInt8.toNat_inj.1 (by have:((sn[k]'hil).toNat:Int)=((key2 key).toNat:Int):=e.trans HD.out.symm;omega))
       have HNX:=Lib.hid (not_take HX.out hil hb)
       clear hb hge
       go_upto_region 15 with fail
       go_cut [61] (fun s61 wx=>s61=.bool false∧Aside (Below wr.heap.size wr wx))
       case first =>
        go_region_held3 (fun _=>True) (exact trivial) ((go_at_call 72;((with_reducible refine (HK2.out _).mono ?_);rintro e w4 ⟨rfl,rfl⟩)))
        all_goals
         go_wp2_with fail
         go_meet
         case rel=>exact ⟨rfl,drew_low wr⟩
       case rest =>
       obtain ⟨rfl,hcut⟩:=hcut
       have F4:=Lib.hid (F3.out.next (show Below wr.heap.size wr wc from hcut))
       clear hcut
       go_wp2
       go_roundw
       case rel=>exact ⟨k+1,by go_num,by omega,HNX.out,F4.out⟩
       case measure=>simp [intOf];omega
     ·obtain rfl:k=(str sn).size:=by omega
      have HKN:=Lib.hid (show key ∉ K from key_out (by
       have:=HX.out
       rw [List.take_of_length_le (by rw [HSZ.out];exact Nat.le_refl _),HSN.out] at this
       exact this))
      obtain ⟨w5,hw5⟩:∃ w5,w5=wr:=⟨_,rfl⟩
      subst hw5
      clear HX hk hkn
      go_upto_block 4 with fail
      go_cut [12,13,14,15,16,17,18,19] (fun s12 s13 s14 s15 s16 s17 s18 s19 wx=>∃ (b:Bool) (y:Slip) (v':Value),s12=.bool b∧Aside (Sw w.heap.size w gp (j::ws) x key val b y v' wx))
      case first =>
       have d0:=F3.out.bx.cell 0 _
       have d1:=F3.out.bx.cell 1 _
       have d2:=F3.out.bx.cell 2 _
       have d3:=F3.out.bx.cell 3 _
       have d4:=F3.out.bx.cell 4 _
       have d5:=F3.out.bx.cell 5 _
       have d6:=F3.out.bx.cell 6 _
       have d7:=F3.out.bx.cell 7 _
       have d8:=F3.out.bx.cell 8 _
       have d9:=F3.out.bx.cell 9 _
       have d10:=F3.out.bx.cell 10 _
       have d11:=F3.out.bx.cell 11 _
       have dl:=F3.out.bx.lt
       have pl:=F3.out.pr.lt
       have g0:=F3.out.bx.free 0
       have g1:=F3.out.bx.free 1
       have g2:=F3.out.bx.free 2
       have g3:=F3.out.bx.free 3
       by_cases k0:key=userK
       ·obtain ⟨q1,q2⟩:=lit_yes (a:=key) (c:=[117,115,101,114]) k0
        have HP:=Lib.hid (show fput x (key,val)=some { x with user:=val } by unfold fput;rw [if_pos k0])
        clear k0
        go_wp2
        go_meet
        case rel=>exact ⟨true,_,v,rfl,show Sw _ _ _ _ _ _ _ true { x with user:=val } v _ from ⟨F3.out.put 0 (.string (str val)) rfl rfl rfl rfl rfl,fun _=>HP.out,(fun h=>by cases h),.inl rfl⟩⟩
       obtain ⟨q1,q2⟩:=lit_no (a:=key) (c:=[117,115,101,114]) k0
       by_cases k1:key=nodesK
       ·obtain ⟨q3,q4⟩:=lit_yes (a:=key) (c:=[110,111,100,101,115]) k1
        have HP:=Lib.hid (show fput x (key,val)=(within? val 1 64).map fun n=>{ x with nodes:=(n:Int) } by unfold fput;rw [if_neg k0,if_pos k1];dsimp only;cases within? val 1 64 <;> rfl)
        have HWT:=Lib.hid (fun W=>(show Calls Tryz.prog 73 #[.string (str val),.int .i64 1,.int .i64 64] W (WiT val 1 64 W) from dwithin_any val (by omega) 1 64 W))
        clear k0 k1
        cases hwv:within? val 1 64 with
        | none =>
         unfold WiT at HWT
         rw [hwv] at HWT HP
         clear hwv
         go_wp2_with (go_at_call 73;((with_reducible refine (HWT.out _).mono ?_);rintro e w6 ⟨m,rfl,hm,hmb,rfl⟩);have HM:=Lib.hid hm;clear hm)
         go_meet
         case rel=>exact ⟨false,_,v,rfl,show Sw _ _ _ _ _ _ _ false { x with nodes:=m } v _ from ⟨F3.out.put 1 (.int .i64 m) rfl rfl rfl rfl rfl,(fun h=>by cases h),fun _=>HP.out,.inl rfl⟩⟩
        | some z =>
         unfold WiT at HWT
         rw [hwv] at HWT HP
         clear hwv
         go_wp2_with (go_at_call 73;((with_reducible refine (HWT.out _).mono ?_);rintro e w6 ⟨m,rfl,hm,hmb,rfl⟩);have HM:=Lib.hid (hm z rfl);clear hm)
         go_meet
         case rel=>exact ⟨true,_,v,rfl,show Sw _ _ _ _ _ _ _ true { x with nodes:=m } v _ from ⟨F3.out.put 1 (.int .i64 m) rfl rfl rfl rfl rfl,(fun _=>by rw [HP.out,HM.out];rfl),(fun h=>by cases h),.inl rfl⟩⟩
       obtain ⟨q3,q4⟩:=lit_no (a:=key) (c:=[110,111,100,101,115]) k1
       by_cases k2:key=wallK
       ·obtain ⟨q5,q6⟩:=lit_yes (a:=key) (c:=[119,97,108,108]) k2
        have HP:=Lib.hid (show fput x (key,val)=(within? val 1 1048576).map fun n=>{ x with wall:=(n:Int) } by unfold fput;rw [if_neg k0,if_neg k1,if_pos k2];dsimp only;cases within? val 1 1048576 <;> rfl)
        have HWT:=Lib.hid (fun W=>(show Calls Tryz.prog 73 #[.string (str val),.int .i64 1,.int .i64 1048576] W (WiT val 1 1048576 W) from dwithin_any val (by omega) 1 1048576 W))
        clear k0 k1 k2
        cases hwv:within? val 1 1048576 with
        | none =>
         unfold WiT at HWT
         rw [hwv] at HWT HP
         clear hwv
         go_wp2_with (go_at_call 73;((with_reducible refine (HWT.out _).mono ?_);rintro e w6 ⟨m,rfl,hm,hmb,rfl⟩);have HM:=Lib.hid hm;clear hm)
         go_meet
         case rel=>exact ⟨false,_,v,rfl,show Sw _ _ _ _ _ _ _ false { x with wall:=m } v _ from ⟨F3.out.put 2 (.int .i64 m) rfl rfl rfl rfl rfl,(fun h=>by cases h),fun _=>HP.out,.inl rfl⟩⟩
        | some z =>
         unfold WiT at HWT
         rw [hwv] at HWT HP
         clear hwv
         go_wp2_with (go_at_call 73;((with_reducible refine (HWT.out _).mono ?_);rintro e w6 ⟨m,rfl,hm,hmb,rfl⟩);have HM:=Lib.hid (hm z rfl);clear hm)
         go_meet
         case rel=>exact ⟨true,_,v,rfl,show Sw _ _ _ _ _ _ _ true { x with wall:=m } v _ from ⟨F3.out.put 2 (.int .i64 m) rfl rfl rfl rfl rfl,(fun _=>by rw [HP.out,HM.out];rfl),(fun h=>by cases h),.inl rfl⟩⟩
       obtain ⟨q5,q6⟩:=lit_no (a:=key) (c:=[119,97,108,108]) k2
       by_cases k3:key=qosK
       ·obtain ⟨q7,q8⟩:=lit_yes (a:=key) (c:=[113,111,115]) k3
        have HP:=Lib.hid (show fput x (key,val)=(within? val 0 9).map fun n=>{ x with qos:=(n:Int) } by unfold fput;rw [if_neg k0,if_neg k1,if_neg k2,if_pos k3];dsimp only;cases within? val 0 9 <;> rfl)
        have HWT:=Lib.hid (fun W=>(show Calls Tryz.prog 73 #[.string (str val),.int .i64 0,.int .i64 9] W (WiT val 0 9 W) from dwithin_any val (by omega) 0 9 W))
        clear k0 k1 k2 k3
        cases hwv:within? val 0 9 with
        | none =>
         unfold WiT at HWT
         rw [hwv] at HWT HP
         clear hwv
         go_wp2_with (go_at_call 73;((with_reducible refine (HWT.out _).mono ?_);rintro e w6 ⟨m,rfl,hm,hmb,rfl⟩);have HM:=Lib.hid hm;clear hm)
         go_meet
         case rel=>exact ⟨false,_,v,rfl,show Sw _ _ _ _ _ _ _ false { x with qos:=m } v _ from ⟨F3.out.put 3 (.int .i64 m) rfl rfl rfl rfl rfl,(fun h=>by cases h),fun _=>HP.out,.inl rfl⟩⟩
        | some z =>
         unfold WiT at HWT
         rw [hwv] at HWT HP
         clear hwv
         go_wp2_with (go_at_call 73;((with_reducible refine (HWT.out _).mono ?_);rintro e w6 ⟨m,rfl,hm,hmb,rfl⟩);have HM:=Lib.hid (hm z rfl);clear hm)
         go_meet
         case rel=>exact ⟨true,_,v,rfl,show Sw _ _ _ _ _ _ _ true { x with qos:=m } v _ from ⟨F3.out.put 3 (.int .i64 m) rfl rfl rfl rfl rfl,(fun _=>by rw [HP.out,HM.out];rfl),(fun h=>by cases h),.inl rfl⟩⟩
       obtain ⟨q7,q8⟩:=lit_no (a:=key) (c:=[113,111,115]) k3
       by_cases k4:key=afterK
       rotate_left
       ·obtain ⟨q9,q10⟩:=lit_no (a:=key) (c:=[97,102,116,101,114]) k4
        have HP:=Lib.hid (show fput x (key,val)=none by unfold fput;rw [if_neg k0,if_neg k1,if_neg k2,if_neg k3,if_neg k4])
        clear k0 k1 k2 k3 k4
        go_wp2
        go_meet
        case rel=>exact ⟨false,_,v,rfl,show Sw _ _ _ _ _ _ _ false x v _ from ⟨F3.out,(fun h=>by cases h),fun _=>HP.out,.inl rfl⟩⟩
       obtain ⟨q9,q10⟩:=lit_yes (a:=key) (c:=[97,102,116,101,114]) k4
       have HKA:=Lib.hid k4
       have HP:=Lib.hid (show fput x (key,val)=((cuts 44 val).mapM dep?).map fun l=>{ x with after:=l } by unfold fput;rw [if_neg k0,if_neg k1,if_neg k2,if_neg k3,if_pos k4])
       have HXA:=Lib.hid (show x.after=[] from HAF.out.resolve_left fun h=>HKN.out (by rw [k4];exact h))
       clear k0 k1 k2 k3 k4
       have HSC:=Lib.hid (fun (W:World)=>split_co val (by omega) W)
       have hcl:=cuts_len 44 val
       have hcne:=cuts_ne 44 val
       obtain ⟨PP,hPP⟩:∃ PP,cuts 44 val=PP:=⟨_,rfl⟩
       rw [hPP] at HSC HP hcl hcne
       obtain ⟨np,hnp⟩:∃ np,PP.length=np:=⟨_,rfl⟩
       have HNP:=Lib.hid hnp
       have hnp1:np≤10001:=by rw [←hnp];have:=hcl.1;omega
       have HPL:=Lib.hid (fun (p:Tx) (hp:p∈PP)=>(show p.length≤10000 from Nat.le_trans (hcl.2 p hp) hkl2))
       clear hPP hnp hcl hcne
       clear d0 d1 d2 d3 d4 d5 d6 d7 d8 d9 d10 d11 dl pl
       clear g0 g1 g2 g3
       go_upto_region 30 with (go_at_call 20;((with_reducible refine (HSC.out _).mono ?_);rintro e w6 ⟨va,rfl,⟨ga,ca,rfl,hps,hcp,hgb⟩,hb⟩);have F6:=Lib.hid (F3.out.next hb);have HPA:=Lib.hid (And.intro hps hgb);rw [HNP.out];clear hb hps hcp hgb)
       have hga:ga≠w.heap.size+1:=by have:=HPA.out.2;have:=F3.out.hz;omega
       have HGA:=Lib.hid hga
       clear hga
       go_wp2
       go_loopw [12,14,15,16,17,18,19] (fun s12 s14 s15 s16 s17 s18 s19 wx=>∃ (k:Nat) (b:Bool) (A:List Dep) (v':Value),s12=.bool b∧s14=.int .i64 (k:Int)∧k≤np∧Aside (A.length=k∧FX w.heap.size w gp (j::ws) { x with after:=A } v' wx∧Prts wx ga 0 PP∧v'.ownBlock≠some ga∧(PP.take k).mapM dep?=if b=true then some A else none)) (fun _ s14 _ _ _ _ _ _=>np - (intOf s14).toNat)
       case atStart=>exact ⟨0,true,[],v,rfl,rfl,Nat.zero_le _,rfl,by have:=F6.out;rw [show ({ x with after:=[] }:Slip)=x by rw [←HXA.out]];exact this,HPA.out.1,(fun e=>by have:=(World.ownsRow.lt F3.out.row ga e).2;have:=HPA.out.2;omega),by show (PP.take 0).mapM dep?=_;simp⟩
       case round =>
        obtain ⟨k,b,A,v',rfl,rfl,hk,hal,hfx,hpa,hno8,hmm⟩:=hrel
        have HNO8:=Lib.hid (show v'.ownBlock≠some ga from hno8)
        have F7:=Lib.hid (show FX w.heap.size w gp (j::ws) { x with after:=A } v' wr from hfx)
        have HP7:=Lib.hid (show Prts wr ga 0 PP from hpa)
        have HAL:=Lib.hid (show A.length=k from hal)
        have HMM:=Lib.hid (show (PP.take k).mapM dep?=if b=true then some A else none from hmm)
        clear hal hfx hpa hno8 hmm
        by_cases hkn:k < np
        ·obtain ⟨p,hp⟩:∃ p,PP[k]?=some p:=⟨_,List.getElem?_eq_getElem (by rw [HNP.out];exact hkn)⟩
         have hpl:=HPL.out p (List.mem_of_getElem? hp)
         have cy:=prt_at HP7.out hp
         have gl:=HP7.out.1
         have HPK:=Lib.hid hp
         have HCC:=Lib.hid (fun (W:World)=>cut_col p (by omega) W)
         clear hp
         obtain ⟨kd,jb,hs,hcv,hdl⟩:∃ (kd jb:Tx) (hs:Bool),cutV 58 p=.tuple #[.string (str kd),.string (str jb),.bool hs]∧(kd.length≤10000∧jb.length≤10000)∧dep? p=(if hs=true then match within? jb 1 1073741824 with
           | some n=>if kd=okW∨kd=anyW then some ((n:Int),decide (kd=anyW)) else none
           | none=>none else none):=by
          cases hc:cutB 58 p with
          | none=>exact ⟨p,[],false,by unfold cutV;rw [hc];rfl,⟨hpl,by decide⟩,by unfold dep?;rw [hc];rfl⟩
          | some f =>
           obtain ⟨kd,jb⟩:=f
           have:=cutB_len hc
           exact ⟨kd,jb,true,by unfold cutV;rw [hc],⟨by omega,by omega⟩,by unfold dep?;rw [hc,if_pos rfl];rfl⟩
         rw [hcv] at HCC
         have hd1:=hdl.1
         have HDP:=Lib.hid hdl.2
         have HWJ:=Lib.hid (fun W=>(show Calls Tryz.prog 73 #[.string (str jb),.int .i64 1,.int .i64 1073741824] W (WiT jb 1 1073741824 W) from dwithin_any jb (by omega) 1 1073741824 W))
         clear hcv hdl
         go_upto_region 36 with (first
          | (go_at_call 71;((with_reducible refine (HCC.out _).mono ?_);rintro e w7 ⟨rfl,hb⟩);have F8:=Lib.hid (F7.out.next hb);have HP8:=Lib.hid (HP7.out.next hb);clear hb)
          | (go_at_call 73;((with_reducible refine (HWJ.out _).mono ?_);rintro e w8 ⟨m,rfl,hm,hmb,rfl⟩);have HM:=Lib.hid hm;clear hm))
         clear cy gl
         have HNXT:=Lib.hid (show ∀ (b2:Bool) (dd:Dep),dep? p=(if b2=true then some dd else none)→(PP.take (k+1)).mapM dep?=if (b && b2)=true then some (A++[dd]) else none from fun b2 dd h=>by
          rw [take_snoc HPK.out,sp.mapM_snoc,HMM.out,h]
          cases b <;> cases b2 <;> rfl)
         obtain ⟨gd,hgd⟩:∃ gd,(within? jb 1 1073741824).isSome=gd:=⟨_,rfl⟩
         rw [hgd]
         have HGD:=Lib.hid hgd
         clear hgd
         obtain ⟨ka,hka⟩:∃ ka,decide (kd=anyW)=ka:=⟨_,rfl⟩
         obtain ⟨ko,hko⟩:∃ ko,decide (kd=okW)=ko:=⟨_,rfl⟩
         have qa:((str kd).toList == [97,110,121])=ka:=by rw [←hka];exact (eq_lit kd [97,110,121])
         have qo:((str kd).toList == [111,107])=ko:=by rw [←hko];exact (eq_lit kd [111,107])
         have HDQ:=Lib.hid (show dep? p=if (hs && (gd && (ko || ka)))=true then some (m,ka) else none by
          rw [HDP.out]
          cases hs with
          | false=>rfl
          | true =>
           rw [if_pos rfl]
           cases hw:within? jb 1 1073741824 with
           | none =>
            have:=HGD.out
            rw [hw] at this
            rw [←this]
            rfl
           | some z =>
            have h1:=HGD.out
            rw [hw] at h1
            have h2:=HM.out z hw
            rw [←h1,h2]
            dsimp only
            by_cases e1:kd=okW
            ·rw [decide_eq_true e1] at hko
             rw [←hko,if_pos (.inl e1),hka]
             rfl
            ·rw [decide_eq_false e1] at hko
             rw [←hko]
             by_cases e2:kd=anyW
             ·rw [decide_eq_true e2] at hka
              rw [←hka,if_pos (.inr e2),decide_eq_true e2]
              rfl
             ·rw [decide_eq_false e2] at hka
              rw [←hka,if_neg (fun h=>h.elim e1 e2)]
              rfl)
         have HNQ:=Lib.hid (HNXT.out _ _ HDQ.out)
         obtain ⟨B2,hB2⟩:∃ B2,(hs && (gd && (ko || ka)))=B2:=⟨_,rfl⟩
         rw [hB2] at HNQ
         have HB2:=Lib.hid hB2
         clear hB2 hka hko
         go_cut [129] (fun s129 wx=>s129=.bool (!B2)∧w7=wx)
         case first =>
          cases hs <;> cases gd <;> cases ko <;> cases ka <;>
           (go_wp2;go_meet;case rel=>exact ⟨by rw [←HB2.out];rfl,rfl⟩)
         case rest =>
         obtain ⟨rfl,rfl⟩:=hcut
         have hdl4:=F8.out.bx.cell 4 _
         have df4:=F8.out.bx.free 4
         have dll:=F8.out.bx.lt
         have H8S:=Lib.hid (show w.heap.size+2≤w7.heap.size from F8.out.hz)
         have HW9:=Lib.hid ((Below.refl _ w7).alloc (Nat.le_refl _) (.cells #[.int .i64 m,.bool ka] 88))
         have HRW:=Lib.hid (F8.out.next HW9.out).row
         have HCC2:=Lib.hid (row_cells' w7 (cA (m,ka)) 88)
         have HA5:=Lib.hid (show A.length≤1000000 by rw [HAL.out];omega)
         cases b <;> cases B2
         ·go_wp2_with (at_builtin;refine wpl_own2 eltA rfl _ _ rfl (base:=w.heap.size+2) (n:=A.length) (cs:=flA A) (v:=v') rfl HRW.out ⟨w7.heap.size,0,none⟩ (cA (m,ka)) rfl HCC2.out rfl (flA_one' (m,ka)) HA5.out (by decide) (Nat.le_trans H8S.out HW9.out.size) ?_;intro gb cb w9 h1 h2 h3;have FP:=Lib.hid (FX.push F8.out HW9.out h2 (m,ka) (v':=.slice (some ⟨gb,0,none⟩) (A.length+1) cb) h1 (h3.imp (fun e=>e) (fun e=>congrArg Option.some e)));have HPP:=Lib.hid (prts_same (HP8.out.next HW9.out) h2.size (h2.block ga (HP8.out.next HW9.out).1 (fun e=>HNO8.out e.symm)));have k9:BoxA w9 (w.heap.size+1) 27 _:=(h2.block (w.heap.size+1) (F8.out.next HW9.out).bx.lt (fun e=>by have:=(World.ownsRow.lt HRW.out _ e.symm).1;omega)).trans (F8.out.next HW9.out).bx;have e9:=k9.cell 4 _;have f9:=k9.free 4;have l9:=k9.lt;have H3:=Lib.hid h3;clear h1 h2 h3 k9)
          go_roundw
          case rel=>exact ⟨k+1,false,A++[(m,ka)],_,rfl,by go_num,by omega,by rw [List.length_append,HAL.out];rfl,FP.out,HPP.out.but ((But.refl _ _).setCell 4 _) HGA.out,(fun e=>by have e:some gb=some ga:=e;rcases H3.out with h | h;exact HNO8.out (h ▸ e);have:=(HP8.out.next HW9.out).1;simp at e;omega),HNQ.out⟩
          case measure=>simp [intOf];omega
         ·go_wp2_with (at_builtin;refine wpl_own2 eltA rfl _ _ rfl (base:=w.heap.size+2) (n:=A.length) (cs:=flA A) (v:=v') rfl HRW.out ⟨w7.heap.size,0,none⟩ (cA (m,ka)) rfl HCC2.out rfl (flA_one' (m,ka)) HA5.out (by decide) (Nat.le_trans H8S.out HW9.out.size) ?_;intro gb cb w9 h1 h2 h3;have FP:=Lib.hid (FX.push F8.out HW9.out h2 (m,ka) (v':=.slice (some ⟨gb,0,none⟩) (A.length+1) cb) h1 (h3.imp (fun e=>e) (fun e=>congrArg Option.some e)));have HPP:=Lib.hid (prts_same (HP8.out.next HW9.out) h2.size (h2.block ga (HP8.out.next HW9.out).1 (fun e=>HNO8.out e.symm)));have k9:BoxA w9 (w.heap.size+1) 27 _:=(h2.block (w.heap.size+1) (F8.out.next HW9.out).bx.lt (fun e=>by have:=(World.ownsRow.lt HRW.out _ e.symm).1;omega)).trans (F8.out.next HW9.out).bx;have e9:=k9.cell 4 _;have f9:=k9.free 4;have l9:=k9.lt;have H3:=Lib.hid h3;clear h1 h2 h3 k9)
          go_roundw
          case rel=>exact ⟨k+1,false,A++[(m,ka)],_,rfl,by go_num,by omega,by rw [List.length_append,HAL.out];rfl,FP.out,HPP.out.but ((But.refl _ _).setCell 4 _) HGA.out,(fun e=>by have e:some gb=some ga:=e;rcases H3.out with h | h;exact HNO8.out (h ▸ e);have:=(HP8.out.next HW9.out).1;simp at e;omega),HNQ.out⟩
          case measure=>simp [intOf];omega
         ·go_wp2_with (at_builtin;refine wpl_own2 eltA rfl _ _ rfl (base:=w.heap.size+2) (n:=A.length) (cs:=flA A) (v:=v') rfl HRW.out ⟨w7.heap.size,0,none⟩ (cA (m,ka)) rfl HCC2.out rfl (flA_one' (m,ka)) HA5.out (by decide) (Nat.le_trans H8S.out HW9.out.size) ?_;intro gb cb w9 h1 h2 h3;have FP:=Lib.hid (FX.push F8.out HW9.out h2 (m,ka) (v':=.slice (some ⟨gb,0,none⟩) (A.length+1) cb) h1 (h3.imp (fun e=>e) (fun e=>congrArg Option.some e)));have HPP:=Lib.hid (prts_same (HP8.out.next HW9.out) h2.size (h2.block ga (HP8.out.next HW9.out).1 (fun e=>HNO8.out e.symm)));have k9:BoxA w9 (w.heap.size+1) 27 _:=(h2.block (w.heap.size+1) (F8.out.next HW9.out).bx.lt (fun e=>by have:=(World.ownsRow.lt HRW.out _ e.symm).1;omega)).trans (F8.out.next HW9.out).bx;have e9:=k9.cell 4 _;have f9:=k9.free 4;have l9:=k9.lt;have H3:=Lib.hid h3;clear h1 h2 h3 k9)
          go_roundw
          case rel=>exact ⟨k+1,false,A++[(m,ka)],_,rfl,by go_num,by omega,by rw [List.length_append,HAL.out];rfl,FP.out,HPP.out.but ((But.refl _ _).setCell 4 _) HGA.out,(fun e=>by have e:some gb=some ga:=e;rcases H3.out with h | h;exact HNO8.out (h ▸ e);have:=(HP8.out.next HW9.out).1;simp at e;omega),HNQ.out⟩
          case measure=>simp [intOf];omega
         ·go_wp2_with (at_builtin;refine wpl_own2 eltA rfl _ _ rfl (base:=w.heap.size+2) (n:=A.length) (cs:=flA A) (v:=v') rfl HRW.out ⟨w7.heap.size,0,none⟩ (cA (m,ka)) rfl HCC2.out rfl (flA_one' (m,ka)) HA5.out (by decide) (Nat.le_trans H8S.out HW9.out.size) ?_;intro gb cb w9 h1 h2 h3;have FP:=Lib.hid (FX.push F8.out HW9.out h2 (m,ka) (v':=.slice (some ⟨gb,0,none⟩) (A.length+1) cb) h1 (h3.imp (fun e=>e) (fun e=>congrArg Option.some e)));have HPP:=Lib.hid (prts_same (HP8.out.next HW9.out) h2.size (h2.block ga (HP8.out.next HW9.out).1 (fun e=>HNO8.out e.symm)));have k9:BoxA w9 (w.heap.size+1) 27 _:=(h2.block (w.heap.size+1) (F8.out.next HW9.out).bx.lt (fun e=>by have:=(World.ownsRow.lt HRW.out _ e.symm).1;omega)).trans (F8.out.next HW9.out).bx;have e9:=k9.cell 4 _;have f9:=k9.free 4;have l9:=k9.lt;have H3:=Lib.hid h3;clear h1 h2 h3 k9)
          go_roundw
          case rel=>exact ⟨k+1,true,A++[(m,ka)],_,rfl,by go_num,by omega,by rw [List.length_append,HAL.out];rfl,FP.out,HPP.out.but ((But.refl _ _).setCell 4 _) HGA.out,(fun e=>by have e:some gb=some ga:=e;rcases H3.out with h | h;exact HNO8.out (h ▸ e);have:=(HP8.out.next HW9.out).1;simp at e;omega),HNQ.out⟩
          case measure=>simp [intOf];omega
        ·obtain rfl:k=np:=by omega
         have HFIN:=Lib.hid (show PP.mapM dep?=if b=true then some A else none by
          have:=HMM.out
          rwa [List.take_of_length_le (by rw [HNP.out];exact Nat.le_refl _)] at this)
         cases b with
         | true =>
          go_wp2
          go_meet
          case rel=>exact ⟨true,_,v',rfl,show Sw _ _ _ _ _ _ _ true { x with after:=A } v' _ from ⟨F7.out,(fun _=>by rw [HP.out,HFIN.out];rfl),(fun h=>by cases h),.inr HKA.out⟩⟩
         | false =>
          go_wp2
          go_meet
          case rel=>exact ⟨false,_,v',rfl,show Sw _ _ _ _ _ _ _ false { x with after:=A } v' _ from ⟨F7.out,(fun h=>by cases h),(fun _=>by rw [HP.out,HFIN.out];rfl),.inr HKA.out⟩⟩
      case rest =>
       obtain ⟨b,y,v',rfl,hsw⟩:=hcut
       have HSW:=Lib.hid (show Sw w.heap.size w gp (j::ws) x key val b y v' wc from hsw)
       clear hsw
       have F5:=Lib.hid HSW.out.fx
       cases b with
       | false =>
        have HNO:=Lib.hid (first_non HCJ.out (left_no HLEFT.out HWI.out HCB.out (.inr (HSW.out.no rfl))))
        have d0:=F5.out.bx.cell 0 _
        have d1:=F5.out.bx.cell 1 _
        have d2:=F5.out.bx.cell 2 _
        have d3:=F5.out.bx.cell 3 _
        have d4:=F5.out.bx.cell 4 _
        have d5:=F5.out.bx.cell 5 _
        have d6:=F5.out.bx.cell 6 _
        have d7:=F5.out.bx.cell 7 _
        have d8:=F5.out.bx.cell 8 _
        have d9:=F5.out.bx.cell 9 _
        have d10:=F5.out.bx.cell 10 _
        have d11:=F5.out.bx.cell 11 _
        have dl:=F5.out.bx.lt
        have pl:=F5.out.pr.lt
        go_wp2_with (refine wpList_store_row rfl _ _ _ rfl w.heap.size (scs y (gA v')) rfl rfl _ _ F5.out.pr (by kernel_rfl) rfl F5.out.one ?_)
        exact first_ret (b:=false) F5.out rfl (HNO.out) rfl rfl
       | true =>
        have HPU:=Lib.hid (HSW.out.yes rfl)
        have HK5:=Lib.hid (show key∈five from Classical.byContradiction fun h=>by have:=HPU.out;rw [fput_five h] at this;cases this)
        have HK2:=Lib.hid (fun (W:World)=>key2_any key (by omega) W)
        have HOB:=fun W=>one_byte W (key2 key)
        have HSS:=Lib.hid (show str sn++str [key2 key]=str (sn++[key2 key]) from str_app _ _)
        have eb:(str [key2 key]).size≤1:=by rw [str_size];exact Nat.le_refl _
        have HLB:=Lib.hid ((Below.refl _ wc).alloc (Nat.le_refl _) (.cells #[.int .u8 ((key2 key).toNat:Int)] 5))
        have HSL:=Lib.hid hsl
        go_wp2_with (go_at_call 72;((with_reducible refine (HK2.out _).mono ?_);rintro e w4 ⟨rfl,rfl⟩))
        go_roundw
        case rel =>
         refine ⟨i+1,y,v',K++[key],sn++[key2 key],by rw [←HSS.out],by go_num,by omega,by omega,by have:=HSL.out;simp;omega,?_,keys_more HKO.out HK5.out,F5.out.next HLB.out,?_,?_⟩
         ·have:=left_next HLEFT.out HWI.out HCB.out HKN.out HPU.out
          show LeftF ws (i+1 - 1) y (K++[key])
          rw [show i+1 - 1=i - 1+1 by omega]
          exact this
         ·show afterK∈K++[key]∨y.after=[]
          rcases HSW.out.af with h | h
          ·rcases HAF.out with h2 | h2
           ·exact .inl (by simp [h2])
           ·exact .inr (by rw [h,h2])
          ·exact .inl (by simp [h])
         ·show sn++[key2 key]=(K++[key]).map key2
          rw [HSN.out,List.map_append]
          rfl
        case measure=>simp [intOf];omega
  ·obtain rfl:i=n:=by omega
   have HFR:=Lib.hid (show frun (Slip.zero,[]) ws=some (x,K) from left_end (by
    have:=HLEFT.out
    rw [show i - 1=ws.length by have:=HWN.out;omega] at this
    exact this))
   have HEND:=Lib.hid (first_fin HCJ.out HFR.out HKO.out)
   rw [←HSN.out] at HEND
   have HN3:=Lib.hid (show key2 userK=117∧key2 nodesK=110∧key2 wallK=119 from ⟨rfl,rfl,rfl⟩)
   rw [HN3.out.1,HN3.out.2.1,HN3.out.2.2] at HEND
   obtain ⟨w9,hw9⟩:∃ w9,wr.alloc (.cells #[.int .u8 117,.int .u8 110,.int .u8 119] 5)=w9:=⟨_,rfl⟩
   have hb9:Below wr.heap.size wr w9:=by rw [←hw9];exact (Below.refl _ _).alloc (Nat.le_refl _) _
   have hn9:BoxA w9 wr.heap.size 5 #[.int .u8 117,.int .u8 110,.int .u8 119]:=by rw [←hw9];exact BoxA.new _ _ _
   have F9:=Lib.hid (FXR.out.next hb9)
   have HW9:=Lib.hid hw9
   have HN9:=Lib.hid hn9
   have HSZ:=Lib.hid (str_size sn)
   obtain ⟨gn,hgn⟩:∃ gn,wr.heap.size=gn:=⟨_,rfl⟩
   rw [hgn] at HN9
   clear hb9 hn9 hw9
   go_upto_region 43 with fail
   rw [HW9.out]
   clear hgn
   go_wp2
   go_loopw [21,22,23] (fun s21 s22 s23 wx=>∃ q:Nat,s21=.int .i64 (q:Int)∧q≤3∧Aside ((∀ m,m < q→ndL m∈sn)∧FX w.heap.size w gp (j::ws) x v wx∧BoxA wx gn 5 #[.int .u8 117,.int .u8 110,.int .u8 119])) (fun s21 _ _ _=>3 - (intOf s21).toNat)
   case atStart=>exact ⟨0,rfl,by decide,(fun m hm=>by omega),F9.out,HN9.out⟩
   case round =>
    obtain ⟨q,rfl,hq,hall,hfx,hnb⟩:=hrel
    have HALL:=Lib.hid (show ∀ m,m < q→ndL m∈sn from hall)
    have FQ:=Lib.hid (show FX w.heap.size w gp (j::ws) x v wr from hfx)
    have HNQ:=Lib.hid (show BoxA wr gn 5 #[.int .u8 117,.int .u8 110,.int .u8 119] from hnb)
    clear hall hfx hnb
    by_cases hq3:q < 3
    ·obtain ⟨dq,hdq⟩:∃ dq:Int,((ndL q).toNat:Int)=dq:=⟨_,rfl⟩
     have HDQ:=Lib.hid hdq
     have HNC:=Lib.hid (show ∀ W,BoxA W gn 5 #[.int .u8 117,.int .u8 110,.int .u8 119]→W.cell? ⟨gn,q,none⟩=some (.int .u8 dq) from fun W hb=>by
      rw [←hdq]
      have:q=0∨q=1∨q=2:=by omega
      rcases this with rfl | rfl | rfl
      ·exact hb.cell 0 _
      ·exact hb.cell 1 _
      ·exact hb.cell 2 _)
     clear hdq
     go_upto_region 48 with fail
     go_wp2
     go_loopw [22,23] (fun s22 s23 wx=>∃ (k:Nat) (b:Bool),s22=.bool b∧s23=.int .i64 (k:Int)∧k≤(str sn).size∧Aside ((b=true↔ndL q∈sn.take k)∧FX w.heap.size w gp (j::ws) x v wx∧BoxA wx gn 5 #[.int .u8 117,.int .u8 110,.int .u8 119])) (fun _ s23 _=>(str sn).size - (intOf s23).toNat)
     case atStart=>exact ⟨0,false,rfl,rfl,Nat.zero_le _,by show (false=true↔ndL q∈sn.take 0);simp,FQ.out,HNQ.out⟩
     case round =>
      obtain ⟨k,b,rfl,rfl,hk,hbk,hfx,hnb⟩:=hrel
      have HBK:=Lib.hid (show b=true↔ndL q∈sn.take k from hbk)
      have FK:=Lib.hid (show FX w.heap.size w gp (j::ws) x v wr from hfx)
      have HNK:=Lib.hid (show BoxA wr gn 5 #[.int .u8 117,.int .u8 110,.int .u8 119] from hnb)
      clear hbk hfx hnb
      have yq:=HNC.out wr HNK.out
      have yl:=HNK.out.lt
      by_cases hkn:k < (str sn).size
      ·have hge:=str_at sn k hkn
       have hil:k < sn.length:=by rw [←HSZ.out];exact hkn
       have HTK:=Lib.hid (show ndL q∈sn.take (k+1)↔ndL q∈sn.take k∨ndL q=sn[k] from mem_take_succ (List.getElem?_eq_getElem hil))
       cases b with
       | true =>
        have HNX:=Lib.hid (show ndL q∈sn.take (k+1) from HTK.out.2 (.inl (HBK.out.1 rfl)))
        clear hge
        go_wp2_with (go_quiet (fail))
        go_roundw
        case rel=>exact ⟨k+1,true,rfl,by go_num,by omega,⟨fun _=>HNX.out,fun _=>rfl⟩,FK.out.next (Joins.below_draws _ _ _),HNK.out.next (Joins.below_draws _ _ _)⟩
        case measure=>simp [intOf];omega
       | false =>
        by_cases hb:sn[k]=ndL q
        ·have q3:((((str sn)[k]'hkn).toNat:Int) == dq)=true:=by rw [hge,hb,HDQ.out];exact beq_self_eq_true _
         have HNX:=Lib.hid (show ndL q∈sn.take (k+1) from HTK.out.2 (.inr hb.symm))
         clear hge hb
         go_wp2_with (go_quiet (fail))
         go_roundw
         case rel=>exact ⟨k+1,true,rfl,by go_num,by omega,⟨fun _=>HNX.out,fun _=>rfl⟩,FK.out.next (Joins.below_draws _ _ _),HNK.out.next (Joins.below_draws _ _ _)⟩
         case measure=>simp [intOf];omega
        ·have q3:((((str sn)[k]'hkn).toNat:Int) == dq)=false:=by
          rw [hge,beq_eq_false_iff_ne]
          intro e
          exact hb (UInt8.toNat_inj.1 (by have:((sn[k]'hil).toNat:Int)=((ndL q).toNat:Int):=e.trans HDQ.out.symm;omega))
         have HNX:=Lib.hid (show ¬ ndL q∈sn.take (k+1) from fun h=>(HTK.out.1 h).elim (fun h=>by have:=HBK.out.2 h;cases this) (fun h=>hb h.symm))
         clear hge hb
         go_wp2_with (go_quiet (fail))
         go_roundw
         case rel=>exact ⟨k+1,false,rfl,by go_num,by omega,⟨(fun h=>by cases h),fun h=>absurd h HNX.out⟩,FK.out.next (Joins.below_draws _ _ _),HNK.out.next (Joins.below_draws _ _ _)⟩
         case measure=>simp [intOf];omega
      ·obtain rfl:k=(str sn).size:=by omega
       have HIN:=Lib.hid (show b=true↔ndL q∈sn by
        have:=HBK.out
        rwa [List.take_of_length_le (by rw [HSZ.out];exact Nat.le_refl _)] at this)
       cases b with
       | false =>
        have HNO:=Lib.hid (show first? l=none by
         rw [HEND.out,if_neg]
         rintro ⟨h1,h2,h3⟩
         have:ndL q∈sn:=by
          have hq:q=0∨q=1∨q=2:=by omega
          rcases hq with rfl | rfl | rfl
          ·exact h1
          ·exact h2
          ·exact h3
         have:=HIN.out.2 this
         cases this)
        have d0:=FK.out.bx.cell 0 _
        have d1:=FK.out.bx.cell 1 _
        have d2:=FK.out.bx.cell 2 _
        have d3:=FK.out.bx.cell 3 _
        have d4:=FK.out.bx.cell 4 _
        have d5:=FK.out.bx.cell 5 _
        have d6:=FK.out.bx.cell 6 _
        have d7:=FK.out.bx.cell 7 _
        have d8:=FK.out.bx.cell 8 _
        have d9:=FK.out.bx.cell 9 _
        have d10:=FK.out.bx.cell 10 _
        have d11:=FK.out.bx.cell 11 _
        have dl:=FK.out.bx.lt
        have pl:=FK.out.pr.lt
        go_wp2_with (refine wpList_store_row rfl _ _ _ rfl w.heap.size (scs x (gA v)) rfl rfl _ _ FK.out.pr (by kernel_rfl) rfl FK.out.one ?_)
        exact first_ret (b:=false) FK.out rfl (HNO.out) rfl rfl
       | true =>
        have HNX:=Lib.hid (show ∀ m,m < q+1→ndL m∈sn from fun m hm=>by
         by_cases e:m=q
         ·rw [e];exact HIN.out.1 rfl
         ·exact HALL.out m (by omega))
        go_wp2
        go_roundw
        case rel=>exact ⟨q+1,by go_num,by omega,HNX.out,FK.out,HNK.out⟩
        case measure=>simp [intOf];omega
    ·obtain rfl:q=3:=by omega
     have HYES:=Lib.hid (show first? l=some x by
      rw [HEND.out,if_pos]
      exact ⟨HALL.out 0 (by decide),HALL.out 1 (by decide),HALL.out 2 (by decide)⟩)
     have d0:=FQ.out.bx.cell 0 _
     have d1:=FQ.out.bx.cell 1 _
     have d2:=FQ.out.bx.cell 2 _
     have d3:=FQ.out.bx.cell 3 _
     have d4:=FQ.out.bx.cell 4 _
     have d5:=FQ.out.bx.cell 5 _
     have d6:=FQ.out.bx.cell 6 _
     have d7:=FQ.out.bx.cell 7 _
     have d8:=FQ.out.bx.cell 8 _
     have d9:=FQ.out.bx.cell 9 _
     have d10:=FQ.out.bx.cell 10 _
     have d11:=FQ.out.bx.cell 11 _
     have dl:=FQ.out.bx.lt
     have pl:=FQ.out.pr.lt
     go_wp2_with (refine wpList_store_row rfl _ _ _ rfl w.heap.size (scs x (gA v)) rfl rfl _ _ FQ.out.pr (by kernel_rfl) rfl FQ.out.one ?_)
     exact first_ret (b:=true) FQ.out rfl (HYES.out) rfl rfl
end Go.Proofs.YtekcjfdllclphaaGreatDoor.gn
end
