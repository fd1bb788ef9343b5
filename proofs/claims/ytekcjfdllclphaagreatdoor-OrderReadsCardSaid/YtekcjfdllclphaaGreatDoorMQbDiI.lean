/- The contract of read: the fields of a line. -/
import Derived.Test.YtekcjfdllclphaaGreatDoorMQbGenLoad
import Derived.Test.YtekcjfdllclphaaGreatDoorMQbSlP
import Derived.Shelf.Abstract
import Derived.Deep.LoopGhost
import Derived.BigQuiet
set_option linter.unusedVariables false
section
namespace Go.Proofs.YtekcjfdllclphaaGreatDoor.gn
open Go.RowKit
open Go.Proofs.YtekcjfdllclphaaGreatDoor.un
open Go.Proofs.YtekcjfdllclphaaGreatDoor.di
theorem But.new {R S:Nat} {a b c:World} (h:But R a b) (k:But S b c) (hS:a.heap.size≤S):But R a c :=
 ⟨k.os.trans h.os,k.tape.trans h.tape,k.output.trans h.output,Nat.le_trans h.size k.size,fun i hi hr=>(k.block i (Nat.lt_of_lt_of_le hi h.size) (fun e=>by have:=Option.some.inj e;omega)).trans (h.block i hi hr)⟩
theorem But.next {R:Nat} {a b c:World} (h:But R a b) (k:Below b.heap.size b c):But R a c:=h.trans (But.of_below k)
structure RS (w w1:World) (k bd a p o m sb sc:Nat) (SL:List (Tx × Value)) (ws:List Tx) (i:Nat) (fs:List Fl) (L:List (Tx × Value)) (W:World):Prop where
 hm:(ws.take i).mapM cut=some fs
 tk:Took k fs
 d:DirB W bd (dirOf k fs)
 lf:Left W m k fs L
 st:StM W w1.heap.size sb sc bd SL
 p:Prts W p o ws
 b:But bd w W
theorem RS.next {w w1 W W':World} {k bd a p o m sb sc i:Nat} {SL L:List (Tx × Value)} {ws:List Tx} {fs:List Fl} (h:RS w w1 k bd a p o m sb sc SL ws i fs L W) (hb:Below W.heap.size W W'):RS w w1 k bd a p o m sb sc SL ws i fs L W' :=
 ⟨h.hm,h.tk,h.d.next hb,h.lf.next hb,h.st.next hb,h.p.next hb,h.b.next hb⟩
theorem ws_split {ws:List Tx} {j:Nat} {x:Tx} (h:ws[j]?=some x):ws=ws.take j++x::ws.drop (j+1):=by
 obtain ⟨hj,rfl⟩:=List.getElem?_eq_some_iff.1 h
 rw [←List.drop_eq_getElem_cons hj,List.take_append_drop]
def ReadT (k bd:Nat) (ws:List Tx) (w:World) (e:Ending) (w':World):Prop :=
 ∃ d',e=.returned (.bool (fields? k ws).isSome)∧DirB w' bd d'∧(∀ d,fields? k ws=some d→d'=d)∧But bd w w'
theorem ReadT.no {k bd:Nat} {ws:List Tx} {w w':World} {d':Dir} (h:fields? k ws=none) (hd:DirB w' bd d') (hb:But bd w w'):ReadT k bd ws w (.returned (.bool false)) w' :=
 ⟨d',by rw [h];rfl,hd,(fun d e=>by rw [h] at e;cases e),hb⟩
set_option maxRecDepth 100000 in
set_option maxHeartbeats 8000000 in
theorem read_any (B k bd a p o cap:Nat) (hk:1≤k∧k≤6) (ws:List Tx) (w:World) (hd:DirB w bd (base k)) (hB:B≤bd) (hL:LaidB B w) (hf:Flds w a (fldL k)) (ha:a≠bd) (hp:Prts w p o ws) (hpb:p≠bd)
  (hlen:∀ x∈ws,x.length≤1000) (hn:ws.length≤1000) (hcap:ws.length≤cap) (hcap2:cap≤100000) :
  Calls Tryz.prog 137 #[.pointer (some ⟨bd,0,none⟩),.slice (some ⟨a,0,none⟩) (fldL k).length (fldL k).length,.slice (some ⟨p,o,none⟩) ws.length cap] w (ReadT k bd ws w):=by
 have HK:=Lib.hid hk
 have HD:=Lib.hid hd
 have HL:=Lib.hid hL
 have HF:=Lib.hid hf
 have HP:=Lib.hid hp
 have HA:=Lib.hid ha
 have HPB:=Lib.hid hpb
 have HLEN:=Lib.hid hlen
 have HBB:=Lib.hid hB
 have hbd:bd < w.heap.size:=hd.lt
 have hn4:=di.fld_len k
 obtain ⟨n,hnl⟩:∃ n,(fldL k).length=n:=⟨_,rfl⟩
 have HNL:=Lib.hid hnl
 rw [hnl] at hn4 ⊢
 have hmm:=@run_makeMap Tryz.prog
 obtain ⟨nw,hnw⟩:∃ nw,ws.length=nw:=⟨_,rfl⟩
 have HNW:=Lib.hid hnw
 rw [hnw] at hn hcap ⊢
 clear hk hd hL hf hp ha hpb hlen hnl hB hnw
 go_enter Tryz.func137,Tryz.ntmps137
 go_wp2
 go_loopw [23] (fun s23 wr=>∃ (i:Nat) (L:List (Tx × Value)),s23=.int .i64 i∧i≤n∧Aside (MapV wr w.heap.size L)∧L.length≤i∧Aside (∀ j,fi.get j L=fget ((fldL k).take i) j)∧Aside (Below w.heap.size w wr)) (fun s23 _=>n - (intOf s23).toNat)
 case atStart=>exact ⟨0,[],rfl,Nat.zero_le _,MapV.new w,Nat.le_refl _,fun j=>rfl,(Below.refl _ _).alloc (Nat.le_refl _) _⟩
 case round =>
  obtain ⟨i,L,rfl,hi,hmp,hll,hget,hbw⟩:=hrel
  have HM:=Lib.hid (show MapV wr w.heap.size L from hmp)
  have HG:=Lib.hid (show ∀ j,fi.get j L=fget ((fldL k).take i) j from hget)
  have HB:=Lib.hid (show Below w.heap.size w wr from hbw)
  clear hmp hget hbw
  by_cases hin:i < n
  ·have hil:i < (fldL k).length:=by rw [HNL.out];exact hin
   obtain ⟨f,hfe⟩:∃ f,(fldL k)[i]?=some f:=⟨_,List.getElem?_eq_getElem hil⟩
   obtain ⟨c0,c1⟩:=(HF.out.next HB.out).2 i f hfe
   have HT:=Lib.hid (show (fldL k).take (i+1)=(fldL k).take i++[f] by rw [List.take_add_one,hfe];rfl)
   have HKL:=Lib.hid (show f.1.length≤maxLen by
    have:=(fld_opt (List.mem_of_getElem? hfe)).2
    rcases key_five this with h | h | h | h | h <;> rw [h] <;> decide)
   have hza:a < wr.heap.size:=Nat.lt_of_lt_of_le HF.out.1 HB.out.size
   clear hfe
   obtain ⟨key,opt⟩:=f
   dsimp only at c0 c1 HKL
   go_wp2_with (at_mapUpdate;refine wpList_put_map _ rfl _ _ _ 186 _ rfl Tryz.underlying186 w.heap.size i L rfl (HM.out.next ((Below.refl _ wr).alloc (Nat.le_refl _) _)) hll (by omega) key rfl HKL.out _ rfl ?_;intro w2 L2 hm2 hl2 hg2 hb2;have HM2:=Lib.hid hm2;have HG2:=Lib.hid hg2;have HB2:=Lib.hid hb2;clear hm2 hg2 hb2)
   go_roundw
   case rel =>
    refine ⟨i+1,L2,by go_num,by omega,HM2.out,hl2,fun j=>?_,?_⟩
    ·rw [HG2.out,HT.out,fget_snoc,HG.out]
     rfl
    ·exact (HB.out.alloc HB.out.size _).grown HB2.out (Nat.le_trans HB.out.size (by simp)) (fun j hj=>by cases hj;exact Nat.le_refl _)
   case measure=>simp [intOf];omega
  ·obtain rfl:i=n:=by omega
   have hm0:w.heap.size < wr.heap.size:=HM.out.lt
   have HL0:=Lib.hid (show Left wr w.heap.size k [] L from ⟨HM.out,fun j=>by
    have:=HG.out j
    rw [List.take_of_length_le (by rw [HNL.out];exact Nat.le_refl _),fget_all HK.out] at this
    rw [this]
    simp [keys]⟩)
   clear hi hll hin HM HG
   obtain ⟨wo,hwo⟩:∃ wo,wo=wr:=⟨wr,rfl⟩
   subst hwo
   go_wp2_with (go_at_call 123;refine (stores_any bd _).mono ?_;rintro e w2 ⟨sb,sc,SL,rfl,hst,hb2⟩;have HST:=Lib.hid hst;have HB2:=Lib.hid hb2;clear hst hb2)
   have HR0:=Lib.hid (show RS w wo k bd a p o w.heap.size sb sc SL ws 0 [] L w2 from
    ⟨rfl,Took.nil k,by rw [show dirOf k []=base k from (Inv.start k).dir.symm];exact (HD.out.next HB.out).next HB2.out,HL0.out.next HB2.out,HST.out,(HP.out.next HB.out).next HB2.out,(But.of_below HB.out).next HB2.out⟩)
   clear HL0 HST
   go_loopw [36] (fun s36 W=>∃ (i:Nat) (fs:List Fl) (L:List (Tx × Value)),s36=.int .i64 i∧i≤nw∧Aside (RS w wo k bd a p o w.heap.size sb sc SL ws i fs L W)) (fun s36 _=>nw - (intOf s36).toNat)
   case atStart=>exact ⟨0,[],L,rfl,Nat.zero_le _,HR0.out⟩
   case round =>
    clear HR0
    obtain ⟨j,fs,L1,rfl,hj,hrs⟩:=hrel
    have HR:=Lib.hid (show RS w wo k bd a p o w.heap.size sb sc SL ws j fs L1 wr from hrs)
    have hbo:bd < wo.heap.size:=Nat.lt_of_lt_of_le hbd HB.out.size
    have HLow:=Lib.hid (show Below B w wr from HR.out.b.low HBB.out (by have:=HBB.out;omega))
    have HLD:=Lib.hid (show LaidB B wr from HL.out.next HLow.out)
    have hBz:B≤wr.heap.size:=by have:=HR.out.b.size;have:=HBB.out;omega
    clear hrs
    by_cases hjn:j < nw
    ·have hjl:j < ws.length:=by rw [HNW.out];exact hjn
     obtain ⟨x,hx⟩:∃ x,ws[j]?=some x:=⟨_,List.getElem?_eq_getElem hjl⟩
     have hc0:=HR.out.p.2 j x hx
     have hxl:x.length≤1000:=HLEN.out x (List.mem_of_getElem? hx)
     obtain ⟨kl1,kl2⟩:=fld_len x
     have HWS:=Lib.hid (ws_split hx)
     have HT:=Lib.hid (show ws.take (j+1)=ws.take j++[x] by rw [List.take_add_one,hx];rfl)
     have hpz:p < wr.heap.size:=HR.out.p.1
     obtain ⟨key,hkey⟩:∃ key,(fld x).1=key:=⟨_,rfl⟩
     obtain ⟨v,hv⟩:∃ v,(fld x).2=v:=⟨_,rfl⟩
     have HKV:=Lib.hid (show fld x=(key,v) by rw [←hkey,← hv])
     have HCUT:=Lib.hid (show ∀ W,LaidD W→Calls Tryz.prog 16 #[.string (str x),.string { data:=#[61] }] W (Told (.tuple #[.string (str key),.string (str v),.bool (cut x).isSome]) W) from fun W hW=>by
      rw [←hkey,← hv];exact cut_any x (by omega) W hW)
     have HKL:=Lib.hid (show key.length≤maxLen by rw [←hkey];unfold maxLen;omega)
     have HVL:=Lib.hid (show v.length≤140737488355328 by rw [←hv];omega)
     clear hx hxl kl1 kl2 hkey hv hjl
     obtain ⟨fnd,hfnd⟩:∃ fnd,(cut x).isSome=fnd:=⟨_,rfl⟩
     rw [hfnd] at HCUT
     clear hfnd
     by_cases hin:has k key=true∧key ∉ keys fs
     ·have HIN:=Lib.hid hin
      have HG:=Lib.hid (show fi.get key L1=some (.agg #[.string (str key),.bool (decide (key=accK))]) by rw [HR.out.lf.get,if_pos hin];rfl)
      obtain ⟨opt,hopt⟩:∃ opt,decide (key=accK)=opt:=⟨_,rfl⟩
      rw [hopt] at HG
      obtain ⟨g,hcl,hgo,hdo⟩:=clo_call hin.1 sc
      have HCL:=Lib.hid (show fi.get key SL=some (.func (.func g) #[] #[.pointer (some ⟨sc,0,none⟩)]) by rw [HR.out.st.get];exact hcl)
      have HDO:=Lib.hid hdo
      clear hin hopt hcl hdo
      obtain ⟨okb,hok⟩:∃ okb,okv key v=okb:=⟨_,rfl⟩
      have HOK:=Lib.hid hok
      clear hok
      cases okb with
      | false =>
       go_wp2_with (first
        | (go_at_call 16;refine (HCUT.out _ HLD.out.here).mono ?_;rintro e w3 ⟨rfl,hb3⟩;have HR3:=Lib.hid (HR.out.next hb3);have HLD3:=Lib.hid (HLD.out.next (hb3.mono hBz));have HS3:=Lib.hid (Nat.le_trans hBz hb3.size);clear hb3)
        | (at_lookup;refine wpList_look_yes _ rfl _ _ 186 _ rfl Tryz.underlying186 zeroF w.heap.size L1 rfl HR3.out.lf.m key rfl HKL.out _ HG.out ?_;have hy4:Below w3.heap.size w3 (w3.alloc (.cells #[.string (str key),.bool opt] 133)):=(Below.refl _ _).alloc (Nat.le_refl _) _;have HR4:=Lib.hid (HR3.out.next hy4);have HLD4:=Lib.hid (HLD3.out.next (hy4.mono HS3.out));have hl2:=HR4.out.st.m.look Tryz.underlying155 (z:=.nilFunc) (by kernel_rfl) HKL.out;rw [HCL.out,Option.getD_some] at hl2;clear hy4)
        | (go_at_fn g;refine (HDO.out v HVL.out bd (dirOf k fs) _ HR4.out.st.ptr HR4.out.d HLD4.out.here.u).mono ?_;rintro e w5 ⟨rfl,hb5,hd5⟩;rw [HOK.out];have HB5:=Lib.hid hb5;have HD5:=Lib.hid hd5;clear hb5 hd5))
       go_ret
       refine ReadT.no ?_ HD5.out (HR4.out.b.trans HB5.out)
       rw [HWS.out]
       refine took_fail HK.out HR.out.hm x _ ?_
       rw [HKV.out]
       rintro ⟨_,_,h3⟩
       rw [HOK.out] at h3
       cases h3
      | true =>
       go_wp2_with (first
        | (go_at_call 16;refine (HCUT.out _ HLD.out.here).mono ?_;rintro e w3 ⟨rfl,hb3⟩;have HR3:=Lib.hid (HR.out.next hb3);have HLD3:=Lib.hid (HLD.out.next (hb3.mono hBz));have HS3:=Lib.hid (Nat.le_trans hBz hb3.size);clear hb3)
        | (at_lookup;refine wpList_look_yes _ rfl _ _ 186 _ rfl Tryz.underlying186 zeroF w.heap.size L1 rfl HR3.out.lf.m key rfl HKL.out _ HG.out ?_;have hy4:Below w3.heap.size w3 (w3.alloc (.cells #[.string (str key),.bool opt] 133)):=(Below.refl _ _).alloc (Nat.le_refl _) _;have HR4:=Lib.hid (HR3.out.next hy4);have HLD4:=Lib.hid (HLD3.out.next (hy4.mono HS3.out));have hl2:=HR4.out.st.m.look Tryz.underlying155 (z:=.nilFunc) (by kernel_rfl) HKL.out;rw [HCL.out,Option.getD_some] at hl2;clear hy4)
        | (go_at_fn g;refine (HDO.out v HVL.out bd (dirOf k fs) _ HR4.out.st.ptr HR4.out.d HLD4.out.here.u).mono ?_;rintro e w5 ⟨rfl,hb5,hd5⟩;rw [HOK.out];have HB5:=Lib.hid hb5;have HD5:=Lib.hid hd5;clear hb5 hd5)
        | (at_delete;refine wpList_del_map _ rfl _ _ 186 _ rfl Tryz.underlying186 w.heap.size L1 rfl (HR4.out.lf.m.but HB5.out (by omega)) key rfl HKL.out ?_;intro w6 hm6 hb6;have HM6:=Lib.hid hm6;have HB6:=Lib.hid hb6;clear hm6 hb6))
       go_roundw
       case rel =>
        have hkv:=HKV.out
        have hok:=HOK.out
        have hcut:cut x=some (key,v):=by rw [←hkv];exact fld_cut (by rw [hkv];exact hok)
        refine ⟨j+1,fs++[(key,v)],fi.del key L1,by go_num,by omega,?_⟩
        refine ⟨by rw [HT.out,mapM_snoc,HR4.out.hm,hcut],HR4.out.tk.snoc HIN.out.2 HIN.out.1 hok,?_,HR4.out.lf.del (f:=(key,v)) HM6.out,?_,?_,?_⟩
        ·have hd:=HD5.out
         rw [sto_dir (f:=(key,v)) HK.out HIN.out.2 HIN.out.1 hok] at hd
         exact BoxA.but hd HB6.out (by omega)
        ·exact (HR4.out.st.but HB5.out hbo).but HB6.out hm0
        ·exact (HR4.out.p.but HB5.out HPB.out).but HB6.out (by have:=HP.out.1;omega)
        ·exact (HR4.out.b.trans HB5.out).new HB6.out (Nat.le_refl _)
       case measure=>simp [intOf];omega
     ·have HIN:=Lib.hid hin
      have HG:=Lib.hid (show fi.get key L1=none by rw [HR.out.lf.get,if_neg hin])
      clear hin
      go_wp2_with (first
        | (go_at_call 16;refine (HCUT.out _ HLD.out.here).mono ?_;rintro e w3 ⟨rfl,hb3⟩;have HR3:=Lib.hid (HR.out.next hb3);clear hb3)
        | (at_lookup;refine wpList_look_no _ rfl _ _ 186 _ rfl Tryz.underlying186 zeroF w.heap.size L1 rfl HR3.out.lf.m key rfl HKL.out HG.out ?_))
      go_ret
      have hy:Below w3.heap.size w3 (w3.alloc (.cells #[.string { data:=#[] },.bool false] 133)):=(Below.refl _ _).alloc (Nat.le_refl _) _
      refine ReadT.no ?_ (HR3.out.next hy).d (HR3.out.next hy).b
      rw [HWS.out]
      refine took_fail HK.out HR.out.hm x _ ?_
      rw [HKV.out]
      rintro ⟨h1,h2,_⟩
      exact HIN.out ⟨h1,h2⟩
    ·obtain rfl:j=nw:=by omega
     have HCM:=Lib.hid (show ws.mapM cut=some fs by
      have:=HR.out.hm
      rw [List.take_of_length_le (by rw [HNW.out];exact Nat.le_refl _)] at this
      exact this)
     have HEND:=Lib.hid (took_end HK.out HCM.out HR.out.tk)
     obtain ⟨wp,hwp⟩:∃ wp,wp=wr:=⟨wr,rfl⟩
     subst hwp
     go_wp2_with (at_range;refine wpList_range_map _ rfl _ 186 _ rfl Tryz.underlying186 w.heap.size L1 rfl HR.out.lf.m ?_;intro w7 hrg hb7 hs7;have HRG:=Lib.hid hrg;have HR7:=Lib.hid (HR.out.next hb7);clear hrg hb7)
     go_frame
     go_loopw [67] (fun _ W=>∃ left cnt,Aside (RngV W w.heap.size wp.heap.size L1 left cnt)∧Aside (∀ q,fi.get q L1=some (fV (q,false))→left (.string q)=true)∧Aside (DirB W bd (dirOf k fs))∧Aside (But bd w W)) (fun _ W=>W.rangeLeft w.heap.size wp.heap.size)
     case atStart=>exact ⟨_,_,HRG.out,fun q hq=>(by show Maps.has (datV L1) (.string q)=true;rw [has_isSome,hq];rfl),HR7.out.d,HR7.out.b⟩
     case round =>
      obtain ⟨left,cnt,hrg,hlf,hdb,hbt⟩:=hrel
      have HLF:=Lib.hid (show ∀ q,fi.get q L1=some (fV (q,false))→left (.string q)=true from hlf)
      have HDB:=Lib.hid (show DirB wr bd (dirOf k fs) from hdb)
      have HBT:=Lib.hid (show But bd w wr from hbt)
      have HRG0:=Lib.hid (show RngV wr w.heap.size wp.heap.size L1 left cnt from hrg)
      clear hlf hdb hbt
      go_wp2_with (at_next;refine wpList_next_map _ rfl _ rfl w.heap.size wp.heap.size L1 left cnt rfl hrg ?_ ?_)
      ·intro hc0 hl0
       have HL0:=Lib.hid hl0
       clear hl0 hrg
       go_wp2
       go_ret
       have hend:=HEND.out
       rw [if_pos] at hend
       ·refine ⟨_,by rw [hend];rfl,HDB.out,fun d e=>?_,HBT.out⟩
        rw [hend] at e
        exact Option.some.inj e
       ·intro f hf hnf
        obtain ⟨o1,o2⟩:=fld_opt hf
        cases hb:f.2 with
        | true=>rfl
        | false =>
         have h1:=HR.out.lf.get f.1
         rw [if_pos ⟨o2,hnf⟩,← o1,hb] at h1
         have h2:=HLF.out f.1 h1
         rw [HL0.out] at h2
         cases h2
      ·intro q v w8 cnt8 hg hlq hrg8 hlt hbt8 hs8 hen
       have hgq:=HR.out.lf.get q
       rw [hg] at hgq
       have hcond:has k q=true∧q ∉ keys fs:=by
        by_cases h:has k q=true∧q ∉ keys fs
        ·exact h
        ·rw [if_neg h] at hgq;cases hgq
       rw [if_pos hcond] at hgq
       obtain rfl:=Option.some.inj hgq
       have HC:=Lib.hid hcond
       have HG8:=Lib.hid hrg8
       have HLT:=Lib.hid hlt
       have hpb:bd < wp.heap.size:=Nat.lt_of_lt_of_le hbd HR.out.b.size
       have HB8:=Lib.hid (HBT.out.new hbt8 HR.out.b.size)
       have HD8:=Lib.hid (show DirB w8 bd (dirOf k fs) from BoxA.but HDB.out hbt8 (by omega))
       unfold fV at hen
       clear hg hlq hrg8 hlt hbt8 hgq hcond hrg
       obtain ⟨opt,hopt⟩:∃ opt,decide (q=accK)=opt:=⟨_,rfl⟩
       rw [hopt] at hen
       have HO:=Lib.hid hopt
       clear hopt
       have hy:Below w8.heap.size w8 (w8.alloc (.cells #[.string (str q),.bool opt] 133)):=(Below.refl _ _).alloc (Nat.le_refl _) _
       have HY:=Lib.hid hy
       clear hy
       cases opt with
       | false =>
        go_wp2
        go_ret
        refine ReadT.no ?_ (HD8.out.next HY.out) (HB8.out.next HY.out)
        rw [HEND.out,if_neg]
        intro hh
        have:=hh _ (has_mem HC.out.1) HC.out.2
        rw [HO.out] at this
        cases this
       | true =>
        go_wp2
        go_roundw
        case rel =>
         refine ⟨_,cnt8,HG8.out.next HY.out,fun z hz=>?_,HD8.out.next HY.out,HB8.out.next HY.out⟩
         show (left (.string z) && !(Lit.string z).sameKey (.string q))=true
         rw [HLF.out z hz,same_str]
         have:z≠q:=by
          rintro rfl
          have h1:=HR.out.lf.get z
          rw [hz,if_pos HC.out,HO.out] at h1
          have h2:=Option.some.inj h1
          unfold fV at h2
          cases h2
         rw [decide_eq_false this]
         rfl
        case measure =>
         rw [(HG8.out.next HY.out).left_eq,HRG0.out.left_eq]
         exact HLT.out
end Go.Proofs.YtekcjfdllclphaaGreatDoor.gn
end
