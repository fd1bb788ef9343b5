/- The contract of slip.first: the first line of a slip's text. -/
import Derived.Test.YtekcjfdllclphaaGreatDoorMQbSlCk
import Derived.Deep.RegionHeld3
import Derived.Test.YtekcjfdllclphaaGreatDoorMQbSlC
set_option linter.unusedVariables false
set_option linter.unusedSimpArgs false
section
namespace Go.Proofs.YtekcjfdllclphaaGreatDoor.sp
open Go.Proofs.YtekcjfdllclphaaGreatDoor.un
open Go.Proofs.YtekcjfdllclphaaGreatDoor.di
def jobB:Tx:=[106,111,98,32,117,115,101,114,61]
def nodesB:Tx:=[32,110,111,100,101,115,61]
def wallB:Tx:=[32,119,97,108,108,61]
def qosB:Tx:=[32,113,111,115,61]
def afterB:Tx:=[32,97,102,116,101,114,61]
def hdT (us a b:Tx):Tx:=jobB++us++nodesB++a++wallB++b
def qosT (n:Int):Tx:=if n=0 then [] else qosB++txt n
def depsT (l:List (Int × Bool)):Tx:=if l=[] then [] else afterB++joinC 44 (l.map depT)
def befT (k:Nat):Tx:=if k=0 then afterB else [44]
theorem depsT_snoc (l:List (Int × Bool)) (d:Int × Bool):depsT (l++[d])=depsT l++(befT l.length++depT d):=by
 unfold depsT befT
 cases l with
 | nil=>simp [joinC]
 | cons e r =>
  rw [if_neg (by simp),if_neg (by simp),if_neg (by simp),List.map_append,List.map_cons,List.map_singleton,joinC_snoc 44 _ _ (by simp)]
  simp
theorem joinC_app (c:UInt8):∀ (a b:List Tx),a≠[]→b≠[]→joinC c (a++b)=joinC c a++c::joinC c b
 | [],_,h,_=>absurd rfl h
 | [x],b,_,hb=>by rw [List.singleton_append,joinC_cons c x hb];rfl
 | x::y::r,b,_,hb=>by
  rw [List.cons_append,joinC_cons c x (by simp),joinC_app c (y::r) b (by simp) hb,joinC_cons c x (by simp),List.append_assoc]
  rfl
theorem line1_hd {x:Slip} (h:0≤x.qos):line1 x=hdT x.user (txt x.nodes) (txt x.wall)++qosT x.qos++depsT x.after:=by
 have e3:joinC 32 [jobW,wtx (userK,x.user),wtx (nodesK,txt x.nodes),wtx (wallK,txt x.wall)]=hdT x.user (txt x.nodes) (txt x.wall):=by
  unfold hdT
  simp [joinC,jobW,wtx,userK,nodesK,wallK,jobB,nodesB,wallB]
 unfold line1 fsS
 rw [List.map_append,List.map_append,← List.cons_append,← List.cons_append]
 have e4:∀ (q:List Fl),(jobW::List.map wtx [(userK,x.user),(nodesK,txt x.nodes),(wallK,txt x.wall)])++q.map wtx=[jobW,wtx (userK,x.user),wtx (nodesK,txt x.nodes),wtx (wallK,txt x.wall)]++q.map wtx:=fun _=>rfl
 unfold qosT depsT
 by_cases hq:x.qos=0
 ·rw [if_neg (by omega),if_pos hq,List.append_nil,List.map_nil,List.append_nil]
  by_cases ha:x.after=[]
  ·rw [if_pos ha,if_pos ha,List.map_nil,List.append_nil,List.append_nil]
   exact e3
  ·rw [if_neg ha,if_neg ha,joinC_app 32 _ _ (by simp) (by simp)]
   rw [show joinC 32 (jobW::List.map wtx [(userK,x.user),(nodesK,txt x.nodes),(wallK,txt x.wall)])=_ from e3]
   rfl
 ·rw [if_pos (by omega),if_neg hq]
  rw [show (jobW::List.map wtx [(userK,x.user),(nodesK,txt x.nodes),(wallK,txt x.wall)])++List.map wtx [(qosK,txt x.qos)]=[jobW,wtx (userK,x.user),wtx (nodesK,txt x.nodes),wtx (wallK,txt x.wall)]++[wtx (qosK,txt x.qos)] from rfl]
  have e5:joinC 32 ([jobW,wtx (userK,x.user),wtx (nodesK,txt x.nodes),wtx (wallK,txt x.wall)]++[wtx (qosK,txt x.qos)])=hdT x.user (txt x.nodes) (txt x.wall)++(qosB++txt x.qos):=by
   rw [joinC_app 32 _ _ (by simp) (by simp),e3]
   rfl
  by_cases ha:x.after=[]
  ·rw [if_pos ha,if_pos ha,List.map_nil,List.append_nil,List.append_nil]
   exact e5
  ·rw [if_neg ha,if_neg ha,joinC_app 32 _ _ (by simp) (by simp),e5]
   rfl
end Go.Proofs.YtekcjfdllclphaaGreatDoor.sp
namespace Go.Proofs.YtekcjfdllclphaaGreatDoor.gn
open Go.RowKit
open Go.Proofs.YtekcjfdllclphaaGreatDoor.un
open Go.Proofs.YtekcjfdllclphaaGreatDoor.di
open Go.Proofs.YtekcjfdllclphaaGreatDoor.sp (Slip Ok hdT qosT depsT befT depT line1 line1_hd depsT_snoc jobB nodesB wallB qosB afterB)
theorem hd_str (us a b:Tx):({ data:=#[106,111,98,32,117,115,101,114,61] }:ByteArray)++str us++{ data:=#[32,110,111,100,101,115,61] }++str a++{ data:=#[32,119,97,108,108,61] }++str b=str (hdT us a b):=by
 show str jobB++str us++str nodesB++str a++str wallB++str b=_
 rw [str_app,str_app,str_app,str_app,str_app]
 rfl
theorem add_sz {a b:ByteArray} (ha:a.size≤1000000) (hb:b.size≤1000000) (W:World):(Op.stringOp .add a b).run Tryz.prog W=.ok (.string (a++b)) W:=run_string_add_sum W _ _ (by omega)
theorem app_sz {a b:ByteArray} {m n:Nat} (ha:a.size≤m) (hb:b.size≤n):(a++b).size≤m+n:=by rw [ByteArray.size_append];omega
theorem dep_str (s bf:Tx) (n:Int) (b:Bool):str s++(str bf++str (if b=true then sp.anyW else sp.okW)++str [58]++str (txt n))=str (s++(bf++depT (n,b))):=by
 rw [str_app,str_app,str_app,str_app]
 unfold depT
 simp
theorem qos_str (s:Tx) (n:Int):str s++(({ data:=#[32,113,111,115,61] }:ByteArray)++str (txt n))=str (s++(qosB++txt n)):=by
 show str s++(str qosB++str (txt n))=_
 rw [str_app,str_app]
set_option maxRecDepth 100000 in
set_option maxHeartbeats 8000000 in
theorem first_slip (x:Slip) (g:Gh) (w:World) (h:SR w x g) (hx:Ok x) (hL:LaidD w):Calls Tryz.prog 51 #[sV x g] w (Told (.string (str (line1 x))) w):=by
 have HF:=Lib.hid (line1_hd hx.qos.1)
 have HXT:=Lib.hid hx.after
 have hus:x.user.length≤32:=name_len hx.user
 have hn:=hx.nodes
 have hwl:=hx.wall
 have hq:=hx.qos
 obtain ⟨wb,hwb⟩:∃ wb,w.alloc (.cells (scs x g) 27)=wb:=⟨_,rfl⟩
 have hbx:BoxA wb w.heap.size 27 (scs x g):=by rw [←hwb];exact BoxA.new _ _ _
 have hB1:Below w.heap.size w wb:=by rw [←hwb];exact (Below.refl _ _).alloc (Nat.le_refl _) _
 have HB1:=Lib.hid hB1
 have HWB:=Lib.hid hwb
 have HCE:=Lib.hid (fun (W:World) (hb:Below wb.heap.size wb W)=>cel_box (hbx.next hb))
 have HLB:=Lib.hid (fun (W:World) (hb:Below wb.heap.size wb W)=>(hL.next (hB1.trans (hb.mono hB1.size))).u)
 have HRA:=Lib.hid (fun (W:World) (hb:Below wb.heap.size wb W)=>((h.next hB1).next hb).a)
 have HCA:=Lib.hid h.ca
 clear hx h hL hwb hbx hB1
 obtain ⟨va,vm,vd,vu⟩:=g
 obtain ⟨us,nodes,wall,qos,after,cap,inn,out,pool,mk,dr,use⟩:=x
 unfold sV scs at *
 dsimp only at *
 obtain ⟨pa,ca,rfl,hle,hcm⟩:=HCA.out
 clear HCA
 generalize hna:after.length=na at *
 have HNA:=Lib.hid hna
 clear hna
 obtain ⟨c0,c1,c2,c3,c4,c5,c6,c7,c8,c9,c10,c11,clt⟩:=HCE.out wb (Below.refl _ _)
 dsimp only at c0 c1 c2 c3 c4 c5 c6 c7 c8 c9 c10 c11
 clear c5 c6 c7 c8 c9 c10 c11
 have z1:(str us).size≤32:=by rw [str_size];exact hus
 have z2:(str (txt nodes)).size≤13:=by rw [str_size];exact txt_len _
 have z3:(str (txt wall)).size≤13:=by rw [str_size];exact txt_len _
 go_enter Tryz.func51,Tryz.ntmps51
 go_upto_region 1 with fail
 rw [HWB.out]
 have s0:({ data:=#[106,111,98,32,117,115,101,114,61] }:ByteArray).size≤9:=by decide
 have s1:=app_sz s0 z1
 have s2:=app_sz (n:=7) s1 (show ({ data:=#[32,110,111,100,101,115,61] }:ByteArray).size≤7 by decide)
 have s3:=app_sz s2 z2
 have s4:=app_sz (n:=6) s3 (show ({ data:=#[32,119,97,108,108,61] }:ByteArray).size≤6 by decide)
 have s5:=app_sz s4 z3
 have a1:=fun W=>add_sz (a:=({ data:=#[106,111,98,32,117,115,101,114,61] }:ByteArray)) (b:=str us) (by omega) (by omega) W
 have a2:=fun W=>add_sz (a:=({ data:=#[106,111,98,32,117,115,101,114,61] }:ByteArray)++str us) (b:=({ data:=#[32,110,111,100,101,115,61] }:ByteArray)) (by omega) (by decide) W
 have a3:=fun W=>add_sz (a:=({ data:=#[106,111,98,32,117,115,101,114,61] }:ByteArray)++str us++({ data:=#[32,110,111,100,101,115,61] }:ByteArray)) (b:=str (txt nodes)) (by omega) (by omega) W
 have a4:=fun W=>add_sz (a:=({ data:=#[106,111,98,32,117,115,101,114,61] }:ByteArray)++str us++({ data:=#[32,110,111,100,101,115,61] }:ByteArray)++str (txt nodes)) (b:=({ data:=#[32,119,97,108,108,61] }:ByteArray)) (by omega) (by decide) W
 have a5:=fun W=>add_sz (a:=({ data:=#[106,111,98,32,117,115,101,114,61] }:ByteArray)++str us++({ data:=#[32,110,111,100,101,115,61] }:ByteArray)++str (txt nodes)++({ data:=#[32,119,97,108,108,61] }:ByteArray)) (b:=str (txt wall)) (by omega) (by omega) W
 have HSS:=Lib.hid s5
 have HNW:=Lib.hid (And.intro hn hwl)
 have HT1:=Lib.hid (fun (W:World) (hb:Below wb.heap.size wb W)=>text_any nodes (by have:=HNW.out;omega) (by have:=HNW.out;omega) W (HLB.out W hb))
 have HT2:=Lib.hid (fun (W:World) (hb:Below wb.heap.size wb W)=>text_any wall (by have:=HNW.out;omega) (by have:=HNW.out;omega) W (HLB.out W hb))
 have HK:=Lib.hid (fun (W:World) (hb:Below wb.heap.size wb W)=>(⟨(Below.cell hb clt).trans c0,(Below.cell hb clt).trans c1,(Below.cell hb clt).trans c2⟩:W.cell? ⟨w.heap.size,0,none⟩=some (.string (str us))∧W.cell? ⟨w.heap.size,1,none⟩=some (.int .i64 nodes)∧W.cell? ⟨w.heap.size,2,none⟩=some (.int .i64 wall)))
 clear s0 s1 s2 s3 s4 s5
 have HY0:=Lib.hid (drew_low wb)
 go_region_held3 (fun W=>W.cell? ⟨w.heap.size,0,none⟩=some (.string (str us))∧W.cell? ⟨w.heap.size,1,none⟩=some (.int .i64 nodes)∧W.cell? ⟨w.heap.size,2,none⟩=some (.int .i64 wall)) (first | exact HK.out _ HY2.out | exact HK.out _ HY1.out | exact HK.out _ HY0.out | exact HK.out _ (Below.refl _ _)) (first
  | (go_at_call 93;refine (HT1.out _ HY0.out).mono ?_;rintro e w1 ⟨rfl,hb1⟩;have HY1:=Lib.hid (HY0.out.trans (hb1.mono HY0.out.size));clear hb1)
  | (go_at_call 93;refine (HT2.out _ HY1.out).mono ?_;rintro e w2 ⟨rfl,hb2⟩;have HY2:=Lib.hid (HY1.out.trans (hb2.mono HY1.out.size));clear hb2))
 rw [hd_str]
 have hhl:(hdT us (txt nodes) (txt wall)).length≤90:=by
  have:=txt_len nodes
  have:=txt_len wall
  simp [hdT,jobB,nodesB,wallB]
  omega
 obtain ⟨H,hH⟩:∃ H,hdT us (txt nodes) (txt wall)=H:=⟨_,rfl⟩
 rw [hH] at hhl HF ⊢
 have d3:w2.cell? ⟨w.heap.size,3,none⟩=some (.int .i64 qos):=(Below.cell HY2.out clt).trans c3
 have d4:w2.cell? ⟨w.heap.size,4,none⟩=some (.slice pa na ca):=(Below.cell HY2.out clt).trans c4
 have zh:(str H).size≤90:=by rw [str_size];exact hhl
 have clt2:w.heap.size < w2.heap.size:=Nat.lt_of_lt_of_le clt HY2.out.size
 have hna8:na≤8:=by have:=HXT.out.1;have:=HNA.out;omega
 clear a1 a2 a3 a4 a5 hH c0 c1 c2 c3 c4
 by_cases hq0:qos=0
 ·obtain ⟨HQ,hHQ⟩:∃ HQ,HQ=H:=⟨_,rfl⟩
  have HHQ:=Lib.hid (show HQ=H++qosT qos by rw [hHQ,hq0];simp [qosT])
  have HZQ:=Lib.hid (show HQ.length≤120 by rw [hHQ];omega)
  have zhq:(str HQ).size≤90:=by rw [hHQ];exact zh
  rw [←hHQ]
  clear hHQ
  subst hq0
  go_wp2
  go_loopw [3,4,33] (fun s3 s4 s33 wr=>∃ (k:Nat) (t:Tx) (bf:Tx),s33=.int .i64 (k:Int)∧s3=.string (str t)∧s4=.string (str bf)∧k≤na∧t.length≤120+30 * k∧bf.length≤7∧Aside (t=HQ++depsT (after.take k))∧Aside (bf=befT k)∧Aside (Below wb.heap.size wb wr)) (fun _ _ s33 _=>na - (intOf s33).toNat)
  case atStart=>exact ⟨0,HQ,afterB,rfl,rfl,rfl,Nat.zero_le _,by have:=HZQ.out;omega,by decide,by show HQ=HQ++depsT [];simp [depsT],rfl,HY2.out⟩
  case round =>
   obtain ⟨k,t,bf,rfl,rfl,rfl,hk,htl,hbl,ht,hbf,hb⟩:=hrel
   have HT:=Lib.hid (show t=HQ++depsT (after.take k) from ht)
   have HBF:=Lib.hid (show bf=befT k from hbf)
   have HB:=Lib.hid (show Below wb.heap.size wb wr from hb)
   have HTL:=Lib.hid (And.intro htl hbl)
   clear ht hbf hb
   have e1:(str t).size≤400:=by rw [str_size];omega
   have e2:(str bf).size≤7:=by rw [str_size];exact hbl
   by_cases hkn:k < na
   ·obtain ⟨b,off,hpa,hbz,hcc⟩:=RdC.at_ (size:=2) (HRA.out _ HB.out) rfl (by omega)
    subst hpa
    obtain ⟨d,hd⟩:∃ d,after[k]?=some d:=⟨_,List.getElem?_eq_getElem (by rw [HNA.out];exact hkn)⟩
    have x0:wr.cell? ⟨b,off+k * 2,none⟩=some (.int .i64 d.1):=hcc.elt (f:=cA) (k:=2) (fun _=>rfl) (j:=0) hd (by decide) rfl
    have x1:wr.cell? ⟨b,off+k * 2+1,none⟩=some (.bool d.2):=hcc.elt (f:=cA) (k:=2) (fun _=>rfl) (j:=1) hd (by decide) rfl
    have HD:=Lib.hid hd
    have hdb:=HXT.out.2.2 d (List.mem_of_getElem? hd)
    have hlen2:(after.take k).length=k:=by rw [List.length_take,HNA.out];omega
    have HLEN:=Lib.hid hlen2
    have z4:(str (txt d.1)).size≤13:=by rw [str_size];exact txt_len _
    have HTD:=Lib.hid (fun (W:World) (hb:Below wb.heap.size wb W)=>text_any d.1 (by omega) (by omega) W (HLB.out W hb))
    clear hcc hd hlen2
    have hy:Below wr.heap.size wr (wr.alloc (.cells #[.int .i64 d.1,.bool d.2] 88)):=(Below.refl _ _).alloc (Nat.le_refl _) _
    have HY:=Lib.hid (HB.out.trans (hy.mono HB.out.size))
    clear hy
    obtain ⟨n,bb⟩:=d
    dsimp only at x0 x1 hdb z4 HTD HY
    cases bb with
    | true =>
     go_wp2_with (go_at_call 93;refine (HTD.out _ HY.out).mono ?_;rintro e w5 ⟨rfl,hb5⟩;have HB5:=Lib.hid (HY.out.trans (hb5.mono HY.out.size));clear hb5)
     go_roundw
     case rel =>
      refine ⟨k+1,t++(bf++depT (n,true)),[44],by go_num,?_,rfl,by omega,?_,by decide,?_,rfl,HB5.out⟩
      ·rw [←dep_str];rfl
      ·have:=txt_len n
       obtain ⟨htl,hbl⟩:=HTL.out
       simp [depT,sp.anyW]
       omega
      ·show t++(bf++depT (n,true))=HQ++depsT (after.take (k+1))
       rw [take_snoc HD.out,depsT_snoc,HLEN.out,← HBF.out,HT.out,List.append_assoc]
     case measure=>simp [intOf];omega
    | false =>
     go_wp2_with (go_at_call 93;refine (HTD.out _ HY.out).mono ?_;rintro e w5 ⟨rfl,hb5⟩;have HB5:=Lib.hid (HY.out.trans (hb5.mono HY.out.size));clear hb5)
     go_roundw
     case rel =>
      refine ⟨k+1,t++(bf++depT (n,false)),[44],by go_num,?_,rfl,by omega,?_,by decide,?_,rfl,HB5.out⟩
      ·rw [←dep_str];rfl
      ·have:=txt_len n
       obtain ⟨htl,hbl⟩:=HTL.out
       simp [depT,sp.okW]
       omega
      ·show t++(bf++depT (n,false))=HQ++depsT (after.take (k+1))
       rw [take_snoc HD.out,depsT_snoc,HLEN.out,← HBF.out,HT.out,List.append_assoc]
     case measure=>simp [intOf];omega
   ·obtain rfl:k=na:=by omega
    have HTF:=Lib.hid (show t=line1 _ by
     rw [HF.out,HT.out,List.take_of_length_le (by rw [HNA.out];exact Nat.le_refl _),← HHQ.out])
    go_wp2
    go_ret
    exact ⟨by rw [←HTF.out];rfl,HB1.out.trans (HB.out.mono HB1.out.size)⟩
 ·have hqb:(qos == 0)=false:=by rw [beq_eq_false_iff_ne];exact hq0
  have zq:(str (txt qos)).size≤13:=by rw [str_size];exact txt_len _
  have HTQ:=Lib.hid (fun (W:World) (hb:Below wb.heap.size wb W)=>text_any qos (by omega) (by omega) W (HLB.out W hb))
  obtain ⟨HQ,hHQ⟩:∃ HQ,H++(qosB++txt qos)=HQ:=⟨_,rfl⟩
  have HHQ:=Lib.hid (show HQ=H++qosT qos by rw [←hHQ];unfold qosT;rw [if_neg hq0])
  have HZQ:=Lib.hid (show HQ.length≤120 by rw [←hHQ];have:=txt_len qos;simp [qosB];omega)
  have HQE:=Lib.hid hHQ
  clear hHQ
  go_wp2_with (go_at_call 93;refine (HTQ.out _ HY2.out).mono ?_;rintro e w3 ⟨rfl,hb3⟩;have HY3:=Lib.hid (HY2.out.trans (hb3.mono HY2.out.size));have d43:w3.cell? ⟨w.heap.size,4,none⟩=some (.slice pa na ca):=(Below.cell hb3 clt2).trans d4;have clt3:w.heap.size < w3.heap.size:=Nat.lt_of_lt_of_le clt2 hb3.size;clear hb3)
  go_loopw [3,4,33] (fun s3 s4 s33 wr=>∃ (k:Nat) (t:Tx) (bf:Tx),s33=.int .i64 (k:Int)∧s3=.string (str t)∧s4=.string (str bf)∧k≤na∧t.length≤120+30 * k∧bf.length≤7∧Aside (t=HQ++depsT (after.take k))∧Aside (bf=befT k)∧Aside (Below wb.heap.size wb wr)) (fun _ _ s33 _=>na - (intOf s33).toNat)
  case atStart=>exact ⟨0,HQ,afterB,rfl,by rw [←HQE.out,← qos_str],rfl,Nat.zero_le _,by have:=HZQ.out;omega,by decide,by show HQ=HQ++depsT [];simp [depsT],rfl,HY3.out⟩
  case round =>
   obtain ⟨k,t,bf,rfl,rfl,rfl,hk,htl,hbl,ht,hbf,hb⟩:=hrel
   have HT:=Lib.hid (show t=HQ++depsT (after.take k) from ht)
   have HBF:=Lib.hid (show bf=befT k from hbf)
   have HB:=Lib.hid (show Below wb.heap.size wb wr from hb)
   have HTL:=Lib.hid (And.intro htl hbl)
   clear ht hbf hb
   have e1:(str t).size≤400:=by rw [str_size];omega
   have e2:(str bf).size≤7:=by rw [str_size];exact hbl
   by_cases hkn:k < na
   ·obtain ⟨b,off,hpa,hbz,hcc⟩:=RdC.at_ (size:=2) (HRA.out _ HB.out) rfl (by omega)
    subst hpa
    obtain ⟨d,hd⟩:∃ d,after[k]?=some d:=⟨_,List.getElem?_eq_getElem (by rw [HNA.out];exact hkn)⟩
    have x0:wr.cell? ⟨b,off+k * 2,none⟩=some (.int .i64 d.1):=hcc.elt (f:=cA) (k:=2) (fun _=>rfl) (j:=0) hd (by decide) rfl
    have x1:wr.cell? ⟨b,off+k * 2+1,none⟩=some (.bool d.2):=hcc.elt (f:=cA) (k:=2) (fun _=>rfl) (j:=1) hd (by decide) rfl
    have HD:=Lib.hid hd
    have hdb:=HXT.out.2.2 d (List.mem_of_getElem? hd)
    have hlen2:(after.take k).length=k:=by rw [List.length_take,HNA.out];omega
    have HLEN:=Lib.hid hlen2
    have z4:(str (txt d.1)).size≤13:=by rw [str_size];exact txt_len _
    have HTD:=Lib.hid (fun (W:World) (hb:Below wb.heap.size wb W)=>text_any d.1 (by omega) (by omega) W (HLB.out W hb))
    clear hcc hd hlen2
    have hy:Below wr.heap.size wr (wr.alloc (.cells #[.int .i64 d.1,.bool d.2] 88)):=(Below.refl _ _).alloc (Nat.le_refl _) _
    have HY:=Lib.hid (HB.out.trans (hy.mono HB.out.size))
    clear hy
    obtain ⟨n,bb⟩:=d
    dsimp only at x0 x1 hdb z4 HTD HY
    cases bb with
    | true =>
     go_wp2_with (go_at_call 93;refine (HTD.out _ HY.out).mono ?_;rintro e w5 ⟨rfl,hb5⟩;have HB5:=Lib.hid (HY.out.trans (hb5.mono HY.out.size));clear hb5)
     go_roundw
     case rel =>
      refine ⟨k+1,t++(bf++depT (n,true)),[44],by go_num,?_,rfl,by omega,?_,by decide,?_,rfl,HB5.out⟩
      ·rw [←dep_str];rfl
      ·have:=txt_len n
       obtain ⟨htl,hbl⟩:=HTL.out
       simp [depT,sp.anyW]
       omega
      ·show t++(bf++depT (n,true))=HQ++depsT (after.take (k+1))
       rw [take_snoc HD.out,depsT_snoc,HLEN.out,← HBF.out,HT.out,List.append_assoc]
     case measure=>simp [intOf];omega
    | false =>
     go_wp2_with (go_at_call 93;refine (HTD.out _ HY.out).mono ?_;rintro e w5 ⟨rfl,hb5⟩;have HB5:=Lib.hid (HY.out.trans (hb5.mono HY.out.size));clear hb5)
     go_roundw
     case rel =>
      refine ⟨k+1,t++(bf++depT (n,false)),[44],by go_num,?_,rfl,by omega,?_,by decide,?_,rfl,HB5.out⟩
      ·rw [←dep_str];rfl
      ·have:=txt_len n
       obtain ⟨htl,hbl⟩:=HTL.out
       simp [depT,sp.okW]
       omega
      ·show t++(bf++depT (n,false))=HQ++depsT (after.take (k+1))
       rw [take_snoc HD.out,depsT_snoc,HLEN.out,← HBF.out,HT.out,List.append_assoc]
     case measure=>simp [intOf];omega
   ·obtain rfl:k=na:=by omega
    have HTF:=Lib.hid (show t=line1 _ by
     rw [HF.out,HT.out,List.take_of_length_le (by rw [HNA.out];exact Nat.le_refl _),← HHQ.out])
    go_wp2
    go_ret
    exact ⟨by rw [←HTF.out];rfl,HB1.out.trans (HB.out.mono HB1.out.size)⟩
end Go.Proofs.YtekcjfdllclphaaGreatDoor.gn
end
