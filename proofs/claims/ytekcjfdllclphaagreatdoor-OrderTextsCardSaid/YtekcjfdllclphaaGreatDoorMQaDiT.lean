/- The document's answer: Text. -/
import Derived.Test.YtekcjfdllclphaaGreatDoorMQaDiS
import Derived.Test.YtekcjfdllclphaaGreatDoorMQaSlQ
import Derived.Test.YtekcjfdllclphaaGreatDoorMQaUnH
import Derived.Deep.RegionHeld3
import Derived.Deep.DeepCutAuto
section
set_option linter.unusedVariables false
set_option linter.unusedSimpArgs false
namespace Go.Proofs.YtekcjfdllclphaaGreatDoor.gn
open Go.RowKit
open Go.Proofs.YtekcjfdllclphaaGreatDoor.un
open Go.Proofs.YtekcjfdllclphaaGreatDoor.di
set_option maxRecDepth 100000 in
set_option maxHeartbeats 1600000 in
theorem dtextd_no (d:Dir) (h:DW d) (hn:d.name.length≤1000) (hp:d.pool.length≤1000) (hc:¬ chk d=true) (w:World):Calls Tryz.prog 56 #[dV d] w (TextT d w):=by
 have HE:=Lib.hid (show cE d=140∧tT d=[] by unfold cE tT;rw [if_neg hc,if_neg hc];exact ⟨rfl,rfl⟩)
 obtain ⟨w0,hw0⟩:∃ w0,w.alloc (.cells #[.int .u8 (d.kind:Nat),.string (str d.name),.string (str d.pool),.int .i64 d.size,.bool d.opn] 80)=w0:=⟨_,rfl⟩
 have hb0:Below w.heap.size w w0:=by rw [←hw0];exact (Below.refl _ _).alloc (Nat.le_refl _) _
 have HB0:=Lib.hid hb0
 have H0:=Lib.hid hw0
 have hV:dV d=.agg #[.int .u8 (d.kind:Nat),.string (str d.name),.string (str d.pool),.int .i64 d.size,.bool d.opn]:=rfl
 have HCH:=Lib.hid (dCheck_any d h hn hp w0)
 rw [hV] at HCH ⊢
 clear hV h hc hb0 hw0 hn hp
 go_enter Tryz.func56,Tryz.ntmps56
 go_wp2_with (go_at_call 77;rw [H0.out];refine HCH.out.mono ?_;rintro e w1 ⟨rfl,hb⟩;rw [HE.out.1];have HB1:=Lib.hid (HB0.out.trans (hb.mono HB0.out.size));clear hb)
 go_ret2
 exact ⟨by rw [HE.out.1,HE.out.2];rfl,HB1.out⟩
theorem dtx1 (n p:Tx) (z:Int):dtx ⟨1,[],p,z,false⟩=[35,66,66,32]++kw 1++[32,99,97,112,97,99,105,116,121,61]++stxt z++[32,112,111,111,108,61]++p:=by
 simp [dtx,lineOf,fsOf,joinW,hasSize,hasName,hasPool,szK,wtx,bbW,capK,poolK]
theorem dtx2 (z:Int):dtx ⟨2,[],[],z,false⟩=[35,66,66,32]++kw 2++[32,115,105,122,101,61]++stxt z:=by
 simp [dtx,lineOf,fsOf,joinW,hasSize,hasName,hasPool,szK,wtx,bbW,sizeK]
theorem dtx3 (z:Int):dtx ⟨3,[],[],z,false⟩=[35,66,66,32]++kw 3++[32,115,105,122,101,61]++stxt z:=by
 simp [dtx,lineOf,fsOf,joinW,hasSize,hasName,hasPool,szK,wtx,bbW,sizeK]
theorem dtx4 (n p:Tx) (z:Int) (o:Bool):dtx ⟨4,n,p,z,o⟩=[35,66,66,32]++kw 4++[32,110,97,109,101,61]++n++[32,99,97,112,97,99,105,116,121,61]++stxt z++[32,112,111,111,108,61]++p++(if o=true then [32,97,99,99,101,115,115,61,112,117,98,108,105,99] else []):=by
 cases o <;> simp [dtx,lineOf,fsOf,joinW,hasSize,hasName,hasPool,szK,wtx,bbW,capK,poolK,nameK,accK,pubV]
theorem dtx5 (n:Tx):dtx ⟨5,n,[],0,false⟩=[35,66,66,32]++kw 5++[32,110,97,109,101,61]++n:=by
 simp [dtx,lineOf,fsOf,joinW,hasSize,hasName,hasPool,szK,wtx,bbW,nameK]
theorem dtx6 (n:Tx):dtx ⟨6,n,[],0,false⟩=[35,66,66,32]++kw 6++[32,110,97,109,101,61]++n:=by
 simp [dtx,lineOf,fsOf,joinW,hasSize,hasName,hasPool,szK,wtx,bbW,nameK]
theorem chk_form {d:Dir} (h:chk d=true):(∃ p z,d=⟨1,[],p,z,false⟩∧p.length≤32)∨(∃ z,d=⟨2,[],[],z,false⟩)∨(∃ z,d=⟨3,[],[],z,false⟩)∨(∃ n p z o,d=⟨4,n,p,z,o⟩∧n.length≤32∧p.length≤32)∨(∃ n,d=⟨5,n,[],0,false⟩∧n.length≤32)∨(∃ n,d=⟨6,n,[],0,false⟩∧n.length≤32):=by
 obtain ⟨c0,c1,cz,c2,c3,c4,c5,c6⟩:=(chk_iff d).1 h
 obtain ⟨k,n,p,z,o⟩:=d
 dsimp only at c0 c1 cz c2 c3 c4 c5 c6
 rcases six c0 with rfl | rfl | rfl | rfl | rfl | rfl
 ·have h1:n=[]:=by simpa [hasName] using c3
  have h2:o=false:=by simpa using c6
  have h3:isName p=true:=by simpa [hasPool] using c4
  subst h1;subst h2
  exact .inl ⟨p,z,rfl,name_len h3⟩
 ·have h1:n=[]:=by simpa [hasName] using c3
  have h2:o=false:=by simpa using c6
  have h3:p=[]:=by simpa [hasPool] using c5
  subst h1;subst h2;subst h3
  exact .inr (.inl ⟨z,rfl⟩)
 ·have h1:n=[]:=by simpa [hasName] using c3
  have h2:o=false:=by simpa using c6
  have h3:p=[]:=by simpa [hasPool] using c5
  subst h1;subst h2;subst h3
  exact .inr (.inr (.inl ⟨z,rfl⟩))
 ·have h1:isName n=true:=by simpa [hasName] using c2
  have h3:isName p=true:=by simpa [hasPool] using c4
  exact .inr (.inr (.inr (.inl ⟨n,p,z,o,rfl,name_len h1,name_len h3⟩)))
 ·have h1:isName n=true:=by simpa [hasName] using c2
  have h2:o=false:=by simpa using c6
  have h3:p=[]:=by simpa [hasPool] using c5
  have h4:¬ 0 < z:=by simpa [hasSize] using c1
  have h5:z=0:=by omega
  subst h2;subst h3;subst h5
  exact .inr (.inr (.inr (.inr (.inl ⟨n,rfl,name_len h1⟩))))
 ·have h1:isName n=true:=by simpa [hasName] using c2
  have h2:o=false:=by simpa using c6
  have h3:p=[]:=by simpa [hasPool] using c5
  have h4:¬ 0 < z:=by simpa [hasSize] using c1
  have h5:z=0:=by omega
  subst h2;subst h3;subst h5
  exact .inr (.inr (.inr (.inr (.inr ⟨n,rfl,name_len h1⟩))))
theorem below_udrew2 {B:Nat} {w w':World} (h:Below B w.drew w'):Below B w w':=⟨h.os,h.tape,h.output,h.size,h.block⟩
theorem kw_small {k:Nat} (h:1≤k∧k≤6):(str (kw k)).size≤50:=by rw [str_size];exact kw_len h
theorem add_b {a b:ByteArray} (ha:a.size≤1000) (hb:b.size≤1000) (W:World):(Op.stringOp .add a b).run Tryz.prog W=.ok (.string (a++b)) W:=run_string_add_sum W _ _ (by omega)
theorem app_size {a b:ByteArray} {m n:Nat} (ha:a.size≤m) (hb:b.size≤n):(a++b).size≤m+n:=by rw [ByteArray.size_append];omega
set_option maxRecDepth 100000 in
set_option maxHeartbeats 6400000 in
theorem dtextd_1 (d:Dir) (h:DW d) (hn:d.name.length≤1000) (hp:d.pool.length≤1000) (hc:chk d=true) (p:Tx) (z:Int) (hd:d=⟨1,[],p,z,false⟩) (hpl:p.length≤32) (w:World):Calls Tryz.prog 56 #[dV d] w (TextT d w):=by
 have HE:=Lib.hid (show cE d=0∧tT d=dtx d by unfold cE tT;rw [if_pos hc,if_pos hc];exact ⟨rfl,rfl⟩)
 have HCH:=Lib.hid (fun W=>dCheck_any d h hn hp W)
 subst hd
 have hs:=stxt_len z
 have z2:(str (stxt z)).size≤50:=by rw [str_size];omega
 have zp:(str p).size≤32:=by rw [str_size];exact hpl
 have HKW:=Lib.hid (fun W=>dword_any 1 (by omega) W)
 have HAK:=Lib.hid (show ∀ W,Calls Tryz.prog 76 #[.int .u8 1] W fun e w'=>e=.returned (.tuple #[.bool true,.bool false,.bool true])∧W=w' from fun W=>dasks_any 1 (by omega) W)
 have HDT:=Lib.hid (show tT ⟨1,[],p,z,false⟩=_ from HE.out.2.trans (dtx1 [] p z))
 obtain ⟨w0,hw0⟩:∃ w0,w.alloc (.cells (dcs ⟨1,[],p,z,false⟩) 80)=w0:=⟨_,rfl⟩
 have hb0:Below w.heap.size w w0:=by rw [←hw0];exact (Below.refl _ _).alloc (Nat.le_refl _) _
 have hp0:BoxA w0 w.heap.size 80 (dcs ⟨1,[],p,z,false⟩):=by rw [←hw0];exact BoxA.new _ _ _
 have HB0:=Lib.hid hb0
 have HP0:=Lib.hid hp0
 have H0:=Lib.hid (show w.alloc (.cells #[.int .u8 1,.string { data:=#[] },.string (str p),.int .i64 z,.bool false] 80)=w0 from hw0)
 have hV:dV ⟨1,[],p,z,false⟩=.agg #[.int .u8 1,.string { data:=#[] },.string (str p),.int .i64 z,.bool false]:=rfl
 rw [hV] at HCH ⊢
 obtain ⟨A,hA⟩:∃ A,({ data:=#[35,66,66,32] }:ByteArray)++str (kw 1)=A:=⟨_,rfl⟩
 have hAs:A.size≤54:=by rw [←hA];exact app_size (by decide) (kw_small (by omega))
 have HA:=Lib.hid (show A=str ([35,66,66,32]++kw 1) by rw [←hA,← str_app];rfl)
 have HAA:=Lib.hid hA
 have z3:(str (kw 1)).size≤50:=kw_small (by omega)
 clear hV h hc hb0 hp0 hw0 hn hp hA hs hpl
 go_enter Tryz.func56,Tryz.ntmps56
 have HEQ:=Lib.hid (show A++({ data:=#[32,99,97,112,97,99,105,116,121,61] }:ByteArray)++str (stxt z)++({ data:=#[32,112,111,111,108,61] }:ByteArray)++str p=str (tT ⟨1,[],p,z,false⟩) by rw [HDT.out,HA.out,show ({ data:=#[32,99,97,112,97,99,105,116,121,61] }:ByteArray)=str [32,99,97,112,97,99,105,116,121,61] from rfl,show ({ data:=#[32,112,111,111,108,61] }:ByteArray)=str [32,112,111,111,108,61] from rfl,str_app,str_app,str_app,str_app])
 go_upto_region 8 with (first
  | (go_at_call 77;rw [H0.out];refine (HCH.out _).mono ?_;rintro e w1 ⟨rfl,hb⟩;rw [HE.out.1];have hp1:=HP0.out.next hb;have x0:w1.cell? ⟨w.heap.size,0,none⟩=some (.int .u8 1):=BoxA.cell hp1 0 _ rfl;have HP1:=Lib.hid hp1;have HB1:=Lib.hid (HB0.out.trans (hb.mono HB0.out.size));clear hb hp1)
  | (go_at_call 76;refine (HAK.out _).mono ?_;rintro e w1x ⟨rfl,rfl⟩)
  | (go_at_call 75;refine (HKW.out _).mono ?_;rintro e w2 ⟨rfl,hb2⟩;have hp2:=HP1.out.next hb2;have y1:w2.cell? ⟨w.heap.size,1,none⟩=some (.string { data:=#[] }):=BoxA.cell hp2 1 _ rfl;have y2:w2.cell? ⟨w.heap.size,2,none⟩=some (.string (str p)):=BoxA.cell hp2 2 _ rfl;have y3:w2.cell? ⟨w.heap.size,3,none⟩=some (.int .i64 z):=BoxA.cell hp2 3 _ rfl;have y4:w2.cell? ⟨w.heap.size,4,none⟩=some (.bool false):=BoxA.cell hp2 4 _ rfl;have hlt:=hp2.lt;have HP2:=Lib.hid hp2;have HB2:=Lib.hid (HB1.out.trans (hb2.mono HB1.out.size));clear hb2 hp2))
 rw [HAA.out]
 have hBs:A.size≤100:=by omega
 have s1:=app_size (n:=10) hBs (show ({ data:=#[32,99,97,112,97,99,105,116,121,61] }:ByteArray).size≤10 by decide)
 have s2:=app_size s1 z2
 have s3:=app_size (n:=6) s2 (show ({ data:=#[32,112,111,111,108,61] }:ByteArray).size≤6 by decide)
 have s4:=app_size s3 zp
 have a1:=fun W=>add_b (a:=A) (b:=({ data:=#[32,99,97,112,97,99,105,116,121,61] }:ByteArray)) (by omega) (by decide) W
 have a2:=fun W=>add_b (a:=A++({ data:=#[32,99,97,112,97,99,105,116,121,61] }:ByteArray)) (b:=str (stxt z)) (by omega) (by omega) W
 have a3:=fun W=>add_b (a:=A++({ data:=#[32,99,97,112,97,99,105,116,121,61] }:ByteArray)++str (stxt z)) (b:=({ data:=#[32,112,111,111,108,61] }:ByteArray)) (by omega) (by decide) W
 have a4:=fun W=>add_b (a:=A++({ data:=#[32,99,97,112,97,99,105,116,121,61] }:ByteArray)++str (stxt z)++({ data:=#[32,112,111,111,108,61] }:ByteArray)) (b:=str p) (by omega) (by omega) W
 have y2d:w2.drew.cell? ⟨w.heap.size,2,none⟩=some (.string (str p)):=y2
 have y3d:w2.drew.cell? ⟨w.heap.size,3,none⟩=some (.int .i64 z):=y3
 go_region_held3 (fun W=>W.cell? ⟨w.heap.size,2,none⟩=some (.string (str p))∧W.cell? ⟨w.heap.size,3,none⟩=some (.int .i64 z)) (first | exact ⟨y2,y3⟩ | exact ⟨y2d,y3d⟩ | exact ⟨u2,u3⟩) ((go_at_call 25;refine (dstext_any z _).mono ?_;rintro e w3 ⟨rfl,hb3⟩;have hb3:Below w2.heap.size w2 w3:=below_udrew2 hb3;have u2:w3.cell? ⟨w.heap.size,2,none⟩=some (.string (str p)):=(Below.cell hb3 hlt).trans y2;have u3:w3.cell? ⟨w.heap.size,3,none⟩=some (.int .i64 z):=(Below.cell hb3 hlt).trans y3;have u4:w3.cell? ⟨w.heap.size,4,none⟩=some (.bool false):=(Below.cell hb3 hlt).trans y4;have HB3:=Lib.hid (HB2.out.trans (hb3.mono HB2.out.size));clear hb3))
 have s5:(A++({ data:=#[32,99,97,112,97,99,105,116,121,61] }:ByteArray)++str (stxt z)++({ data:=#[32,112,111,111,108,61] }:ByteArray)++str p).size≤500:=by omega
 go_wp2
 go_ret2
 exact ⟨by rw [←HEQ.out,HE.out.1];rfl,HB3.out⟩
set_option maxRecDepth 100000 in
set_option maxHeartbeats 6400000 in
theorem dtextd_2 (d:Dir) (h:DW d) (hn:d.name.length≤1000) (hp:d.pool.length≤1000) (hc:chk d=true) (z:Int) (hd:d=⟨2,[],[],z,false⟩) (w:World):Calls Tryz.prog 56 #[dV d] w (TextT d w):=by
 have HE:=Lib.hid (show cE d=0∧tT d=dtx d by unfold cE tT;rw [if_pos hc,if_pos hc];exact ⟨rfl,rfl⟩)
 have HCH:=Lib.hid (fun W=>dCheck_any d h hn hp W)
 subst hd
 have hs:=stxt_len z
 have z2:(str (stxt z)).size≤50:=by rw [str_size];omega
 have HKW:=Lib.hid (fun W=>dword_any 2 (by omega) W)
 have HAK:=Lib.hid (show ∀ W,Calls Tryz.prog 76 #[.int .u8 2] W fun e w'=>e=.returned (.tuple #[.bool true,.bool false,.bool false])∧W=w' from fun W=>dasks_any 2 (by omega) W)
 have HDT:=Lib.hid (show tT ⟨2,[],[],z,false⟩=_ from HE.out.2.trans (dtx2 z))
 obtain ⟨w0,hw0⟩:∃ w0,w.alloc (.cells (dcs ⟨2,[],[],z,false⟩) 80)=w0:=⟨_,rfl⟩
 have hb0:Below w.heap.size w w0:=by rw [←hw0];exact (Below.refl _ _).alloc (Nat.le_refl _) _
 have hp0:BoxA w0 w.heap.size 80 (dcs ⟨2,[],[],z,false⟩):=by rw [←hw0];exact BoxA.new _ _ _
 have HB0:=Lib.hid hb0
 have HP0:=Lib.hid hp0
 have H0:=Lib.hid (show w.alloc (.cells #[.int .u8 2,.string { data:=#[] },.string { data:=#[] },.int .i64 z,.bool false] 80)=w0 from hw0)
 have hV:dV ⟨2,[],[],z,false⟩=.agg #[.int .u8 2,.string { data:=#[] },.string { data:=#[] },.int .i64 z,.bool false]:=rfl
 rw [hV] at HCH ⊢
 obtain ⟨A,hA⟩:∃ A,({ data:=#[35,66,66,32] }:ByteArray)++str (kw 2)=A:=⟨_,rfl⟩
 have hAs:A.size≤54:=by rw [←hA];exact app_size (by decide) (kw_small (by omega))
 have HA:=Lib.hid (show A=str ([35,66,66,32]++kw 2) by rw [←hA,← str_app];rfl)
 have HAA:=Lib.hid hA
 have z3:(str (kw 2)).size≤50:=kw_small (by omega)
 clear hV h hc hb0 hp0 hw0 hn hp hA hs
 go_enter Tryz.func56,Tryz.ntmps56
 have HEQ:=Lib.hid (show A++({ data:=#[32,115,105,122,101,61] }:ByteArray)++str (stxt z)=str (tT ⟨2,[],[],z,false⟩) by rw [HDT.out,HA.out,show ({ data:=#[32,115,105,122,101,61] }:ByteArray)=str [32,115,105,122,101,61] from rfl,str_app,str_app])
 go_upto_region 10 with (first
  | (go_at_call 77;rw [H0.out];refine (HCH.out _).mono ?_;rintro e w1 ⟨rfl,hb⟩;rw [HE.out.1];have hp1:=HP0.out.next hb;have x0:w1.cell? ⟨w.heap.size,0,none⟩=some (.int .u8 2):=BoxA.cell hp1 0 _ rfl;have HP1:=Lib.hid hp1;have HB1:=Lib.hid (HB0.out.trans (hb.mono HB0.out.size));clear hb hp1)
  | (go_at_call 76;refine (HAK.out _).mono ?_;rintro e w1x ⟨rfl,rfl⟩)
  | (go_at_call 75;refine (HKW.out _).mono ?_;rintro e w2 ⟨rfl,hb2⟩;have hp2:=HP1.out.next hb2;have y1:w2.cell? ⟨w.heap.size,1,none⟩=some (.string { data:=#[] }):=BoxA.cell hp2 1 _ rfl;have y2:w2.cell? ⟨w.heap.size,2,none⟩=some (.string { data:=#[] }):=BoxA.cell hp2 2 _ rfl;have y3:w2.cell? ⟨w.heap.size,3,none⟩=some (.int .i64 z):=BoxA.cell hp2 3 _ rfl;have y4:w2.cell? ⟨w.heap.size,4,none⟩=some (.bool false):=BoxA.cell hp2 4 _ rfl;have hlt:=hp2.lt;have HP2:=Lib.hid hp2;have HB2:=Lib.hid (HB1.out.trans (hb2.mono HB1.out.size));clear hb2 hp2))
 rw [HAA.out]
 go_wp2_with (go_at_call 25;refine (dstext_any z _).mono ?_;rintro e w3 ⟨rfl,hb3⟩;have x4:w3.cell? ⟨w.heap.size,4,none⟩=some (.bool false):=(Below.cell hb3 hlt).trans y4;have HB3:=Lib.hid (HB2.out.trans (hb3.mono HB2.out.size));clear hb3)
 go_ret2
 exact ⟨by rw [←HEQ.out,HE.out.1];rfl,HB3.out⟩
set_option maxRecDepth 100000 in
set_option maxHeartbeats 6400000 in
theorem dtextd_3 (d:Dir) (h:DW d) (hn:d.name.length≤1000) (hp:d.pool.length≤1000) (hc:chk d=true) (z:Int) (hd:d=⟨3,[],[],z,false⟩) (w:World):Calls Tryz.prog 56 #[dV d] w (TextT d w):=by
 have HE:=Lib.hid (show cE d=0∧tT d=dtx d by unfold cE tT;rw [if_pos hc,if_pos hc];exact ⟨rfl,rfl⟩)
 have HCH:=Lib.hid (fun W=>dCheck_any d h hn hp W)
 subst hd
 have hs:=stxt_len z
 have z2:(str (stxt z)).size≤50:=by rw [str_size];omega
 have HKW:=Lib.hid (fun W=>dword_any 3 (by omega) W)
 have HAK:=Lib.hid (show ∀ W,Calls Tryz.prog 76 #[.int .u8 3] W fun e w'=>e=.returned (.tuple #[.bool true,.bool false,.bool false])∧W=w' from fun W=>dasks_any 3 (by omega) W)
 have HDT:=Lib.hid (show tT ⟨3,[],[],z,false⟩=_ from HE.out.2.trans (dtx3 z))
 obtain ⟨w0,hw0⟩:∃ w0,w.alloc (.cells (dcs ⟨3,[],[],z,false⟩) 80)=w0:=⟨_,rfl⟩
 have hb0:Below w.heap.size w w0:=by rw [←hw0];exact (Below.refl _ _).alloc (Nat.le_refl _) _
 have hp0:BoxA w0 w.heap.size 80 (dcs ⟨3,[],[],z,false⟩):=by rw [←hw0];exact BoxA.new _ _ _
 have HB0:=Lib.hid hb0
 have HP0:=Lib.hid hp0
 have H0:=Lib.hid (show w.alloc (.cells #[.int .u8 3,.string { data:=#[] },.string { data:=#[] },.int .i64 z,.bool false] 80)=w0 from hw0)
 have hV:dV ⟨3,[],[],z,false⟩=.agg #[.int .u8 3,.string { data:=#[] },.string { data:=#[] },.int .i64 z,.bool false]:=rfl
 rw [hV] at HCH ⊢
 obtain ⟨A,hA⟩:∃ A,({ data:=#[35,66,66,32] }:ByteArray)++str (kw 3)=A:=⟨_,rfl⟩
 have hAs:A.size≤54:=by rw [←hA];exact app_size (by decide) (kw_small (by omega))
 have HA:=Lib.hid (show A=str ([35,66,66,32]++kw 3) by rw [←hA,← str_app];rfl)
 have HAA:=Lib.hid hA
 have z3:(str (kw 3)).size≤50:=kw_small (by omega)
 clear hV h hc hb0 hp0 hw0 hn hp hA hs
 go_enter Tryz.func56,Tryz.ntmps56
 have HEQ:=Lib.hid (show A++({ data:=#[32,115,105,122,101,61] }:ByteArray)++str (stxt z)=str (tT ⟨3,[],[],z,false⟩) by rw [HDT.out,HA.out,show ({ data:=#[32,115,105,122,101,61] }:ByteArray)=str [32,115,105,122,101,61] from rfl,str_app,str_app])
 go_upto_region 10 with (first
  | (go_at_call 77;rw [H0.out];refine (HCH.out _).mono ?_;rintro e w1 ⟨rfl,hb⟩;rw [HE.out.1];have hp1:=HP0.out.next hb;have x0:w1.cell? ⟨w.heap.size,0,none⟩=some (.int .u8 3):=BoxA.cell hp1 0 _ rfl;have HP1:=Lib.hid hp1;have HB1:=Lib.hid (HB0.out.trans (hb.mono HB0.out.size));clear hb hp1)
  | (go_at_call 76;refine (HAK.out _).mono ?_;rintro e w1x ⟨rfl,rfl⟩)
  | (go_at_call 75;refine (HKW.out _).mono ?_;rintro e w2 ⟨rfl,hb2⟩;have hp2:=HP1.out.next hb2;have y1:w2.cell? ⟨w.heap.size,1,none⟩=some (.string { data:=#[] }):=BoxA.cell hp2 1 _ rfl;have y2:w2.cell? ⟨w.heap.size,2,none⟩=some (.string { data:=#[] }):=BoxA.cell hp2 2 _ rfl;have y3:w2.cell? ⟨w.heap.size,3,none⟩=some (.int .i64 z):=BoxA.cell hp2 3 _ rfl;have y4:w2.cell? ⟨w.heap.size,4,none⟩=some (.bool false):=BoxA.cell hp2 4 _ rfl;have hlt:=hp2.lt;have HP2:=Lib.hid hp2;have HB2:=Lib.hid (HB1.out.trans (hb2.mono HB1.out.size));clear hb2 hp2))
 rw [HAA.out]
 go_wp2_with (go_at_call 25;refine (dstext_any z _).mono ?_;rintro e w3 ⟨rfl,hb3⟩;have x4:w3.cell? ⟨w.heap.size,4,none⟩=some (.bool false):=(Below.cell hb3 hlt).trans y4;have HB3:=Lib.hid (HB2.out.trans (hb3.mono HB2.out.size));clear hb3)
 go_ret2
 exact ⟨by rw [←HEQ.out,HE.out.1];rfl,HB3.out⟩
set_option maxRecDepth 100000 in
set_option maxHeartbeats 6400000 in
theorem dtextd_4t (d:Dir) (h:DW d) (hn:d.name.length≤1000) (hp:d.pool.length≤1000) (hc:chk d=true) (n p:Tx) (z:Int) (hd:d=⟨4,n,p,z,true⟩) (hnl:n.length≤32) (hpl:p.length≤32) (w:World):Calls Tryz.prog 56 #[dV d] w (TextT d w):=by
 have HE:=Lib.hid (show cE d=0∧tT d=dtx d by unfold cE tT;rw [if_pos hc,if_pos hc];exact ⟨rfl,rfl⟩)
 have HCH:=Lib.hid (fun W=>dCheck_any d h hn hp W)
 subst hd
 have hs:=stxt_len z
 have z2:(str (stxt z)).size≤50:=by rw [str_size];omega
 have zn:(str n).size≤32:=by rw [str_size];exact hnl
 have zp:(str p).size≤32:=by rw [str_size];exact hpl
 have HKW:=Lib.hid (fun W=>dword_any 4 (by omega) W)
 have HAK:=Lib.hid (show ∀ W,Calls Tryz.prog 76 #[.int .u8 4] W fun e w'=>e=.returned (.tuple #[.bool true,.bool true,.bool true])∧W=w' from fun W=>dasks_any 4 (by omega) W)
 have HDT:=Lib.hid (show tT ⟨4,n,p,z,true⟩=_ from HE.out.2.trans (dtx4 n p z true))
 obtain ⟨w0,hw0⟩:∃ w0,w.alloc (.cells (dcs ⟨4,n,p,z,true⟩) 80)=w0:=⟨_,rfl⟩
 have hb0:Below w.heap.size w w0:=by rw [←hw0];exact (Below.refl _ _).alloc (Nat.le_refl _) _
 have hp0:BoxA w0 w.heap.size 80 (dcs ⟨4,n,p,z,true⟩):=by rw [←hw0];exact BoxA.new _ _ _
 have HB0:=Lib.hid hb0
 have HP0:=Lib.hid hp0
 have H0:=Lib.hid (show w.alloc (.cells #[.int .u8 4,.string (str n),.string (str p),.int .i64 z,.bool true] 80)=w0 from hw0)
 have hV:dV ⟨4,n,p,z,true⟩=.agg #[.int .u8 4,.string (str n),.string (str p),.int .i64 z,.bool true]:=rfl
 rw [hV] at HCH ⊢
 obtain ⟨A,hA⟩:∃ A,({ data:=#[35,66,66,32] }:ByteArray)++str (kw 4)=A:=⟨_,rfl⟩
 have hAs:A.size≤54:=by rw [←hA];exact app_size (by decide) (kw_small (by omega))
 have HA:=Lib.hid (show A=str ([35,66,66,32]++kw 4) by rw [←hA,← str_app];rfl)
 have HAA:=Lib.hid hA
 have z3:(str (kw 4)).size≤50:=kw_small (by omega)
 clear hV h hc hb0 hp0 hw0 hn hp hA hs hnl hpl
 go_enter Tryz.func56,Tryz.ntmps56
 have HEQ:=Lib.hid (show A++({ data:=#[32,110,97,109,101,61] }:ByteArray)++str n++({ data:=#[32,99,97,112,97,99,105,116,121,61] }:ByteArray)++str (stxt z)++({ data:=#[32,112,111,111,108,61] }:ByteArray)++str p++({ data:=#[32,97,99,99,101,115,115,61,112,117,98,108,105,99] }:ByteArray)=str (tT ⟨4,n,p,z,true⟩) by rw [HDT.out,if_pos rfl,HA.out,show ({ data:=#[32,110,97,109,101,61] }:ByteArray)=str [32,110,97,109,101,61] from rfl,show ({ data:=#[32,99,97,112,97,99,105,116,121,61] }:ByteArray)=str [32,99,97,112,97,99,105,116,121,61] from rfl,show ({ data:=#[32,112,111,111,108,61] }:ByteArray)=str [32,112,111,111,108,61] from rfl,show ({ data:=#[32,97,99,99,101,115,115,61,112,117,98,108,105,99] }:ByteArray)=str [32,97,99,99,101,115,115,61,112,117,98,108,105,99] from rfl,str_app,str_app,str_app,str_app,str_app,str_app,str_app])
 go_upto_region 6 with (first
  | (go_at_call 77;rw [H0.out];refine (HCH.out _).mono ?_;rintro e w1 ⟨rfl,hb⟩;rw [HE.out.1];have hp1:=HP0.out.next hb;have x0:w1.cell? ⟨w.heap.size,0,none⟩=some (.int .u8 4):=BoxA.cell hp1 0 _ rfl;have HP1:=Lib.hid hp1;have HB1:=Lib.hid (HB0.out.trans (hb.mono HB0.out.size));clear hb hp1)
  | (go_at_call 76;refine (HAK.out _).mono ?_;rintro e w1x ⟨rfl,rfl⟩)
  | (go_at_call 75;refine (HKW.out _).mono ?_;rintro e w2 ⟨rfl,hb2⟩;have hp2:=HP1.out.next hb2;have y1:w2.cell? ⟨w.heap.size,1,none⟩=some (.string (str n)):=BoxA.cell hp2 1 _ rfl;have y2:w2.cell? ⟨w.heap.size,2,none⟩=some (.string (str p)):=BoxA.cell hp2 2 _ rfl;have y3:w2.cell? ⟨w.heap.size,3,none⟩=some (.int .i64 z):=BoxA.cell hp2 3 _ rfl;have y4:w2.cell? ⟨w.heap.size,4,none⟩=some (.bool true):=BoxA.cell hp2 4 _ rfl;have hlt:=hp2.lt;have HP2:=Lib.hid hp2;have HB2:=Lib.hid (HB1.out.trans (hb2.mono HB1.out.size));clear hb2 hp2))
 rw [HAA.out]
 go_upto_region 8 with fail
 obtain ⟨B,hB⟩:∃ B,A++({ data:=#[32,110,97,109,101,61] }:ByteArray)++str n=B:=⟨_,rfl⟩
 have hBs:B.size≤100:=by rw [←hB];exact app_size (m:=68) (app_size (n:=6) (Nat.le_trans hAs (by decide:54≤62)) (by decide)) zn
 rw [hB]
 rw [hB] at HEQ
 clear hB
 have s1:=app_size (n:=10) hBs (show ({ data:=#[32,99,97,112,97,99,105,116,121,61] }:ByteArray).size≤10 by decide)
 have s2:=app_size s1 z2
 have s3:=app_size (n:=6) s2 (show ({ data:=#[32,112,111,111,108,61] }:ByteArray).size≤6 by decide)
 have s4:=app_size s3 zp
 have a1:=fun W=>add_b (a:=B) (b:=({ data:=#[32,99,97,112,97,99,105,116,121,61] }:ByteArray)) (by omega) (by decide) W
 have a2:=fun W=>add_b (a:=B++({ data:=#[32,99,97,112,97,99,105,116,121,61] }:ByteArray)) (b:=str (stxt z)) (by omega) (by omega) W
 have a3:=fun W=>add_b (a:=B++({ data:=#[32,99,97,112,97,99,105,116,121,61] }:ByteArray)++str (stxt z)) (b:=({ data:=#[32,112,111,111,108,61] }:ByteArray)) (by omega) (by decide) W
 have a4:=fun W=>add_b (a:=B++({ data:=#[32,99,97,112,97,99,105,116,121,61] }:ByteArray)++str (stxt z)++({ data:=#[32,112,111,111,108,61] }:ByteArray)) (b:=str p) (by omega) (by omega) W
 have y2d:w2.drew.cell? ⟨w.heap.size,2,none⟩=some (.string (str p)):=y2
 have y3d:w2.drew.cell? ⟨w.heap.size,3,none⟩=some (.int .i64 z):=y3
 go_region_held3 (fun W=>W.cell? ⟨w.heap.size,2,none⟩=some (.string (str p))∧W.cell? ⟨w.heap.size,3,none⟩=some (.int .i64 z)) (first | exact ⟨y2,y3⟩ | exact ⟨y2d,y3d⟩ | exact ⟨u2,u3⟩) ((go_at_call 25;refine (dstext_any z _).mono ?_;rintro e w3 ⟨rfl,hb3⟩;have hb3:Below w2.heap.size w2 w3:=below_udrew2 hb3;have u2:w3.cell? ⟨w.heap.size,2,none⟩=some (.string (str p)):=(Below.cell hb3 hlt).trans y2;have u3:w3.cell? ⟨w.heap.size,3,none⟩=some (.int .i64 z):=(Below.cell hb3 hlt).trans y3;have u4:w3.cell? ⟨w.heap.size,4,none⟩=some (.bool true):=(Below.cell hb3 hlt).trans y4;have HB3:=Lib.hid (HB2.out.trans (hb3.mono HB2.out.size));clear hb3))
 have s5:(B++({ data:=#[32,99,97,112,97,99,105,116,121,61] }:ByteArray)++str (stxt z)++({ data:=#[32,112,111,111,108,61] }:ByteArray)++str p).size≤500:=by omega
 go_wp2
 go_ret2
 exact ⟨by rw [←HEQ.out,HE.out.1];rfl,HB3.out⟩
set_option maxRecDepth 100000 in
set_option maxHeartbeats 6400000 in
theorem dtextd_4f (d:Dir) (h:DW d) (hn:d.name.length≤1000) (hp:d.pool.length≤1000) (hc:chk d=true) (n p:Tx) (z:Int) (hd:d=⟨4,n,p,z,false⟩) (hnl:n.length≤32) (hpl:p.length≤32) (w:World):Calls Tryz.prog 56 #[dV d] w (TextT d w):=by
 have HE:=Lib.hid (show cE d=0∧tT d=dtx d by unfold cE tT;rw [if_pos hc,if_pos hc];exact ⟨rfl,rfl⟩)
 have HCH:=Lib.hid (fun W=>dCheck_any d h hn hp W)
 subst hd
 have hs:=stxt_len z
 have z2:(str (stxt z)).size≤50:=by rw [str_size];omega
 have zn:(str n).size≤32:=by rw [str_size];exact hnl
 have zp:(str p).size≤32:=by rw [str_size];exact hpl
 have HKW:=Lib.hid (fun W=>dword_any 4 (by omega) W)
 have HAK:=Lib.hid (show ∀ W,Calls Tryz.prog 76 #[.int .u8 4] W fun e w'=>e=.returned (.tuple #[.bool true,.bool true,.bool true])∧W=w' from fun W=>dasks_any 4 (by omega) W)
 have HDT:=Lib.hid (show tT ⟨4,n,p,z,false⟩=_ from HE.out.2.trans (dtx4 n p z false))
 obtain ⟨w0,hw0⟩:∃ w0,w.alloc (.cells (dcs ⟨4,n,p,z,false⟩) 80)=w0:=⟨_,rfl⟩
 have hb0:Below w.heap.size w w0:=by rw [←hw0];exact (Below.refl _ _).alloc (Nat.le_refl _) _
 have hp0:BoxA w0 w.heap.size 80 (dcs ⟨4,n,p,z,false⟩):=by rw [←hw0];exact BoxA.new _ _ _
 have HB0:=Lib.hid hb0
 have HP0:=Lib.hid hp0
 have H0:=Lib.hid (show w.alloc (.cells #[.int .u8 4,.string (str n),.string (str p),.int .i64 z,.bool false] 80)=w0 from hw0)
 have hV:dV ⟨4,n,p,z,false⟩=.agg #[.int .u8 4,.string (str n),.string (str p),.int .i64 z,.bool false]:=rfl
 rw [hV] at HCH ⊢
 obtain ⟨A,hA⟩:∃ A,({ data:=#[35,66,66,32] }:ByteArray)++str (kw 4)=A:=⟨_,rfl⟩
 have hAs:A.size≤54:=by rw [←hA];exact app_size (by decide) (kw_small (by omega))
 have HA:=Lib.hid (show A=str ([35,66,66,32]++kw 4) by rw [←hA,← str_app];rfl)
 have HAA:=Lib.hid hA
 have z3:(str (kw 4)).size≤50:=kw_small (by omega)
 clear hV h hc hb0 hp0 hw0 hn hp hA hs hnl hpl
 go_enter Tryz.func56,Tryz.ntmps56
 have HEQ:=Lib.hid (show A++({ data:=#[32,110,97,109,101,61] }:ByteArray)++str n++({ data:=#[32,99,97,112,97,99,105,116,121,61] }:ByteArray)++str (stxt z)++({ data:=#[32,112,111,111,108,61] }:ByteArray)++str p=str (tT ⟨4,n,p,z,false⟩) by rw [HDT.out,if_neg (by decide),List.append_nil,HA.out,show ({ data:=#[32,110,97,109,101,61] }:ByteArray)=str [32,110,97,109,101,61] from rfl,show ({ data:=#[32,99,97,112,97,99,105,116,121,61] }:ByteArray)=str [32,99,97,112,97,99,105,116,121,61] from rfl,show ({ data:=#[32,112,111,111,108,61] }:ByteArray)=str [32,112,111,111,108,61] from rfl,str_app,str_app,str_app,str_app,str_app,str_app])
 go_upto_region 6 with (first
  | (go_at_call 77;rw [H0.out];refine (HCH.out _).mono ?_;rintro e w1 ⟨rfl,hb⟩;rw [HE.out.1];have hp1:=HP0.out.next hb;have x0:w1.cell? ⟨w.heap.size,0,none⟩=some (.int .u8 4):=BoxA.cell hp1 0 _ rfl;have HP1:=Lib.hid hp1;have HB1:=Lib.hid (HB0.out.trans (hb.mono HB0.out.size));clear hb hp1)
  | (go_at_call 76;refine (HAK.out _).mono ?_;rintro e w1x ⟨rfl,rfl⟩)
  | (go_at_call 75;refine (HKW.out _).mono ?_;rintro e w2 ⟨rfl,hb2⟩;have hp2:=HP1.out.next hb2;have y1:w2.cell? ⟨w.heap.size,1,none⟩=some (.string (str n)):=BoxA.cell hp2 1 _ rfl;have y2:w2.cell? ⟨w.heap.size,2,none⟩=some (.string (str p)):=BoxA.cell hp2 2 _ rfl;have y3:w2.cell? ⟨w.heap.size,3,none⟩=some (.int .i64 z):=BoxA.cell hp2 3 _ rfl;have y4:w2.cell? ⟨w.heap.size,4,none⟩=some (.bool false):=BoxA.cell hp2 4 _ rfl;have hlt:=hp2.lt;have HP2:=Lib.hid hp2;have HB2:=Lib.hid (HB1.out.trans (hb2.mono HB1.out.size));clear hb2 hp2))
 rw [HAA.out]
 go_upto_region 8 with fail
 obtain ⟨B,hB⟩:∃ B,A++({ data:=#[32,110,97,109,101,61] }:ByteArray)++str n=B:=⟨_,rfl⟩
 have hBs:B.size≤100:=by rw [←hB];exact app_size (m:=68) (app_size (n:=6) (Nat.le_trans hAs (by decide:54≤62)) (by decide)) zn
 rw [hB]
 rw [hB] at HEQ
 clear hB
 have s1:=app_size (n:=10) hBs (show ({ data:=#[32,99,97,112,97,99,105,116,121,61] }:ByteArray).size≤10 by decide)
 have s2:=app_size s1 z2
 have s3:=app_size (n:=6) s2 (show ({ data:=#[32,112,111,111,108,61] }:ByteArray).size≤6 by decide)
 have s4:=app_size s3 zp
 have a1:=fun W=>add_b (a:=B) (b:=({ data:=#[32,99,97,112,97,99,105,116,121,61] }:ByteArray)) (by omega) (by decide) W
 have a2:=fun W=>add_b (a:=B++({ data:=#[32,99,97,112,97,99,105,116,121,61] }:ByteArray)) (b:=str (stxt z)) (by omega) (by omega) W
 have a3:=fun W=>add_b (a:=B++({ data:=#[32,99,97,112,97,99,105,116,121,61] }:ByteArray)++str (stxt z)) (b:=({ data:=#[32,112,111,111,108,61] }:ByteArray)) (by omega) (by decide) W
 have a4:=fun W=>add_b (a:=B++({ data:=#[32,99,97,112,97,99,105,116,121,61] }:ByteArray)++str (stxt z)++({ data:=#[32,112,111,111,108,61] }:ByteArray)) (b:=str p) (by omega) (by omega) W
 have y2d:w2.drew.cell? ⟨w.heap.size,2,none⟩=some (.string (str p)):=y2
 have y3d:w2.drew.cell? ⟨w.heap.size,3,none⟩=some (.int .i64 z):=y3
 go_region_held3 (fun W=>W.cell? ⟨w.heap.size,2,none⟩=some (.string (str p))∧W.cell? ⟨w.heap.size,3,none⟩=some (.int .i64 z)) (first | exact ⟨y2,y3⟩ | exact ⟨y2d,y3d⟩ | exact ⟨u2,u3⟩) ((go_at_call 25;refine (dstext_any z _).mono ?_;rintro e w3 ⟨rfl,hb3⟩;have hb3:Below w2.heap.size w2 w3:=below_udrew2 hb3;have u2:w3.cell? ⟨w.heap.size,2,none⟩=some (.string (str p)):=(Below.cell hb3 hlt).trans y2;have u3:w3.cell? ⟨w.heap.size,3,none⟩=some (.int .i64 z):=(Below.cell hb3 hlt).trans y3;have u4:w3.cell? ⟨w.heap.size,4,none⟩=some (.bool false):=(Below.cell hb3 hlt).trans y4;have HB3:=Lib.hid (HB2.out.trans (hb3.mono HB2.out.size));clear hb3))
 have s5:(B++({ data:=#[32,99,97,112,97,99,105,116,121,61] }:ByteArray)++str (stxt z)++({ data:=#[32,112,111,111,108,61] }:ByteArray)++str p).size≤500:=by omega
 go_wp2
 go_ret2
 exact ⟨by rw [←HEQ.out,HE.out.1];rfl,HB3.out⟩
set_option maxRecDepth 100000 in
set_option maxHeartbeats 6400000 in
theorem dtextd_5 (d:Dir) (h:DW d) (hn:d.name.length≤1000) (hp:d.pool.length≤1000) (hc:chk d=true) (n:Tx) (hd:d=⟨5,n,[],0,false⟩) (hnl:n.length≤32) (w:World):Calls Tryz.prog 56 #[dV d] w (TextT d w):=by
 have HE:=Lib.hid (show cE d=0∧tT d=dtx d by unfold cE tT;rw [if_pos hc,if_pos hc];exact ⟨rfl,rfl⟩)
 have HCH:=Lib.hid (fun W=>dCheck_any d h hn hp W)
 subst hd
 have zn:(str n).size≤32:=by rw [str_size];exact hnl
 have HKW:=Lib.hid (fun W=>dword_any 5 (by omega) W)
 have HAK:=Lib.hid (show ∀ W,Calls Tryz.prog 76 #[.int .u8 5] W fun e w'=>e=.returned (.tuple #[.bool false,.bool true,.bool false])∧W=w' from fun W=>dasks_any 5 (by omega) W)
 have HDT:=Lib.hid (show tT ⟨5,n,[],0,false⟩=_ from HE.out.2.trans (dtx5 n))
 obtain ⟨w0,hw0⟩:∃ w0,w.alloc (.cells (dcs ⟨5,n,[],0,false⟩) 80)=w0:=⟨_,rfl⟩
 have hb0:Below w.heap.size w w0:=by rw [←hw0];exact (Below.refl _ _).alloc (Nat.le_refl _) _
 have hp0:BoxA w0 w.heap.size 80 (dcs ⟨5,n,[],0,false⟩):=by rw [←hw0];exact BoxA.new _ _ _
 have HB0:=Lib.hid hb0
 have HP0:=Lib.hid hp0
 have H0:=Lib.hid (show w.alloc (.cells #[.int .u8 5,.string (str n),.string { data:=#[] },.int .i64 0,.bool false] 80)=w0 from hw0)
 have hV:dV ⟨5,n,[],0,false⟩=.agg #[.int .u8 5,.string (str n),.string { data:=#[] },.int .i64 0,.bool false]:=rfl
 rw [hV] at HCH ⊢
 obtain ⟨A,hA⟩:∃ A,({ data:=#[35,66,66,32] }:ByteArray)++str (kw 5)=A:=⟨_,rfl⟩
 have hAs:A.size≤54:=by rw [←hA];exact app_size (by decide) (kw_small (by omega))
 have HA:=Lib.hid (show A=str ([35,66,66,32]++kw 5) by rw [←hA,← str_app];rfl)
 have HAA:=Lib.hid hA
 have z3:(str (kw 5)).size≤50:=kw_small (by omega)
 clear hV h hc hb0 hp0 hw0 hn hp hA hnl
 go_enter Tryz.func56,Tryz.ntmps56
 have HEQ:=Lib.hid (show A++({ data:=#[32,110,97,109,101,61] }:ByteArray)++str n=str (tT ⟨5,n,[],0,false⟩) by rw [HDT.out,HA.out,show ({ data:=#[32,110,97,109,101,61] }:ByteArray)=str [32,110,97,109,101,61] from rfl,str_app,str_app])
 go_wp2_with (first
  | (go_at_call 77;rw [H0.out];refine (HCH.out _).mono ?_;rintro e w1 ⟨rfl,hb⟩;rw [HE.out.1];have hp1:=HP0.out.next hb;have x0:w1.cell? ⟨w.heap.size,0,none⟩=some (.int .u8 5):=BoxA.cell hp1 0 _ rfl;have HP1:=Lib.hid hp1;have HB1:=Lib.hid (HB0.out.trans (hb.mono HB0.out.size));clear hb hp1)
  | (go_at_call 76;refine (HAK.out _).mono ?_;rintro e w1x ⟨rfl,rfl⟩)
  | (go_at_call 75;refine (HKW.out _).mono ?_;rintro e w2 ⟨rfl,hb2⟩;have hp2:=HP1.out.next hb2;have y1:w2.cell? ⟨w.heap.size,1,none⟩=some (.string (str n)):=BoxA.cell hp2 1 _ rfl;have y2:w2.cell? ⟨w.heap.size,2,none⟩=some (.string { data:=#[] }):=BoxA.cell hp2 2 _ rfl;have y3:w2.cell? ⟨w.heap.size,3,none⟩=some (.int .i64 0):=BoxA.cell hp2 3 _ rfl;have y4:w2.cell? ⟨w.heap.size,4,none⟩=some (.bool false):=BoxA.cell hp2 4 _ rfl;have hlt:=hp2.lt;have HP2:=Lib.hid hp2;have HB2:=Lib.hid (HB1.out.trans (hb2.mono HB1.out.size));clear hb2 hp2))
 rw [HAA.out]
 go_ret2
 exact ⟨by rw [←HEQ.out,HE.out.1];rfl,HB2.out⟩
set_option maxRecDepth 100000 in
set_option maxHeartbeats 6400000 in
theorem dtextd_6 (d:Dir) (h:DW d) (hn:d.name.length≤1000) (hp:d.pool.length≤1000) (hc:chk d=true) (n:Tx) (hd:d=⟨6,n,[],0,false⟩) (hnl:n.length≤32) (w:World):Calls Tryz.prog 56 #[dV d] w (TextT d w):=by
 have HE:=Lib.hid (show cE d=0∧tT d=dtx d by unfold cE tT;rw [if_pos hc,if_pos hc];exact ⟨rfl,rfl⟩)
 have HCH:=Lib.hid (fun W=>dCheck_any d h hn hp W)
 subst hd
 have zn:(str n).size≤32:=by rw [str_size];exact hnl
 have HKW:=Lib.hid (fun W=>dword_any 6 (by omega) W)
 have HAK:=Lib.hid (show ∀ W,Calls Tryz.prog 76 #[.int .u8 6] W fun e w'=>e=.returned (.tuple #[.bool false,.bool true,.bool false])∧W=w' from fun W=>dasks_any 6 (by omega) W)
 have HDT:=Lib.hid (show tT ⟨6,n,[],0,false⟩=_ from HE.out.2.trans (dtx6 n))
 obtain ⟨w0,hw0⟩:∃ w0,w.alloc (.cells (dcs ⟨6,n,[],0,false⟩) 80)=w0:=⟨_,rfl⟩
 have hb0:Below w.heap.size w w0:=by rw [←hw0];exact (Below.refl _ _).alloc (Nat.le_refl _) _
 have hp0:BoxA w0 w.heap.size 80 (dcs ⟨6,n,[],0,false⟩):=by rw [←hw0];exact BoxA.new _ _ _
 have HB0:=Lib.hid hb0
 have HP0:=Lib.hid hp0
 have H0:=Lib.hid (show w.alloc (.cells #[.int .u8 6,.string (str n),.string { data:=#[] },.int .i64 0,.bool false] 80)=w0 from hw0)
 have hV:dV ⟨6,n,[],0,false⟩=.agg #[.int .u8 6,.string (str n),.string { data:=#[] },.int .i64 0,.bool false]:=rfl
 rw [hV] at HCH ⊢
 obtain ⟨A,hA⟩:∃ A,({ data:=#[35,66,66,32] }:ByteArray)++str (kw 6)=A:=⟨_,rfl⟩
 have hAs:A.size≤54:=by rw [←hA];exact app_size (by decide) (kw_small (by omega))
 have HA:=Lib.hid (show A=str ([35,66,66,32]++kw 6) by rw [←hA,← str_app];rfl)
 have HAA:=Lib.hid hA
 have z3:(str (kw 6)).size≤50:=kw_small (by omega)
 clear hV h hc hb0 hp0 hw0 hn hp hA hnl
 go_enter Tryz.func56,Tryz.ntmps56
 have HEQ:=Lib.hid (show A++({ data:=#[32,110,97,109,101,61] }:ByteArray)++str n=str (tT ⟨6,n,[],0,false⟩) by rw [HDT.out,HA.out,show ({ data:=#[32,110,97,109,101,61] }:ByteArray)=str [32,110,97,109,101,61] from rfl,str_app,str_app])
 go_wp2_with (first
  | (go_at_call 77;rw [H0.out];refine (HCH.out _).mono ?_;rintro e w1 ⟨rfl,hb⟩;rw [HE.out.1];have hp1:=HP0.out.next hb;have x0:w1.cell? ⟨w.heap.size,0,none⟩=some (.int .u8 6):=BoxA.cell hp1 0 _ rfl;have HP1:=Lib.hid hp1;have HB1:=Lib.hid (HB0.out.trans (hb.mono HB0.out.size));clear hb hp1)
  | (go_at_call 76;refine (HAK.out _).mono ?_;rintro e w1x ⟨rfl,rfl⟩)
  | (go_at_call 75;refine (HKW.out _).mono ?_;rintro e w2 ⟨rfl,hb2⟩;have hp2:=HP1.out.next hb2;have y1:w2.cell? ⟨w.heap.size,1,none⟩=some (.string (str n)):=BoxA.cell hp2 1 _ rfl;have y2:w2.cell? ⟨w.heap.size,2,none⟩=some (.string { data:=#[] }):=BoxA.cell hp2 2 _ rfl;have y3:w2.cell? ⟨w.heap.size,3,none⟩=some (.int .i64 0):=BoxA.cell hp2 3 _ rfl;have y4:w2.cell? ⟨w.heap.size,4,none⟩=some (.bool false):=BoxA.cell hp2 4 _ rfl;have hlt:=hp2.lt;have HP2:=Lib.hid hp2;have HB2:=Lib.hid (HB1.out.trans (hb2.mono HB1.out.size));clear hb2 hp2))
 rw [HAA.out]
 go_ret2
 exact ⟨by rw [←HEQ.out,HE.out.1];rfl,HB2.out⟩
theorem dText_any (d:Dir) (h:DW d) (hn:d.name.length≤1000) (hp:d.pool.length≤1000) (w:World):Calls Tryz.prog 56 #[dV d] w (TextT d w):=by
 by_cases hc:chk d=true
 ·rcases chk_form hc with ⟨p,z,hd,hl⟩ | ⟨z,hd⟩ | ⟨z,hd⟩ | ⟨n,p,z,o,hd,hl1,hl2⟩ | ⟨n,hd,hl⟩ | ⟨n,hd,hl⟩
  ·exact dtextd_1 d h hn hp hc p z hd hl w
  ·exact dtextd_2 d h hn hp hc z hd w
  ·exact dtextd_3 d h hn hp hc z hd w
  ·cases o with
   | true=>exact dtextd_4t d h hn hp hc n p z hd hl1 hl2 w
   | false=>exact dtextd_4f d h hn hp hc n p z hd hl1 hl2 w
  ·exact dtextd_5 d h hn hp hc n hd hl w
  ·exact dtextd_6 d h hn hp hc n hd hl w
 ·exact dtextd_no d h hn hp hc w
end Go.Proofs.YtekcjfdllclphaaGreatDoor.gn
end
