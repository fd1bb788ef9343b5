/- The document's answers: Text, SizeText. -/
import Derived.Test.YtekcjfdllclphaaGreatDoorMQaOrE
import Derived.Deep.RegionHeld3
import Derived.Deep.DeepCutAuto
section
set_option linter.unusedVariables false
namespace Go.Proofs.YtekcjfdllclphaaGreatDoor.gn
open Go.RowKit
open Go.Proofs.YtekcjfdllclphaaGreatDoor.un
open Go.Lib (decDigits)
def dg1 (d:Nat):UInt8:=UInt8.ofNat (48+d)
theorem dg1_nat {d:Nat} (h:d < 10):(dg1 d).toNat=48+d:=by
 unfold dg1
 rw [UInt8.toNat_ofNat_of_lt']
 exact Nat.lt_of_lt_of_le (show 48+d < 58 by omega) (by decide)
def lft (m:Nat) (acc:List UInt8):List UInt8:=if m=0 then acc else decDigits m++acc
theorem lft_step {m:Nat} (h:0 < m) (acc:List UInt8):lft m acc=lft (m / 10) (dg1 (m % 10)::acc):=by
 unfold lft
 rw [if_neg (by omega)]
 by_cases hs:m < 10
 ·rw [if_pos (by omega),dec_small hs,Nat.mod_eq_of_lt hs]
  rfl
 ·rw [if_neg (by omega),dec_big hs,List.append_assoc]
  rfl
theorem lft_le (m:Nat) (acc:List UInt8):acc.length≤(lft m acc).length:=by
 unfold lft
 split
 ·exact Nat.le_refl _
 ·rw [List.length_append];omega
set_option maxRecDepth 100000 in
theorem one_string (w:World) (d:Nat) (h:d < 10):(convert 100 9 (.slice (some ⟨w.heap.size,0,none⟩) 1 1)).run Tryz.prog (w.alloc (.cells #[.int .u8 (48+(d:Int))] 5))=.ok (.string (str [dg1 d])) (w.alloc (.cells #[.int .u8 (48+(d:Int))] 5)):=by
 refine run_convert_bytes_back _ _ _ _ ⟨w.heap.size,0,none⟩ 1 [dg1 d] Tryz.underlying100 Tryz.underlying5 Tryz.underlying9 fun j hj=>?_
 have hj0:j=0:=by simp at hj;omega
 subst hj0
 have hadd:(⟨w.heap.size,0,none⟩:Addr).add 0=⟨w.heap.size,0,none⟩:=by unfold Addr.add;split <;> simp_all
 rw [hadd,World.cell?_alloc_mark]
 simp [dg1_nat h]
set_option maxRecDepth 100000 in
set_option maxHeartbeats 3200000 in
theorem dtext_any (n:Int) (w:World):Calls Tryz.prog 33 #[.int .i64 n] w (Told (.string (str (txt n))) w):=by
 by_cases hq:0≤n∧n≤1099511627776
 ·have HQ:=Lib.hid (show quant n=true from decide_eq_true hq)
  by_cases h0:n=0
  ·subst h0
   have HT:=Lib.hid (show txt 0=[48] by rw [show (0:Int)=((0:Nat):Int) from rfl,txt_in (by decide),dec_small (by decide)];rfl)
   go_enter Tryz.func33,Tryz.ntmps33
   go_wp2_with (go_at_call 46;refine (dquant_any _ _).mono ?_;rintro e w2 ⟨rfl,rfl⟩;rw [HQ.out])
   go_ret
   exact ⟨by rw [HT.out];rfl,Below.refl _ _⟩
  ·obtain ⟨m,rfl⟩:∃ m:Nat,n=(m:Int):=⟨n.toNat,by omega⟩
   have hm:m≤1099511627776:=by omega
   have hm0:0 < m:=by omega
   have hne:(((m:Nat):Int) == 0)=false:=by rw [beq_eq_false_iff_ne];omega
   have HT:=Lib.hid (show lft m []=txt (m:Int) by
    rw [txt_in hm]
    unfold lft
    rw [if_neg (by omega),List.append_nil])
   have HLEN:=Lib.hid (txt_len (m:Int))
   generalize txt (m:Int)=ans at *
   clear hq h0
   go_enter Tryz.func33,Tryz.ntmps33
   go_wp2_with (go_at_call 46;refine (dquant_any _ _).mono ?_;rintro e w2 ⟨rfl,rfl⟩;rw [HQ.out])
   go_loopw [0,3] (fun s0 s3 wr=>∃ (k:Nat) (acc:List UInt8),s0=.int .i64 k∧s3=.string (str acc)∧k≤1099511627776∧Aside (lft k acc=ans)∧Aside (Below w.heap.size w wr)) (fun s0 _ _=>(intOf s0).toNat)
   case atStart=>exact ⟨m,[],rfl,rfl,hm,HT.out,Below.refl _ _⟩
   case round =>
    obtain ⟨k,acc,rfl,rfl,hk,hl,hb⟩:=hrel
    have HB:=Lib.hid (show Below w.heap.size w wr from hb)
    by_cases hk0:0 < k
    ·have hl2:lft (k / 10) (dg1 (k % 10)::acc)=ans:=by rw [←lft_step hk0];exact hl
     have hal:=lft_le (k / 10) (dg1 (k % 10)::acc)
     rw [hl2] at hal
     have z1:(str acc).size≤13:=by
      rw [str_size]
      have:=HLEN.out
      simp at hal
      omega
     have z2:(str [dg1 (k % 10)]).size=1:=rfl
     have HL:=Lib.hid hl2
     have hone:=one_string wr (k % 10) (Nat.mod_lt _ (by decide))
     have htm:Int.tmod (k:Int) 10=((k % 10:Nat):Int):=rfl
     have htd:Int.tdiv (k:Int) 10=((k / 10:Nat):Int):=rfl
     have hd10:k % 10 < 10:=Nat.mod_lt _ (by decide)
     have hq10:k / 10 < k:=by omega
     have HB2:=Lib.hid (HB.out.alloc HB.out.size (.cells #[.int .u8 (48+((k % 10:Nat):Int))] 5))
     clear hl hb hl2 hal
     generalize k % 10=d at *
     generalize k / 10=k2 at *
     go_wp2
     go_roundw
     case rel=>exact ⟨k2,dg1 d::acc,rfl,by rw [str_app];rfl,by omega,HL.out,HB2.out⟩
     case measure=>simp [intOf];omega
    ·obtain rfl:k=0:=by omega
     have hans:acc=ans:=hl
     subst hans
     clear hl hb
     go_wp2
     go_ret
     exact ⟨rfl,HB.out⟩
 ·have HQ:=Lib.hid (show quant n=false from decide_eq_false hq)
  have HT:=Lib.hid (txt_out hq)
  clear hq
  go_enter Tryz.func33,Tryz.ntmps33
  go_wp2_with (go_at_call 46;refine (dquant_any _ _).mono ?_;rintro e w2 ⟨rfl,rfl⟩;rw [HQ.out])
  go_ret
  exact ⟨by rw [HT.out];rfl,Below.refl _ _⟩
theorem wrap_q {q:Nat} (h:q≤1099511627776):IntKind.i64.wrap (q:Int)=(q:Int):=by
 rw [IntKind.wrap_i64]
 omega
theorem add_run {a b:List UInt8} (ha:(str a).size≤1000) (hb:(str b).size≤1000) (W:World):(Op.stringOp .add (str a) (str b)).run Tryz.prog W=.ok (.string (str a++str b)) W:=run_string_add_sum W _ _ (by omega)
theorem below_undrew {B:Nat} {w w':World} (h:Below B w.drew w'):Below B w w':=⟨h.os,h.tape,h.output,h.size,h.block⟩
def fourN:Array Value:=#[.string { data:=#[84,105,66] },.string { data:=#[71,105,66] },.string { data:=#[77,105,66] },.string { data:=#[75,105,66] }]
theorem fourN_at {k:Nat} (hk:k < 4):fourN[k]?=some (.string (str (nm k))):=by
 have hc:k=0∨k=1∨k=2∨k=3:=by omega
 rcases hc with rfl | rfl | rfl | rfl <;> rfl
set_option maxRecDepth 100000 in
set_option maxHeartbeats 1600000 in
theorem dstext_out (n:Int) (hq:¬ (0 < n∧n≤1099511627776)) (w:World):Calls Tryz.prog 25 #[.int .i64 n] w (Told (.string (str (stxt n))) w):=by
 have HX:=Lib.hid (stxt_out hq)
 obtain ⟨w3,hw3⟩:∃ w3,w.alloc (.cells fourN 9)=w3:=⟨_,rfl⟩
 have HB3:=Lib.hid (show Below w.heap.size w w3 by rw [←hw3];exact (Below.refl _ _).alloc (Nat.le_refl _) _)
 unfold fourN at hw3
 obtain ⟨q,hqq⟩:∃ q,quant n=q:=⟨_,rfl⟩
 have HQ:=Lib.hid hqq
 have hcase:q=false∨(q=true∧decide (0 < n)=false):=by
  rw [←hqq]
  by_cases h:0≤n∧n≤1099511627776
  ·exact .inr ⟨decide_eq_true h,decide_eq_false (by omega)⟩
  ·exact .inl (decide_eq_false h)
 clear hqq hq
 rcases hcase with rfl | ⟨rfl,hn0⟩
 all_goals
  go_enter Tryz.func25,Tryz.ntmps25
  go_wp2
  clear hw3
  go_loopw [4] (fun s4 wr=>s4=.int .i64 0∧wr=w3) (fun s4 _=>0)
  case atStart=>exact ⟨rfl,rfl⟩
  case round =>
   obtain ⟨rfl,rfl⟩:=hrel
   go_wp2_with (first
    | (go_at_call 46;refine (dquant_any _ _).mono ?_;rintro e w4 ⟨rfl,rfl⟩;rw [HQ.out])
    | (go_at_call 33;refine (dtext_any n _).mono ?_;rintro e w5 ⟨rfl,hb5⟩;have HB5:=Lib.hid (HB3.out.trans (hb5.mono HB3.out.size));clear hb5))
   go_ret
   exact ⟨by rw [HX.out];rfl,HB5.out⟩
set_option maxRecDepth 100000 in
set_option maxHeartbeats 3200000 in
theorem dstext_in (n:Nat) (h0:0 < n) (h1:n≤1099511627776) (w:World):Calls Tryz.prog 25 #[.int .i64 (n:Int)] w (Told (.string (str (stxt (n:Int)))) w):=by
 have HQ:=Lib.hid (show quant (n:Int)=true from decide_eq_true (by omega))
 obtain ⟨w3,hw3⟩:∃ w3,w.alloc (.cells fourN 9)=w3:=⟨_,rfl⟩
 have hcell:∀ k,k < 4→w3.cell? ⟨w.heap.size,k,none⟩=some (.string (str (nm k))):=fun k hk=>by
  rw [←hw3,World.cell?_alloc_mark]
  exact fourN_at hk
 have HC:=Lib.hid hcell
 have hsz3:w.heap.size < w3.heap.size:=by rw [←hw3];simp
 have HB3:=Lib.hid (show Below w.heap.size w w3 by rw [←hw3];exact (Below.refl _ _).alloc (Nat.le_refl _) _)
 unfold fourN at hw3
 have hn0:decide (0 < (n:Int))=true:=decide_eq_true (by omega)
 clear hcell
 go_enter Tryz.func25,Tryz.ntmps25
 go_wp2
 clear hw3
 go_loopw [4] (fun s4 wr=>∃ k:Nat,s4=.int .i64 k∧k≤4∧Aside (∀ i,i < k→n % sz i≠0)∧Aside (Below w3.heap.size w3 wr)) (fun s4 _=>4 - (intOf s4).toNat)
 case atStart=>exact ⟨0,rfl,by omega,fun i hi=>absurd hi (by omega),Below.refl _ _⟩
 case round =>
  obtain ⟨k,rfl,hk,hno,hb⟩:=hrel
  have HB:=Lib.hid (show Below w3.heap.size w3 wr from hb)
  have HBW:=Lib.hid (HB3.out.trans (HB.out.mono HB3.out.size))
  have hszr:w.heap.size < wr.heap.size:=Nat.lt_of_lt_of_le hsz3 HB.out.size
  clear hb
  by_cases h4:k < 4
  ·have hcw:∀ W,Below wr.heap.size wr W→W.cell? ⟨w.heap.size,k,none⟩=some (.string (str (nm k))):=fun W hW=>by
    rw [Below.cell hW hszr,Below.cell HB.out hsz3]
    exact HC.out k h4
   have hck:=hcw wr (Below.refl _ _)
   have HCW:=Lib.hid hcw
   clear hcw
   have hsb:=sz_bd (show k < 8 by omega)
   have hs0:¬ ((sz k:Nat):Int)=0:=by omega
   have htm:Int.tmod (n:Int) ((sz k:Nat):Int)=((n % sz k:Nat):Int):=rfl
   have htd:Int.tdiv (n:Int) ((sz k:Nat):Int)=((n / sz k:Nat):Int):=rfl
   have HBY:=Lib.hid (by_nm (show k < 8 by omega))
   by_cases hd:n % sz k=0
   ·have hx:=stxt_at h0 h1 h4 hno hd
    have HX:=Lib.hid hx
    have hle:n / sz k≤1099511627776:=Nat.le_trans (Nat.div_le_self _ _) h1
    have z1:(str (txt ((n / sz k:Nat):Int))).size≤13:=by rw [str_size];exact txt_len _
    have z2:(str (nm k)).size≤3:=by rw [str_size];exact nm_len (by omega)
    have HTE:=Lib.hid (txt_in hle)
    rw [hd] at htm
    have hqb:n / sz k≤9223372036854775807:=Nat.le_trans hle (by decide)
    have hs0n:¬ sz k=0:=by omega
    have hwq:IntKind.i64.wrap ((n / sz k:Nat):Int)=((n / sz k:Nat):Int):=wrap_q hle
    have hadd:=add_run (Nat.le_trans z1 (by decide)) (Nat.le_trans z2 (by decide))
    clear hx hno hd hqb
    generalize n / sz k=q at *
    go_upto_region 6 with (first
     | (go_at_call 46;refine (dquant_any _ _).mono ?_;rintro e w4 ⟨rfl,rfl⟩;rw [HQ.out])
     | (go_at_call 45;refine (dby_any (nm k) _).mono ?_;rintro e w5 ⟨rfl,hb5⟩;rw [HBY.out];have HB5:=Lib.hid hb5;have hck5:=HCW.out _ hb5;have hsz5:=Nat.lt_of_lt_of_le hszr hb5.size;clear hb5))
    have hck5d:w5.drew.cell? ⟨w.heap.size,k,none⟩=some (.string (str (nm k))):=hck5
    go_region_held3 (fun W=>W.cell? ⟨w.heap.size,k,none⟩=some (.string (str (nm k)))) (first | assumption | (exact hck5) | (exact hck5d)) (first
     | (go_at_call 45;refine (dby_any (nm k) _).mono ?_;rintro e w6 ⟨rfl,hb6⟩;rw [HBY.out];have hb6':Below w5.heap.size w5 w6:=below_undrew hb6;clear hb6;have hck6:w6.cell? ⟨w.heap.size,k,none⟩=some (.string (str (nm k))):=(Below.cell hb6' hsz5).trans hck5;have hsz6:=Nat.lt_of_lt_of_le hsz5 hb6'.size;have HB6:=Lib.hid (HB5.out.trans (hb6'.mono HB5.out.size));clear hb6')
     | (go_at_call 33;refine (dtext_any (q:Int) _).mono ?_;rintro e w7 ⟨rfl,hb7⟩;have hck7:w7.cell? ⟨w.heap.size,k,none⟩=some (.string (str (nm k))):=(Below.cell hb7 hsz6).trans hck6;have HB7:=Lib.hid (HB6.out.trans (hb7.mono HB6.out.size));clear hb7))
    all_goals go_wp2
    all_goals go_ret
    all_goals exact ⟨by rw [HX.out,HTE.out,str_app];rfl,HBW.out.trans (HB7.out.mono HBW.out.size)⟩
   ·have hd2:((n % sz k:Nat):Int)≠0:=by omega
    have hno2:∀ i,i < k+1→n % sz i≠0:=fun i hi=>by
     rcases Nat.lt_or_ge i k with h | h
     ·exact hno i h
     ·rw [show i=k by omega];exact hd
    have HN:=Lib.hid hno2
    clear hno2 hno hd htd
    generalize n % sz k=r at *
    go_wp2_with (first
     | (go_at_call 46;refine (dquant_any _ _).mono ?_;rintro e w4 ⟨rfl,rfl⟩;rw [HQ.out])
     | (go_at_call 45;refine (dby_any (nm k) _).mono ?_;rintro e w5 ⟨rfl,hb5⟩;rw [HBY.out];have HB5:=Lib.hid (HB.out.trans (hb5.mono HB.out.size));clear hb5))
    go_roundw
    case rel=>exact ⟨k+1,by go_num,by omega,HN.out,HB5.out⟩
    case measure=>simp [intOf];omega
  ·obtain rfl:k=4:=by omega
   have HX:=Lib.hid (stxt_none h0 h1 hno)
   have HTE:=Lib.hid (txt_in h1)
   clear hno
   go_wp2_with (first
    | (go_at_call 46;refine (dquant_any _ _).mono ?_;rintro e w4 ⟨rfl,rfl⟩;rw [HQ.out])
    | (go_at_call 33;refine (dtext_any (n:Int) _).mono ?_;rintro e w5 ⟨rfl,hb5⟩;have HB5:=Lib.hid (HBW.out.trans (hb5.mono HBW.out.size));clear hb5))
   go_ret
   exact ⟨by rw [HX.out,HTE.out];rfl,HB5.out⟩
theorem dstext_any (n:Int) (w:World):Calls Tryz.prog 25 #[.int .i64 n] w (Told (.string (str (stxt n))) w):=by
 by_cases h:0 < n∧n≤1099511627776
 ·obtain ⟨m,rfl⟩:∃ m:Nat,n=(m:Int):=⟨n.toNat,by omega⟩
  exact dstext_in m (by omega) (by omega) w
 ·exact dstext_out n h w
end Go.Proofs.YtekcjfdllclphaaGreatDoor.gn
end
