/- The contract of Text. -/
import Derived.Test.YtekcjfdllclphaaGreatDoorMQbDiK
import Derived.Test.YtekcjfdllclphaaGreatDoorMQbGenLoad
import Derived.Test.YtekcjfdllclphaaGreatDoorMQbGenTail
import Derived.RangeFuncNested
import Derived.Deep.LoopGhost
import Derived.Shelf.Abstract
import Derived.BigQuiet
set_option linter.unusedVariables false
set_option linter.unusedSimpArgs false
section
namespace Go.Proofs.YtekcjfdllclphaaGreatDoor.gn
open Go.RowKit
open Go.Proofs.YtekcjfdllclphaaGreatDoor.un
open Go.Proofs.YtekcjfdllclphaaGreatDoor.di
def tT (d:Dir):Tx:=if chk d=true then dtx d else []
def TextT (d:Dir) (w:World):Ending→World→Prop:=Told (.tuple #[.string (str (tT d)),.int .i64 (cE d)]) w
theorem trun_cons (d:Dir) (f:Tx × Bool) (r:List (Tx × Bool)) (s:Tx):trun d (f::r) s=if f.2=true∧val d f.1=[] then trun d r s else trun d r (s++32::(f.1++61::val d f.1)):=rfl
theorem val_short {d:Dir} (h:chk d=true) {key:Tx} (hk:has d.kind key=true):(val d key).length≤40:=by
 obtain ⟨c0,c1,cz,c2,c3,c4,c5,c6⟩:=(chk_iff d).1 h
 have hs:=stxt_len d.size
 rcases key_five hk with rfl | rfl | rfl | rfl | rfl
 ·rw [val_name]
  rcases c3 with e | e
  ·have:=name_len (c2.1 e);omega
  ·rw [e];simp
 ·rw [val_pool]
  rcases c5 with e | e
  ·have:=name_len (c4.1 e);omega
  ·rw [e];simp
 ·rw [val_size d (.inl rfl)];omega
 ·rw [val_size d (.inr rfl)];omega
 ·rw [val_acc]
  split <;> decide
theorem word_eq (s key v:Tx):str s++(({ data:=#[32] }:ByteArray)++str key++{ data:=#[61] }++str v)=str (s++32::(key++61::v)):=by
 rw [show ({ data:=#[32] }:ByteArray)=str [32] from rfl,show ({ data:=#[61] }:ByteArray)=str [61] from rfl,str_app,str_app,str_app,str_app]
 simp
theorem key_short {k:Nat} {key:Tx} (h:has k key=true):key.length≤8:=by
 rcases key_five h with rfl | rfl | rfl | rfl | rfl <;> decide
set_option maxRecDepth 100000 in
set_option maxHeartbeats 1600000 in
theorem text_no (d:Dir) (h:DW d) (hc:¬ chk d=true) (w:World) (hL:LaidD w):Calls Tryz.prog 53 #[dV d] w (TextT d w):=by
 have HE:=Lib.hid (show cE d=140∧tT d=[] by unfold cE tT;rw [if_neg hc,if_neg hc];exact ⟨rfl,rfl⟩)
 obtain ⟨w0,hw0⟩:∃ w0,w.alloc (.cells #[.int .u8 (d.kind:Nat),.string (str d.name),.string (str d.pool),.int .i64 d.size,.bool d.opn] 80)=w0:=⟨_,rfl⟩
 have hb0:Below w.heap.size w w0:=by rw [←hw0];exact (Below.refl _ _).alloc (Nat.le_refl _) _
 have HB0:=Lib.hid hb0
 have H0:=Lib.hid hw0
 have hV:dV d=.agg #[.int .u8 (d.kind:Nat),.string (str d.name),.string (str d.pool),.int .i64 d.size,.bool d.opn]:=rfl
 have HCH:=Lib.hid (Check_any d h w0 (hL.next hb0))
 rw [hV] at HCH ⊢
 clear hV h hc hL hb0 hw0
 go_enter Tryz.func53,Tryz.ntmps53
 go_wp2_with (go_at_call 94;rw [H0.out];refine HCH.out.mono ?_;rintro e w1 ⟨rfl,hb⟩;rw [HE.out.1];have HB1:=Lib.hid (HB0.out.trans (hb.mono HB0.out.size));clear hb)
 go_ret2
 exact ⟨by rw [HE.out.1,HE.out.2];rfl,HB1.out⟩
structure TK (w:World) (d:Dir) (fa:Nat) (W:World):Prop where
 p:BoxA W w.heap.size 80 (dcs d)
 f:Flds W fa (fldL d.kind)
 b:Below w.heap.size w W
theorem TK.next {w W W':World} {d:Dir} {fa:Nat} (h:TK w d fa W) (hb:Below W.heap.size W W'):TK w d fa W':=⟨h.p.next hb,h.f.next hb,h.b.trans (hb.mono h.b.size)⟩
set_option maxRecDepth 100000 in
set_option maxHeartbeats 6400000 in
theorem text_yes (d:Dir) (h:DW d) (hc:chk d=true) (w:World) (hL:LaidD w):Calls Tryz.prog 53 #[dV d] w (TextT d w):=by
 have HE:=Lib.hid (show cE d=0∧tT d=dtx d by unfold cE tT;rw [if_pos hc,if_pos hc];exact ⟨rfl,rfl⟩)
 have hk:=((chk_iff d).1 hc).1
 have HA:=Lib.hid (show trun d ((fldL d.kind).drop 0) (bbW++32::kw d.kind)=dtx d from trun_dtx hc)
 have HK:=Lib.hid hk
 have HCK:=Lib.hid hc
 have HLB:=Lib.hid hL.base
 have HV:=Lib.hid (fun (key:Tx) (W:World) (hb:Below w.heap.size w W)=>value_any d h.z0 h.z1 key W (hL.next hb).u)
 have HKW:=Lib.hid (kw_len hk)
 obtain ⟨n,hn⟩:∃ n,(fldL d.kind).length=n:=⟨_,rfl⟩
 have HN:=Lib.hid hn
 have hn4:n≤4:=by rw [←hn];exact di.fld_len d.kind
 obtain ⟨w0,hw0⟩:∃ w0,w.alloc (.cells #[.int .u8 (d.kind:Nat),.string (str d.name),.string (str d.pool),.int .i64 d.size,.bool d.opn] 80)=w0:=⟨_,rfl⟩
 have hb0:Below w.heap.size w w0:=by rw [←hw0];exact (Below.refl _ _).alloc (Nat.le_refl _) _
 have hp0:BoxA w0 w.heap.size 80 (dcs d):=by rw [←hw0];exact BoxA.new _ _ _
 have HB0:=Lib.hid hb0
 have HP0:=Lib.hid hp0
 have H0:=Lib.hid hw0
 have hV:dV d=.agg #[.int .u8 (d.kind:Nat),.string (str d.name),.string (str d.pool),.int .i64 d.size,.bool d.opn]:=rfl
 have HCH:=Lib.hid (Check_any d h w0 (hL.next hb0))
 have hk5:(str (kw d.kind)).size≤50:=by rw [str_size];exact kw_len hk
 rw [hV] at HCH HV ⊢
 clear hV hk h hc hn hL hw0 hb0 hp0
 go_enter Tryz.func53,Tryz.ntmps53
 go_wp2_with (first
  | (go_at_call 94;rw [H0.out];refine HCH.out.mono ?_;rintro e w1 ⟨rfl,hb⟩;rw [HE.out.1];have HP1:=Lib.hid (HP0.out.next hb);have hx1:w1.cell? ⟨w.heap.size,0,none⟩=some (.int .u8 (d.kind:Nat)):=BoxA.cell HP1.out 0 _ rfl;have hz1:=HP1.out.lt;have HB1:=Lib.hid (HB0.out.trans (hb.mono HB0.out.size));clear hb)
  | (go_at_call 95;refine (kfind_yes d.kind HK.out _).mono ?_;rintro e w2 ⟨fa,rfl,hf,hfa,hb⟩;rw [HN.out];have HTK:=Lib.hid (show TK w d fa w2 from ⟨HP1.out.next hb,hf,HB1.out.trans (hb.mono HB1.out.size)⟩);clear hf hfa hb))
 clear HP1 HB1 hx1
 go_loopw [7,25] (fun s7 s25 wr=>∃ (i:Nat) (s:Tx),s25=.int .i64 i∧s7=.string (str s)∧i≤n∧s.length≤60+60 * i∧Aside (TK w d fa wr)∧Aside (trun d ((fldL d.kind).drop i) s=dtx d)) (fun _ s25 _=>n - (intOf s25).toNat)
 case atStart=>exact ⟨0,bbW++32::kw d.kind,rfl,by rw [←str_app];rfl,Nat.zero_le _,by have:=HKW.out;simp [bbW];omega,HTK.out,HA.out⟩
 case round =>
  clear HTK HA
  obtain ⟨i,s,rfl,rfl,hi,hsl,hck,har⟩:=hrel
  have HR:=Lib.hid (show TK w d fa wr from hck)
  have HAR:=Lib.hid (show trun d ((fldL d.kind).drop i) s=dtx d from har)
  clear hck har
  by_cases hin:i < n
  ·have hil:i < (fldL d.kind).length:=by rw [HN.out];exact hin
   obtain ⟨f,hfe⟩:∃ f,(fldL d.kind)[i]?=some f:=⟨_,List.getElem?_eq_getElem hil⟩
   obtain ⟨c0,c1⟩:=HR.out.f.2 i f hfe
   have hhas:=(fld_opt (List.mem_of_getElem? hfe)).2
   have HDR:=Lib.hid (show (fldL d.kind).drop i=f::(fldL d.kind).drop (i+1) by
    obtain ⟨_,rfl⟩:=List.getElem?_eq_some_iff.1 hfe
    exact List.drop_eq_getElem_cons hil)
   have hza:fa < wr.heap.size:=HR.out.f.1
   have hks:=key_short hhas
   have hvs:=val_short HCK.out hhas
   clear hfe hhas hil
   obtain ⟨key,opt⟩:=f
   dsimp only at c0 c1 hks hvs
   obtain ⟨v,hv⟩:∃ v,val d key=v:=⟨_,rfl⟩
   have HVK:=Lib.hid (HV.out key)
   rw [hv] at HVK hvs
   have HCR:=Lib.hid (show trun d ((fldL d.kind).drop i) s=if opt=true∧v=[] then trun d ((fldL d.kind).drop (i+1)) s else trun d ((fldL d.kind).drop (i+1)) (s++32::(key++61::v)) by
    rw [HDR.out,trun_cons]
    dsimp only
    rw [hv])
   obtain ⟨om,hom⟩:∃ om,omi (key,opt) v=om:=⟨_,rfl⟩
   have HOM:=Lib.hid hom
   clear hv hom HDR
   have z1:(str key).size≤8:=by rw [str_size];exact hks
   have z2:(str v).size≤40:=by rw [str_size];exact hvs
   have z3:(str s).size≤300:=by rw [str_size];omega
   have hy9:Below wr.heap.size wr (wr.alloc (.cells #[.string (str key),.bool opt] 133)):=(Below.refl _ _).alloc (Nat.le_refl _) _
   have h9:=BoxA.new wr 133 #[.string (str key),.bool opt]
   have HR9:=Lib.hid (HR.out.next hy9)
   have H9:=Lib.hid h9
   have d0:wr.cell? ⟨w.heap.size,0,none⟩=some (.int .u8 (d.kind:Nat)):=BoxA.cell HR.out.p 0 _ rfl
   have d1:wr.cell? ⟨w.heap.size,1,none⟩=some (.string (str d.name)):=BoxA.cell HR.out.p 1 _ rfl
   have d2:wr.cell? ⟨w.heap.size,2,none⟩=some (.string (str d.pool)):=BoxA.cell HR.out.p 2 _ rfl
   have d3:wr.cell? ⟨w.heap.size,3,none⟩=some (.int .i64 d.size):=BoxA.cell HR.out.p 3 _ rfl
   have d4:wr.cell? ⟨w.heap.size,4,none⟩=some (.bool d.opn):=BoxA.cell HR.out.p 4 _ rfl
   have hzw:w.heap.size < wr.heap.size:=HR.out.p.lt
   clear hy9 h9
   cases om with
   | true =>
    go_wp2_with (first
    | (go_at_call 96;refine (HVK.out _ HR9.out.b).mono ?_;rintro e w3 ⟨rfl,hb3⟩;have HR3:=Lib.hid (HR9.out.next hb3);have h93:=H9.out.next hb3;have k0:w3.cell? ⟨wr.heap.size,0,none⟩=some (.string (str key)):=BoxA.cell h93 0 _ rfl;have k1:w3.cell? ⟨wr.heap.size,1,none⟩=some (.bool opt):=BoxA.cell h93 1 _ rfl;have hzb:=h93.lt;have H93:=Lib.hid h93;clear hb3 h93)
    | (go_at_call 97;refine (omitted_any key opt v _).mono ?_;rintro e w4 ⟨rfl,hb4⟩;rw [HOM.out];have HR4:=Lib.hid (HR3.out.next hb4);have h94:=H93.out.next hb4;have m0:w4.cell? ⟨wr.heap.size,0,none⟩=some (.string (str key)):=BoxA.cell h94 0 _ rfl;have m1:w4.cell? ⟨wr.heap.size,1,none⟩=some (.bool opt):=BoxA.cell h94 1 _ rfl;have hzc:=h94.lt;clear hb4 h94))
    go_roundw
    case rel =>
     refine ⟨i+1,s,by go_num,rfl,by omega,by omega,HR4.out,?_⟩
     rw [←HAR.out,HCR.out,if_pos ((omi_iff (key,opt) v).1 HOM.out)]
     rfl
    case measure=>simp [intOf];omega
   | false =>
    have HNO:=Lib.hid (show ¬ (opt=true∧v=[]) from fun e=>by have:=(omi_iff (key,opt) v).2 e;rw [HOM.out] at this;cases this)
    go_wp2_with (first
    | (go_at_call 96;refine (HVK.out _ HR9.out.b).mono ?_;rintro e w3 ⟨rfl,hb3⟩;have HR3:=Lib.hid (HR9.out.next hb3);have h93:=H9.out.next hb3;have k0:w3.cell? ⟨wr.heap.size,0,none⟩=some (.string (str key)):=BoxA.cell h93 0 _ rfl;have k1:w3.cell? ⟨wr.heap.size,1,none⟩=some (.bool opt):=BoxA.cell h93 1 _ rfl;have hzb:=h93.lt;have H93:=Lib.hid h93;clear hb3 h93)
    | (go_at_call 97;refine (omitted_any key opt v _).mono ?_;rintro e w4 ⟨rfl,hb4⟩;rw [HOM.out];have HR4:=Lib.hid (HR3.out.next hb4);have h94:=H93.out.next hb4;have m0:w4.cell? ⟨wr.heap.size,0,none⟩=some (.string (str key)):=BoxA.cell h94 0 _ rfl;have m1:w4.cell? ⟨wr.heap.size,1,none⟩=some (.bool opt):=BoxA.cell h94 1 _ rfl;have hzc:=h94.lt;clear hb4 h94))
    go_roundw
    case rel =>
     refine ⟨i+1,s++32::(key++61::v),by go_num,by rw [←word_eq],by omega,by simp;omega,HR4.out,?_⟩
     rw [←HAR.out,HCR.out,if_neg HNO.out]
     rfl
    case measure=>simp [intOf];omega
  ·obtain rfl:i=n:=by omega
   have HF:=Lib.hid (show s=dtx d by
    have:=HAR.out
    rw [List.drop_of_length_le (by rw [HN.out];exact Nat.le_refl _)] at this
    exact this)
   go_wp2
   go_ret2
   exact ⟨by rw [HE.out.1,HE.out.2,← HF.out];rfl,HR.out.b⟩
theorem Text_any (d:Dir) (h:DW d) (w:World) (hL:LaidD w):Calls Tryz.prog 53 #[dV d] w (TextT d w):=by
 by_cases hc:chk d=true
 ·exact text_yes d h hc w hL
 ·exact text_no d h hc w hL
end Go.Proofs.YtekcjfdllclphaaGreatDoor.gn
end
section
namespace Go.Proofs.YtekcjfdllclphaaGreatDoor.gn
open Go.RowKit
open Go.Proofs.YtekcjfdllclphaaGreatDoor.un
open Go.Proofs.YtekcjfdllclphaaGreatDoor.di
open Go.Proofs.YtekcjfdllclphaaGreatDoor.sp (Slip cuts cutB within? dep? fput frun first? userK nodesK wallK qosK afterK okW anyW jobW pput pline pread chkS Ok shortP soundP waitsP storedP apartP dirsP dropD useD capD innD outD txtS line1 dirsS sread)
theorem flat_len {α:Type} (f:α→List Value) (k:Nat) (hk:∀ x,(f x).length=k):∀ l:List α,(l.flatMap f).length=l.length * k
 | []=>by simp
 | x::l=>by
  rw [List.flatMap_cons,List.length_append,hk,flat_len f k hk l,List.length_cons,Nat.add_mul]
  omega
theorem flat_at {α:Type} (f:α→List Value) (k:Nat) (hk:∀ x,(f x).length=k):∀ (l:List α) (i j:Nat) (x:α),l[i]?=some x→j < k→(l.flatMap f)[i * k+j]?=(f x)[j]?
 | [],i,j,x,h,_=>by cases h
 | y::l,0,j,x,h,hj=>by
  cases h
  rw [List.flatMap_cons,Nat.zero_mul,Nat.zero_add,List.getElem?_append_left (by rw [hk];exact hj)]
 | y::l,i+1,j,x,h,hj=>by
  have e:(i+1) * k+j=k+(i * k+j):=by rw [Nat.add_mul];omega
  rw [List.flatMap_cons,e,List.getElem?_append_right (by rw [hk];omega),hk,Nat.add_sub_cancel_left]
  exact flat_at f k hk l i j x h hj
abbrev Dep:=Int × Bool
def cA (d:Dep):List Value:=[.int .i64 d.1,.bool d.2]
def cM (d:Dir):List Value:=[.int .u8 (d.kind:Nat),.string (str d.name),.string (str d.pool),.int .i64 d.size,.bool d.opn]
def cS (s:Tx):List Value:=[.string (str s)]
def flA (l:List Dep):List Value:=l.flatMap cA
def flM (l:List Dir):List Value:=l.flatMap cM
def flS (l:List Tx):List Value:=l.flatMap cS
theorem flM_len (l:List Dir):(flM l).length=l.length * 5:=flat_len cM 5 (fun _=>rfl) l
theorem flS_len (l:List Tx):(flS l).length=l.length * 1:=flat_len cS 1 (fun _=>rfl) l
theorem flA_app (a b:List Dep):flA (a++b)=flA a++flA b:=List.flatMap_append
theorem flM_app (a b:List Dir):flM (a++b)=flM a++flM b:=List.flatMap_append
theorem flS_app (a b:List Tx):flS (a++b)=flS a++flS b:=List.flatMap_append
theorem flA_one (l:List Dep):∀ u∈flA l,u.oneCell'=true:=fun u hu=>by
 obtain ⟨d,_,h⟩:=List.mem_flatMap.1 hu
 simp only [cA,List.mem_cons,List.not_mem_nil,or_false] at h
 rcases h with rfl | rfl <;> rfl
theorem flM_one (l:List Dir):∀ u∈flM l,u.oneCell'=true:=fun u hu=>by
 obtain ⟨d,_,h⟩:=List.mem_flatMap.1 hu
 simp only [cM,List.mem_cons,List.not_mem_nil,or_false] at h
 rcases h with rfl | rfl | rfl | rfl | rfl <;> rfl
theorem flS_one (l:List Tx):∀ u∈flS l,u.oneCell'=true:=fun u hu=>by
 obtain ⟨d,_,h⟩:=List.mem_flatMap.1 hu
 simp only [cS,List.mem_cons,List.not_mem_nil,or_false] at h
 subst h;rfl
theorem elt_of {t e:TypeId} {z:Value} {size bytes:Nat} (hu:Tryz.prog.underlying t=some (.slice e)) (hi:(Tryz.prog.info? e).map (fun i=>(i.zero,i.size,i.bytes))=some (some z,size,bytes)) (hz:z.cells.size=size) (h0:0 < size):EltI t e z size bytes:=by
 refine ⟨hu,?_,hz,h0⟩
 cases hj:Tryz.prog.info? e with
 | none=>rw [hj] at hi;cases hi
 | some i0 =>
  rw [hj] at hi
  simp only [Option.map_some,Option.some.injEq,Prod.mk.injEq] at hi
  exact ⟨i0,rfl,hi.1,hi.2.1,hi.2.2⟩
theorem eltA:EltI 23 88 (.agg #[.int .i64 0,.bool false]) 2 16:=elt_of Tryz.underlying23 (by kernel_rfl) rfl (by decide)
theorem eltM:EltI 24 80 (.agg #[.int .u8 0,.string ⟨#[]⟩,.string ⟨#[]⟩,.int .i64 0,.bool false]) 5 56:=elt_of Tryz.underlying24 (by kernel_rfl) rfl (by decide)
theorem eltS:EltI 25 9 (.string ⟨#[]⟩) 1 16:=elt_of Tryz.underlying25 (by kernel_rfl) rfl (by decide)
structure Gh where
 a:Value
 m:Value
 d:Value
 u:Value
def scs (x:Slip) (g:Gh):Array Value:=#[.string (str x.user),.int .i64 x.nodes,.int .i64 x.wall,.int .i64 x.qos,g.a,.int .i64 x.cap,.int .i64 x.inn,.int .i64 x.out,.string (str x.pool),g.m,g.d,g.u]
def rcs (x:Slip) (g:Gh) (line:Int):Array Value:=#[.string (str x.user),.int .i64 x.nodes,.int .i64 x.wall,.int .i64 x.qos,g.a,.int .i64 x.cap,.int .i64 x.inn,.int .i64 x.out,.string (str x.pool),g.m,g.d,g.u,.int .i64 line]
def sV (x:Slip) (g:Gh):Value:=.agg (scs x g)
def Cp (v:Value) (n:Nat):Prop:=∃ p c,v=.slice p n c∧n≤c∧c≤maxLen
theorem cp_own {w:World} {base:Nat} {e:TypeId} {size:Nat} {v:Value} {n:Nat} {cs:List Value} (h:w.ownsRow base e size v n cs):Cp v n:=by
 rcases h.2 with ⟨rfl,rfl⟩ | ⟨g,cap,cur,rfl,_,_,h1,h2,_⟩
 ·exact ⟨_,_,rfl,Nat.le_refl _,Nat.zero_le _⟩
 ·exact ⟨_,_,rfl,h1,h2⟩
structure SR (w:World) (x:Slip) (g:Gh):Prop where
 a:RdC w g.a x.after.length (flA x.after)
 m:RdC w g.m x.make.length (flM x.make)
 d:RdC w g.d x.drop.length (flS x.drop)
 u:RdC w g.u x.use.length (flS x.use)
 ca:Cp g.a x.after.length
 cm:Cp g.m x.make.length
 cd:Cp g.d x.drop.length
 cu:Cp g.u x.use.length
theorem SR.next {w w':World} {x:Slip} {g:Gh} (h:SR w x g) (hb:Below w.heap.size w w'):SR w' x g:=⟨h.a.next hb,h.m.next hb,h.d.next hb,h.u.next hb,h.ca,h.cm,h.cd,h.cu⟩
structure Rdr (w:World) (R:Nat) (x:Slip) (line:Int) (g:Gh):Prop where
 box:BoxA w R 107 (rcs x g line)
 a:w.ownsRow (R+1) 88 2 g.a x.after.length (flA x.after)
 m:w.ownsRow (R+1) 80 5 g.m x.make.length (flM x.make)
 d:w.ownsRow (R+1) 9 1 g.d x.drop.length (flS x.drop)
 u:w.ownsRow (R+1) 9 1 g.u x.use.length (flS x.use)
 du:∀ b,g.d.ownBlock=some b→g.u.ownBlock≠some b
def Mr (R:Nat) (g:Gh) (b:Nat):Prop:=b=R∨g.a.ownBlock=some b∨g.m.ownBlock=some b∨g.d.ownBlock=some b∨g.u.ownBlock=some b
section
variable {w w' : World} {R : Nat} {x : Slip} {line : Int} {g : Gh}
theorem own_cells {base:Nat} {e:TypeId} {size:Nat} {v:Value} {n:Nat} {cs:List Value} (h:w.ownsRow base e size v n cs) {b:Nat} (hb:v.ownBlock=some b):∃ cur,w.heap[b]?=some (.cells cur e (0,0)):=by
 rcases h.2 with ⟨rfl,_⟩ | ⟨k,cap,cur,rfl,_,hk,_⟩
 ·cases hb
 ·cases hb
  exact ⟨_,hk⟩
theorem own_apart {base base':Nat} {e e':TypeId} {size size':Nat} {v v':Value} {n n':Nat} {cs cs':List Value} (h:w.ownsRow base e size v n cs) (h':w.ownsRow base' e' size' v' n' cs') (he:e≠e') {b:Nat} (hb:v.ownBlock=some b):v'.ownBlock≠some b:=fun hb'=>by
 obtain ⟨c1,h1⟩:=own_cells h hb
 obtain ⟨c2,h2⟩:=own_cells h' hb'
 rw [h1] at h2
 simp only [Option.some.injEq,Obj.cells.injEq] at h2
 exact he h2.2.1
theorem Rdr.lM (h:Rdr w R x line g) {b:Nat} (hb:Mr R g b):R≤b∧b < w.heap.size∧∃ o,w.heap[b]?=some o∧o.isCells=true:=by
 have key:∀ {e:TypeId} {size:Nat} {v:Value} {n:Nat} {cs:List Value},w.ownsRow (R+1) e size v n cs→v.ownBlock=some b→R≤b∧b < w.heap.size∧∃ o,w.heap[b]?=some o∧o.isCells=true:=fun ho hv=>by
  have:=World.ownsRow.lt ho b hv
  obtain ⟨cur,hc⟩:=own_cells ho hv
  exact ⟨by omega,this.2,_,hc,rfl⟩
 rcases hb with rfl | hb | hb | hb | hb
 ·exact ⟨Nat.le_refl _,h.box.lt,_,h.box,rfl⟩
 ·exact key h.a hb
 ·exact key h.m hb
 ·exact key h.d hb
 ·exact key h.u hb
theorem own_same {base:Nat} {e:TypeId} {size:Nat} {v:Value} {n:Nat} {cs:List Value} (h:w.ownsRow base e size v n cs) (hk:∀ b,v.ownBlock=some b→w'.heap[b]?=w.heap[b]?):w'.ownsRow base e size v n cs:=by
 refine ⟨h.1,?_⟩
 rcases h.2 with hn | ⟨k,cap,cur,rfl,hb,hk',r⟩
 ·exact .inl hn
 ·exact .inr ⟨k,cap,cur,rfl,hb,(hk k rfl).trans hk',r⟩
theorem Rdr.kept (h:Rdr w R x line g) (hk:∀ b,Mr R g b→w'.heap[b]?=w.heap[b]?):Rdr w' R x line g :=
 ⟨(hk R (.inl rfl)).trans h.box,own_same h.a fun b hb=>hk b (.inr (.inl hb)),own_same h.m fun b hb=>hk b (.inr (.inr (.inl hb))),own_same h.d fun b hb=>hk b (.inr (.inr (.inr (.inl hb)))),own_same h.u fun b hb=>hk b (.inr (.inr (.inr (.inr hb)))),h.du⟩
theorem Rdr.next (h:Rdr w R x line g) (hb:Below w.heap.size w w'):Rdr w' R x line g:=h.kept fun b hm=>hb.block b (h.lM hm).2.1
theorem Rdr.sr (h:Rdr w R x line g):SR w x g:=⟨(ApC.rdc (.inr h.a)),(ApC.rdc (.inr h.m)),(ApC.rdc (.inr h.d)),(ApC.rdc (.inr h.u)),cp_own h.a,cp_own h.m,cp_own h.d,cp_own h.u⟩
structure Kp (R:Nat) (g g':Gh) (w w':World):Prop where
 low:Below R w w'
 same:∀ b,b < w.heap.size→¬ Mr R g b→w'.heap[b]?=w.heap[b]?
 mv:∀ b,Mr R g' b→Mr R g b∨w.heap.size≤b
theorem Kp.of (g:Gh) (hb:Below w.heap.size w w') (hR:R≤w.heap.size):Kp R g g w w':=⟨hb.mono hR,fun b hl _=>hb.block b hl,fun _ h=>.inl h⟩
theorem Kp.trans {g1 g2 g3:Gh} {a b c:World} (h:Kp R g1 g2 a b) (k:Kp R g2 g3 b c):Kp R g1 g3 a c:=by
 refine ⟨h.low.trans k.low,fun i hi hm=>?_,fun i hm=>?_⟩
 ·refine (k.same i (Nat.lt_of_lt_of_le hi h.low.size) fun hm2=>?_).trans (h.same i hi hm)
  rcases h.mv i hm2 with h1 | h1
  ·exact hm h1
  ·omega
 ·rcases k.mv i hm with h1 | h1
  ·exact h.mv i h1
  ·exact .inr (Nat.le_trans h.low.size h1)
theorem Kp.off {g1 g2:Gh} (h:Kp R g1 g2 w w') {b:Nat} (hb:b < w.heap.size) (hm:¬ Mr R g1 b):¬ Mr R g2 b:=fun h2=>(h.mv b h2).elim hm (fun h3=>by omega)
def Lk (R:Nat) (g:Gh) (w w':World):Prop:=Below R w w'∧∀ b,b < w.heap.size→¬ Mr R g b→w'.heap[b]?=w.heap[b]?
theorem Lk.of (g:Gh) (hb:Below w.heap.size w w') (hR:R≤w.heap.size):Lk R g w w':=⟨hb.mono hR,fun b hl _=>hb.block b hl⟩
theorem Kp.lk {g1 g2:Gh} {a b c:World} (h:Kp R g1 g2 a b) (k:Lk R g2 b c):Lk R g1 a c :=
 ⟨h.low.trans k.1,fun i hi hm=>(k.2 i (Nat.lt_of_lt_of_le hi h.low.size) (fun hm2=>(h.mv i hm2).elim hm (fun h1=>by omega))).trans (h.same i hi hm)⟩
theorem Kp.set (g:Gh) (w:World) (R j:Nat) (u:Value):Kp R g g w (w.setCell ⟨R,j,none⟩ u) :=
 ⟨(Below.refl _ _).setCell (p:=⟨R,j,none⟩) (Nat.le_refl _) u,fun b _ hm=>Below.heap_setCell _ _ _ _ (fun e=>hm (.inl e)),fun _ h=>.inl h⟩
theorem Rdr.put (h:Rdr w R x line g) {y:Slip} {l2:Int} (j:Nat) (u:Value) (hc:(rcs x g line).setIfInBounds j u=rcs y g l2) (ha:y.after=x.after) (hm:y.make=x.make) (hd:y.drop=x.drop) (hu:y.use=x.use):Rdr (w.setCell ⟨R,j,none⟩ u) R y l2 g:=by
 have hk:∀ b,R+1≤b→(w.setCell ⟨R,j,none⟩ u).heap[b]?=w.heap[b]?:=fun b hb=>Below.heap_setCell _ _ _ _ (by simp only;omega)
 refine ⟨?_,own_same (by rw [ha];exact h.a) fun b hb=>hk b (World.ownsRow.lt h.a b hb).1,own_same (by rw [hm];exact h.m) fun b hb=>hk b (World.ownsRow.lt h.m b hb).1,own_same (by rw [hd];exact h.d) fun b hb=>hk b (World.ownsRow.lt h.d b hb).1,own_same (by rw [hu];exact h.u) fun b hb=>hk b (World.ownsRow.lt h.u b hb).1,h.du⟩
 rw [←hc]
 exact h.box.set j u
end
def spV (e line:Int):Value:=.iface 32 (.agg #[.int .i64 e,.int .i64 line])
def pnc (e line:Int):List PanicEntry:=[{ v:=spV e line,recovered:=false }]
theorem fail_any {w:World} {R:Nat} {x:Slip} {line:Int} {g:Gh} (h:Rdr w R x line g) (e:Int):Calls Tryz.prog 111 #[.pointer (some ⟨R,0,none⟩),.int .i64 e] w fun en w'=>en=.panicked (pnc e line)∧w=w':=by
 have c12:w.cell? ⟨R,12,none⟩=some (.int .i64 line):=h.box.cell 12 _
 have hlt:=h.box.lt
 clear h
 go_enter Tryz.func111,Tryz.ntmps111
 go_wp2
 exact ⟨rfl,rfl,rfl⟩
theorem must_any {w:World} {R:Nat} {x:Slip} {line:Int} {g:Gh} (h:Rdr w R x line g) (b:Bool):Calls Tryz.prog 70 #[.pointer (some ⟨R,0,none⟩),.bool b] w fun en w'=>en=(if b=true then .returned (.tuple #[]) else .panicked (pnc 150 line))∧w=w':=by
 have HF:=Lib.hid (fail_any h 150)
 clear h
 cases b with
 | true =>
  go_enter Tryz.func70,Tryz.ntmps70
  go_wp2
  go_end0
  exact ⟨rfl,rfl⟩
 | false =>
  go_enter Tryz.func70,Tryz.ntmps70
  go_wp2_with (go_at_call 111;((with_reducible refine HF.out.mono ?_);rintro e w' ⟨rfl,rfl⟩))
  exact ⟨rfl,rfl,rfl⟩
theorem must_yes {w:World} {R:Nat} {x:Slip} {line:Int} {g:Gh} (h:Rdr w R x line g):Calls Tryz.prog 70 #[.pointer (some ⟨R,0,none⟩),.bool true] w fun en w'=>en=.returned (.tuple #[])∧w=w':=must_any h true
theorem must_no {w:World} {R:Nat} {x:Slip} {line:Int} {g:Gh} (h:Rdr w R x line g):Calls Tryz.prog 70 #[.pointer (some ⟨R,0,none⟩),.bool false] w fun en w'=>en=.panicked (pnc 150 line)∧w=w':=must_any h false
theorem within_any_s (n a b:Int) (w:World):Calls Tryz.prog 99 #[.int .i64 n,.int .i64 a,.int .i64 b] w fun en w'=>en=.returned (.bool (decide (a≤n) && decide (n≤b)))∧w=w':=by
 by_cases h:a≤n
 ·have hd:decide (a≤n)=true:=decide_eq_true h
  rw [hd]
  go_enter Tryz.func99,Tryz.ntmps99
  go_wp2
  go_ret
  exact ⟨rfl,rfl⟩
 ·have hd:decide (a≤n)=false:=decide_eq_false h
  rw [hd]
  go_enter Tryz.func99,Tryz.ntmps99
  go_wp2
  go_ret
  exact ⟨rfl,rfl⟩
theorem within_at {n a b:Int} {t:Bool} (h:(decide (a≤n) && decide (n≤b))=t) (w:World):Calls Tryz.prog 99 #[.int .i64 n,.int .i64 a,.int .i64 b] w fun en w'=>en=.returned (.bool t)∧w=w':=by
 subst h
 exact within_any_s n a b w
def NumT (o:Option Nat) (line:Int) (w:World) (en:Ending) (w':World):Prop:=match o with
 | some n=>en=.returned (.int .i64 (n:Int))∧Below w.heap.size w w'
 | none=>en=.panicked (pnc 150 line)∧Below w.heap.size w w'
set_option maxRecDepth 100000 in
theorem number_any {w:World} {R:Nat} {x:Slip} {line:Int} {g:Gh} (h:Rdr w R x line g) (v:Tx) (hv:v.length≤140737488355328) (a b:Nat) (hL:LaidU w) :
  Calls Tryz.prog 154 #[.pointer (some ⟨R,0,none⟩),.string (str v),.int .i64 (a:Int),.int .i64 (b:Int)] w (NumT (within? v a b) line w):=by
 have HN:=Lib.hid (number_unit v hv w hL)
 have HR:=Lib.hid fun (W:World) (hb:Below w.heap.size w W)=>must_yes (h.next hb)
 have HX:=Lib.hid fun (W:World) (hb:Below w.heap.size w W)=>must_no (h.next hb)
 clear h hL hv
 cases hn:num? v with
 | none =>
  have HW:=Lib.hid (show within? v a b=none by unfold within?;rw [hn])
  rw [hn] at HN
  clear hn
  go_enter Tryz.func154,Tryz.ntmps154
  go_wp2_with (first
   | (go_at_call 114;((with_reducible refine HN.out.mono ?_);rintro e w1 ⟨rfl,hb⟩);rw [qv_none,qe_none];have HB:=Lib.hid hb;clear hb)
   | (go_at_call 70;((with_reducible refine (HX.out _ HB.out).mono ?_);rintro e w2 ⟨rfl,rfl⟩)))
  refine ⟨rfl,?_⟩
  rw [HW.out]
  exact ⟨rfl,HB.out⟩
 | some n =>
  rw [hn] at HN
  by_cases ha:a≤n
  ·have hd:decide ((a:Int)≤(n:Int))=true:=decide_eq_true (by omega)
   by_cases hb2:n≤b
   ·have hd2:decide ((n:Int)≤(b:Int))=true:=decide_eq_true (by omega)
    have HI:=Lib.hid (within_at (show (decide ((a:Int)≤(n:Int)) && decide ((n:Int)≤(b:Int)))=true by rw [hd,hd2];rfl))
    have HW:=Lib.hid (show within? v a b=some n by unfold within?;rw [hn];dsimp only;rw [if_pos ⟨ha,hb2⟩])
    clear hn ha hb2 hd hd2
    go_enter Tryz.func154,Tryz.ntmps154
    go_wp2_with (first
     | (go_at_call 114;((with_reducible refine HN.out.mono ?_);rintro e w1 ⟨rfl,hb⟩);rw [qv_some,qe_some];have HB:=Lib.hid hb;clear hb)
     | (go_at_call 99;((with_reducible refine (HI.out _).mono ?_);rintro e w2 ⟨rfl,rfl⟩))
     | (go_at_call 70;((with_reducible refine (HR.out _ HB.out).mono ?_);rintro e w2 ⟨rfl,rfl⟩)))
    go_ret
    unfold NumT
    rw [HW.out]
    exact ⟨rfl,HB.out⟩
   ·have hd2:decide ((n:Int)≤(b:Int))=false:=decide_eq_false (by omega)
    have HI:=Lib.hid (within_at (show (decide ((a:Int)≤(n:Int)) && decide ((n:Int)≤(b:Int)))=false by rw [hd,hd2];rfl))
    have HW:=Lib.hid (show within? v a b=none by unfold within?;rw [hn];dsimp only;rw [if_neg (fun h=>hb2 h.2)])
    clear hn ha hb2 hd hd2
    go_enter Tryz.func154,Tryz.ntmps154
    go_wp2_with (first
     | (go_at_call 114;((with_reducible refine HN.out.mono ?_);rintro e w1 ⟨rfl,hb⟩);rw [qv_some,qe_some];have HB:=Lib.hid hb;clear hb)
     | (go_at_call 99;((with_reducible refine (HI.out _).mono ?_);rintro e w2 ⟨rfl,rfl⟩))
     | (go_at_call 70;((with_reducible refine (HX.out _ HB.out).mono ?_);rintro e w2 ⟨rfl,rfl⟩)))
    refine ⟨rfl,?_⟩
    rw [HW.out]
    exact ⟨rfl,HB.out⟩
  ·have hd:decide ((a:Int)≤(n:Int))=false:=decide_eq_false (by omega)
   have HI:=Lib.hid (within_at (show (decide ((a:Int)≤(n:Int)) && decide ((n:Int)≤(b:Int)))=false by rw [hd];rfl))
   have HW:=Lib.hid (show within? v a b=none by unfold within?;rw [hn];dsimp only;rw [if_neg (fun h=>ha h.1)])
   clear hn ha hd
   go_enter Tryz.func154,Tryz.ntmps154
   go_wp2_with (first
    | (go_at_call 114;((with_reducible refine HN.out.mono ?_);rintro e w1 ⟨rfl,hb⟩);rw [qv_some,qe_some];have HB:=Lib.hid hb;clear hb)
    | (go_at_call 99;((with_reducible refine (HI.out _).mono ?_);rintro e w2 ⟨rfl,rfl⟩))
    | (go_at_call 70;((with_reducible refine (HX.out _ HB.out).mono ?_);rintro e w2 ⟨rfl,rfl⟩)))
   refine ⟨rfl,?_⟩
   rw [HW.out]
   exact ⟨rfl,HB.out⟩
def StoT2 (R:Nat) (g:Gh) (o:Option Slip) (line:Int) (w:World) (en:Ending) (w':World):Prop:=match o with
 | some y=>en=.returned (.tuple #[])∧∃ g',Rdr w' R y line g'∧Kp R g g' w w'
 | none=>en=.panicked (pnc 150 line)∧Lk R g w w'
set_option maxRecDepth 100000 in
theorem user_any {w:World} {R:Nat} {x:Slip} {line:Int} {g:Gh} (h:Rdr w R x line g) (v:Tx) (hv:v.length≤140737488355328) :
  Calls Tryz.prog 131 #[.pointer (some ⟨R,0,none⟩),.string (str v)] w (StoT2 R g (some { x with user:=v }) line w):=by
 have HR:=Lib.hid h
 have hz:(str v).size≤281474976710656:=by rw [str_size];omega
 clear h hv
 go_enter Tryz.func131,Tryz.ntmps131
 go_wp2_with (go_at_call 117;((with_reducible refine (clone_any _ _ hz).mono ?_);rintro e w1 ⟨rfl,hb⟩);have HB:=Lib.hid hb;have c0:=(HR.out.next hb).box.cell 0 _;have f0:=(HR.out.next hb).box.free 0;have l0:=(HR.out.next hb).box.lt;clear hb)
 go_end0
 have h1:=HR.out.next HB.out
 exact ⟨rfl,g,h1.put 0 _ rfl rfl rfl rfl rfl,(Kp.of g HB.out (Nat.le_of_lt HR.out.box.lt)).trans (Kp.set g _ R 0 _)⟩
end Go.Proofs.YtekcjfdllclphaaGreatDoor.gn
end
section
namespace Go.Proofs.YtekcjfdllclphaaGreatDoor.gn
open Go.RowKit
open Go.Proofs.YtekcjfdllclphaaGreatDoor.un
open Go.Proofs.YtekcjfdllclphaaGreatDoor.di
open Go.Proofs.YtekcjfdllclphaaGreatDoor.sp (Slip)
def cI (n:Int):List Value:=[.int .i64 n]
def flI (l:List Int):List Value:=l.flatMap cI
theorem flI_app (a b:List Int):flI (a++b)=flI a++flI b:=List.flatMap_append
theorem eltI:EltI 120 2 (.int .i64 0) 1 8:=elt_of Tryz.underlying120 (by kernel_rfl) rfl (by decide)
theorem RdC.at_ {w:World} {v:Value} {n:Nat} {cs:List Value} {size:Nat} {p:Option Addr} {c:Nat} (h:RdC w v n cs) (he:v=.slice p n c) (hk:0 < n):∃ b off,p=some ⟨b,off,none⟩∧b < w.heap.size∧CellsC w b off cs:=by
 rcases h with ⟨p',c',rfl,h0,_⟩ | ⟨b,off,c',rfl,hb,hc⟩
 ·omega
 ·cases he
  exact ⟨b,off,rfl,hb,hc⟩
theorem CellsC.elt {α:Type} {f:α→List Value} {k:Nat} (hf:∀ x,(f x).length=k) {w:World} {b off:Nat} {l:List α} (h:CellsC w b off (l.flatMap f)) {i j:Nat} {x:α} {u:Value} (hx:l[i]?=some x) (hj:j < k) (hu:(f x)[j]?=some u):w.cell? ⟨b,off+(i * k+j),none⟩=some u :=
 h _ _ (by rw [flat_at f k hf l i j x hx hj];exact hu)
theorem take_snoc {α:Type} {l:List α} {k:Nat} {x:α} (h:l[k]?=some x):l.take (k+1)=l.take k++[x]:=by rw [List.take_add_one,h];rfl
theorem mem_take_succ {α:Type} {l:List α} {k:Nat} {x y:α} (h:l[k]?=some y):x∈l.take (k+1)↔x∈l.take k∨x=y:=by rw [take_snoc h];simp
theorem nodup_take_succ {α:Type} {l:List α} {k:Nat} {y:α} (h:l[k]?=some y):(l.take (k+1)).Nodup↔(l.take k).Nodup∧y ∉ l.take k:=by
 rw [take_snoc h,List.nodup_append]
 constructor
 ·rintro ⟨a,_,c⟩
  exact ⟨a,fun hy=>c y hy y (by simp) rfl⟩
 ·rintro ⟨a,b⟩
  exact ⟨a,by simp,fun z hz u hu e=>by simp at hu;subst hu;subst e;exact b hz⟩
set_option maxRecDepth 100000 in
set_option maxHeartbeats 4000000 in
theorem index_s (l:List Tx) (x:Tx) (v:Value) (w:World) (h:RdC w v l.length (flS l)) (hm:l.length≤maxLen):Calls Tryz.prog 150 #[v,.string (str x)] w fun e w'=>∃ i:Int,e=.returned (.int .i64 i)∧(0≤i↔x∈l)∧w=w':=by
 obtain ⟨p,c,rfl⟩:=h.form
 have HC:=Lib.hid (fun hk:0 < l.length=>h.at_ (size:=1) rfl hk)
 obtain ⟨n,hn⟩:∃ n,l.length=n:=⟨_,rfl⟩
 rw [hn] at hm HC ⊢
 have HN:=Lib.hid hn
 have hm2:n≤9223372036854775807:=by unfold maxLen at hm;omega
 clear h hn hm
 go_enter Tryz.func150,Tryz.ntmps150
 go_wp2
 go_loopw [8] (fun s8 wr=>∃ k:Nat,s8=.int .i64 k∧k≤n∧Aside (x ∉ l.take k)∧Aside (w=wr)) (fun s8 _=>n - (intOf s8).toNat)
 case atStart=>exact ⟨0,rfl,Nat.zero_le _,by show x ∉ l.take 0;simp,rfl⟩
 case round =>
  obtain ⟨k,rfl,hk,hnx,hw⟩:=hrel
  have HX:=Lib.hid (show x ∉ l.take k from hnx)
  have hw:w=wr:=hw
  subst hw
  clear hnx
  by_cases hkn:k < n
  ·obtain ⟨b,off,rfl,hb,hc⟩:=HC.out (by omega)
   obtain ⟨y,hy⟩:∃ y,l[k]?=some y:=⟨_,List.getElem?_eq_getElem (by rw [HN.out];exact hkn)⟩
   have c0:w.cell? ⟨b,off+k,none⟩=some (.string (str y)):=by
    have:=hc.elt (f:=cS) (k:=1) (fun _=>rfl) (j:=0) hy (by decide) rfl
    rwa [Nat.mul_one,Nat.add_zero] at this
   have HY:=Lib.hid hy
   clear hc hy
   by_cases he:x=y
   ·have HM:=Lib.hid (show x∈l by rw [he];exact List.mem_of_getElem? HY.out)
    obtain ⟨q1,q2⟩:=(⟨by rw [eq_str];exact decide_eq_true he,by rw [he]⟩:((str x).toList == (str y).toList)=true∧(str x).toList=(str y).toList)
    clear he
    go_wp2
    go_ret
    exact ⟨(k:Int),rfl,⟨fun _=>HM.out,fun _=>by omega⟩,rfl⟩
   ·have HNX:=Lib.hid (show x ∉ l.take (k+1) by rw [mem_take_succ HY.out];exact fun h=>h.elim HX.out he)
    obtain ⟨q1,q2⟩:=(⟨by rw [eq_str];exact decide_eq_false he,fun h=>he (by rw [str_toList,str_toList] at h;exact h)⟩:((str x).toList == (str y).toList)=false∧¬ (str x).toList=(str y).toList)
    clear he
    go_wp2
    go_roundw
    case rel=>exact ⟨k+1,by go_num,by omega,HNX.out,trivial⟩
    case measure=>simp [intOf];omega
  ·obtain rfl:k=n:=by omega
   go_wp2
   go_ret
   refine ⟨-1,rfl,⟨fun h=>by omega,fun h=>?_⟩,rfl⟩
   have:=HX.out
   rw [List.take_of_length_le (by rw [HN.out];exact Nat.le_refl _)] at this
   exact absurd h this
theorem contains_s (l:List Tx) (x:Tx) (v:Value) (w:World) (h:RdC w v l.length (flS l)) (hm:l.length≤maxLen):Calls Tryz.prog 127 #[v,.string (str x)] w fun e w'=>e=.returned (.bool (decide (x∈l)))∧w=w':=by
 have HI:=Lib.hid (index_s l x v w h hm)
 clear h hm
 go_enter Tryz.func127,Tryz.ntmps127
 go_wp2_with (go_at_call 150;((with_reducible refine HI.out.mono ?_);rintro e w2 ⟨i,rfl,hi,rfl⟩);have HJ:=Lib.hid hi;clear hi)
 go_ret
 have hb:decide (0≤i)=decide (x∈l):=decide_eq_decide.2 HJ.out
 exact ⟨by rw [←hb];rfl,rfl⟩
set_option maxRecDepth 100000 in
set_option maxHeartbeats 4000000 in
theorem distinct_s (l:List Tx) (v:Value) (w:World) (h:RdC w v l.length (flS l)) (hc:Cp v l.length):Calls Tryz.prog 101 #[v] w fun e w'=>e=.returned (.bool (decide l.Nodup))∧w=w':=by
 obtain ⟨p,c,rfl,hle,hcm⟩:=hc
 have HC:=Lib.hid (fun hk:0 < l.length=>h.at_ (size:=1) rfl hk)
 obtain ⟨n,hn⟩:∃ n,l.length=n:=⟨_,rfl⟩
 rw [hn] at hle HC ⊢
 have HN:=Lib.hid hn
 have hm2:n≤9223372036854775807:=by unfold maxLen at hcm;omega
 have HCM:=Lib.hid (And.intro hle hcm)
 have hz:∀ W,(sizeOf (Tryz.prog.elem 25)).run Tryz.prog W=.ok 1 W:=fun W=>by kernel_rfl
 have HZ:=Lib.hid hz
 clear h hn hcm hle hz
 go_enter Tryz.func101,Tryz.ntmps101
 go_wp2
 go_loopw [7] (fun s7 wr=>∃ k:Nat,s7=.int .i64 k∧k≤n∧Aside ((l.take k).Nodup)∧Aside (w=wr)) (fun s7 _=>n - (intOf s7).toNat)
 case atStart=>exact ⟨0,rfl,Nat.zero_le _,by show (l.take 0).Nodup;simp,rfl⟩
 case round =>
  obtain ⟨k,rfl,hk,hnx,hw⟩:=hrel
  have HX:=Lib.hid (show (l.take k).Nodup from hnx)
  have hw:w=wr:=hw
  subst hw
  clear hnx
  by_cases hkn:k < n
  ·obtain ⟨b,off,rfl,hb,hc⟩:=HC.out (by omega)
   obtain ⟨y,hy⟩:∃ y,l[k]?=some y:=⟨_,List.getElem?_eq_getElem (by rw [HN.out];exact hkn)⟩
   have c0:w.cell? ⟨b,off+k,none⟩=some (.string (str y)):=by
    have:=hc.elt (f:=cS) (k:=1) (fun _=>rfl) (j:=0) hy (by decide) rfl
    rwa [Nat.mul_one,Nat.add_zero] at this
   have HY:=Lib.hid hy
   have hsl:∀ W,(Instr.slice 25 (.slice (some ⟨b,off,none⟩) n c) none (some (.int .i64 (k:Int))) none).run Tryz.prog W=.ok (.slice (some ⟨b,off,none⟩) k c) W:=fun W=>by
    rw [run_slice_h W 25 (some ⟨b,off,none⟩) n c Tryz.underlying25 .i64 (k:Int) (by omega) (by have:=HCM.out.1;omega),HZ.out]
    unfold sliced
    simp [Addr.add_lit,Result.andThen]
   have hrd:RdC w (.slice (some ⟨b,off,none⟩) k c) (l.take k).length (flS (l.take k)):=by
    have hlk:(l.take k).length=k:=by rw [List.length_take,HN.out];omega
    rw [hlk]
    refine .inr ⟨b,off,c,rfl,hb,fun j u hj=>hc j u ?_⟩
    have e:flS l=flS (l.take k)++flS (l.drop k):=by rw [←flS_app,List.take_append_drop]
    have:(flS l)[j]?=some u:=by rw [e,List.getElem?_append_left (List.getElem?_eq_some_iff.1 hj).1];exact hj
    exact this
   have HCT:=Lib.hid (contains_s (l.take k) y _ w hrd (by rw [List.length_take,HN.out];unfold maxLen;omega))
   clear hc hy hrd
   by_cases he:y∈l.take k
   ·rw [decide_eq_true he] at HCT
    have HND:=Lib.hid (show decide l.Nodup=false from decide_eq_false fun h=>((nodup_take_succ HY.out).1 (h.sublist (List.take_sublist _ _))).2 he)
    clear he
    go_wp2_with (go_at_call 127;((with_reducible refine HCT.out.mono ?_);rintro e w2 ⟨rfl,rfl⟩))
    go_ret
    exact ⟨by rw [HND.out];rfl,rfl⟩
   ·rw [decide_eq_false he] at HCT
    have HND:=Lib.hid (show (l.take (k+1)).Nodup from (nodup_take_succ HY.out).2 ⟨HX.out,he⟩)
    clear he
    go_wp2_with (go_at_call 127;((with_reducible refine HCT.out.mono ?_);rintro e w2 ⟨rfl,rfl⟩))
    go_roundw
    case rel=>exact ⟨k+1,by go_num,by omega,HND.out,trivial⟩
    case measure=>simp [intOf];omega
  ·obtain rfl:k=n:=by omega
   have hnd:l.Nodup:=by
    have:=HX.out
    rwa [List.take_of_length_le (by rw [HN.out];exact Nat.le_refl _)] at this
   have HND:=Lib.hid hnd
   clear hnd
   go_wp2
   go_ret
   exact ⟨by rw [decide_eq_true HND.out];rfl,rfl⟩
set_option maxRecDepth 100000 in
set_option maxHeartbeats 4000000 in
theorem index_i (l:List Int) (x:Int) (v:Value) (w:World) (h:RdC w v l.length (flI l)) (hm:l.length≤maxLen):Calls Tryz.prog 149 #[v,.int .i64 x] w fun e w'=>∃ i:Int,e=.returned (.int .i64 i)∧(0≤i↔x∈l)∧w=w':=by
 obtain ⟨p,c,rfl⟩:=h.form
 have HC:=Lib.hid (fun hk:0 < l.length=>h.at_ (size:=1) rfl hk)
 obtain ⟨n,hn⟩:∃ n,l.length=n:=⟨_,rfl⟩
 rw [hn] at hm HC ⊢
 have HN:=Lib.hid hn
 have hm2:n≤9223372036854775807:=by unfold maxLen at hm;omega
 clear h hn hm
 go_enter Tryz.func149,Tryz.ntmps149
 go_wp2
 go_loopw [8] (fun s8 wr=>∃ k:Nat,s8=.int .i64 k∧k≤n∧Aside (x ∉ l.take k)∧Aside (w=wr)) (fun s8 _=>n - (intOf s8).toNat)
 case atStart=>exact ⟨0,rfl,Nat.zero_le _,by show x ∉ l.take 0;simp,rfl⟩
 case round =>
  obtain ⟨k,rfl,hk,hnx,hw⟩:=hrel
  have HX:=Lib.hid (show x ∉ l.take k from hnx)
  have hw:w=wr:=hw
  subst hw
  clear hnx
  by_cases hkn:k < n
  ·obtain ⟨b,off,rfl,hb,hc⟩:=HC.out (by omega)
   obtain ⟨y,hy⟩:∃ y,l[k]?=some y:=⟨_,List.getElem?_eq_getElem (by rw [HN.out];exact hkn)⟩
   have c0:w.cell? ⟨b,off+k,none⟩=some (.int .i64 y):=by
    have:=hc.elt (f:=cI) (k:=1) (fun _=>rfl) (j:=0) hy (by decide) rfl
    rwa [Nat.mul_one,Nat.add_zero] at this
   have HY:=Lib.hid hy
   clear hc hy
   by_cases he:x=y
   ·have HM:=Lib.hid (show x∈l by rw [he];exact List.mem_of_getElem? HY.out)
    have q1:(x == y)=true:=by rw [beq_iff_eq];exact he
    clear he
    go_wp2
    go_ret
    exact ⟨(k:Int),rfl,⟨fun _=>HM.out,fun _=>by omega⟩,rfl⟩
   ·have HNX:=Lib.hid (show x ∉ l.take (k+1) by rw [mem_take_succ HY.out];exact fun h=>h.elim HX.out he)
    have q1:(x == y)=false:=by rw [beq_eq_false_iff_ne];exact he
    clear he
    go_wp2
    go_roundw
    case rel=>exact ⟨k+1,by go_num,by omega,HNX.out,trivial⟩
    case measure=>simp [intOf];omega
  ·obtain rfl:k=n:=by omega
   go_wp2
   go_ret
   refine ⟨-1,rfl,⟨fun h=>by omega,fun h=>?_⟩,rfl⟩
   have:=HX.out
   rw [List.take_of_length_le (by rw [HN.out];exact Nat.le_refl _)] at this
   exact absurd h this
theorem contains_i (l:List Int) (x:Int) (v:Value) (w:World) (h:RdC w v l.length (flI l)) (hm:l.length≤maxLen):Calls Tryz.prog 126 #[v,.int .i64 x] w fun e w'=>e=.returned (.bool (decide (x∈l)))∧w=w':=by
 have HI:=Lib.hid (index_i l x v w h hm)
 clear h hm
 go_enter Tryz.func126,Tryz.ntmps126
 go_wp2_with (go_at_call 149;((with_reducible refine HI.out.mono ?_);rintro e w2 ⟨i,rfl,hi,rfl⟩);have HJ:=Lib.hid hi;clear hi)
 go_ret
 have hb:decide (0≤i)=decide (x∈l):=decide_eq_decide.2 HJ.out
 exact ⟨by rw [←hb];rfl,rfl⟩
set_option maxRecDepth 100000 in
set_option maxHeartbeats 4000000 in
theorem distinct_i (l:List Int) (v:Value) (w:World) (h:RdC w v l.length (flI l)) (hc:Cp v l.length):Calls Tryz.prog 100 #[v] w fun e w'=>e=.returned (.bool (decide l.Nodup))∧w=w':=by
 obtain ⟨p,c,rfl,hle,hcm⟩:=hc
 have HC:=Lib.hid (fun hk:0 < l.length=>h.at_ (size:=1) rfl hk)
 obtain ⟨n,hn⟩:∃ n,l.length=n:=⟨_,rfl⟩
 rw [hn] at hle HC ⊢
 have HN:=Lib.hid hn
 have hm2:n≤9223372036854775807:=by unfold maxLen at hcm;omega
 have HCM:=Lib.hid (And.intro hle hcm)
 have hz:∀ W,(sizeOf (Tryz.prog.elem 120)).run Tryz.prog W=.ok 1 W:=fun W=>by kernel_rfl
 have HZ:=Lib.hid hz
 clear h hn hcm hle hz
 go_enter Tryz.func100,Tryz.ntmps100
 go_wp2
 go_loopw [7] (fun s7 wr=>∃ k:Nat,s7=.int .i64 k∧k≤n∧Aside ((l.take k).Nodup)∧Aside (w=wr)) (fun s7 _=>n - (intOf s7).toNat)
 case atStart=>exact ⟨0,rfl,Nat.zero_le _,by show (l.take 0).Nodup;simp,rfl⟩
 case round =>
  obtain ⟨k,rfl,hk,hnx,hw⟩:=hrel
  have HX:=Lib.hid (show (l.take k).Nodup from hnx)
  have hw:w=wr:=hw
  subst hw
  clear hnx
  by_cases hkn:k < n
  ·obtain ⟨b,off,rfl,hb,hc⟩:=HC.out (by omega)
   obtain ⟨y,hy⟩:∃ y,l[k]?=some y:=⟨_,List.getElem?_eq_getElem (by rw [HN.out];exact hkn)⟩
   have c0:w.cell? ⟨b,off+k,none⟩=some (.int .i64 y):=by
    have:=hc.elt (f:=cI) (k:=1) (fun _=>rfl) (j:=0) hy (by decide) rfl
    rwa [Nat.mul_one,Nat.add_zero] at this
   have HY:=Lib.hid hy
   have hsl:∀ W,(Instr.slice 120 (.slice (some ⟨b,off,none⟩) n c) none (some (.int .i64 (k:Int))) none).run Tryz.prog W=.ok (.slice (some ⟨b,off,none⟩) k c) W:=fun W=>by
    rw [run_slice_h W 120 (some ⟨b,off,none⟩) n c Tryz.underlying120 .i64 (k:Int) (by omega) (by have:=HCM.out.1;omega),HZ.out]
    unfold sliced
    simp [Addr.add_lit,Result.andThen]
   have hrd:RdC w (.slice (some ⟨b,off,none⟩) k c) (l.take k).length (flI (l.take k)):=by
    have hlk:(l.take k).length=k:=by rw [List.length_take,HN.out];omega
    rw [hlk]
    refine .inr ⟨b,off,c,rfl,hb,fun j u hj=>hc j u ?_⟩
    have e:flI l=flI (l.take k)++flI (l.drop k):=by rw [←flI_app,List.take_append_drop]
    have:(flI l)[j]?=some u:=by rw [e,List.getElem?_append_left (List.getElem?_eq_some_iff.1 hj).1];exact hj
    exact this
   have HCT:=Lib.hid (contains_i (l.take k) y _ w hrd (by rw [List.length_take,HN.out];unfold maxLen;omega))
   clear hc hy hrd
   by_cases he:y∈l.take k
   ·rw [decide_eq_true he] at HCT
    have HND:=Lib.hid (show decide l.Nodup=false from decide_eq_false fun h=>((nodup_take_succ HY.out).1 (h.sublist (List.take_sublist _ _))).2 he)
    clear he
    go_wp2_with (go_at_call 126;((with_reducible refine HCT.out.mono ?_);rintro e w2 ⟨rfl,rfl⟩))
    go_ret
    exact ⟨by rw [HND.out];rfl,rfl⟩
   ·rw [decide_eq_false he] at HCT
    have HND:=Lib.hid (show (l.take (k+1)).Nodup from (nodup_take_succ HY.out).2 ⟨HX.out,he⟩)
    clear he
    go_wp2_with (go_at_call 126;((with_reducible refine HCT.out.mono ?_);rintro e w2 ⟨rfl,rfl⟩))
    go_roundw
    case rel=>exact ⟨k+1,by go_num,by omega,HND.out,trivial⟩
    case measure=>simp [intOf];omega
  ·obtain rfl:k=n:=by omega
   have hnd:l.Nodup:=by
    have:=HX.out
    rwa [List.take_of_length_le (by rw [HN.out];exact Nat.le_refl _)] at this
   have HND:=Lib.hid hnd
   clear hnd
   go_wp2
   go_ret
   exact ⟨by rw [decide_eq_true HND.out];rfl,rfl⟩
end Go.Proofs.YtekcjfdllclphaaGreatDoor.gn
end
section
namespace Go.Proofs.YtekcjfdllclphaaGreatDoor.gn
open Go.RowKit
open Go.Proofs.YtekcjfdllclphaaGreatDoor.un
open Go.Proofs.YtekcjfdllclphaaGreatDoor.di
open Go.Proofs.YtekcjfdllclphaaGreatDoor.sp (Slip)
theorem dep_dec (d e:Dep):decide (d=e)=(d.1 == e.1 && d.2 == e.2):=by
 rw [Bool.eq_iff_iff]
 obtain ⟨a,b⟩:=d
 obtain ⟨c,f⟩:=e
 simp
set_option maxRecDepth 100000 in
theorem dep_eqIn (d e:Dep) (W:World):(Op.equalIn 10000 88 (.agg #[.int .i64 d.1,.bool d.2]) (.agg #[.int .i64 e.1,.bool e.2])).run Tryz.prog W=.ok (decide (d=e)) W:=by
 rw [dep_dec,run_equalIn_agg W 9999 88 #[.int .i64 d.1,.bool d.2] #[.int .i64 e.1,.bool e.2] (by kernel_rfl) (by kernel_rfl)]
 unfold Program.fieldsOf
 rw [Tryz.underlying88]
 simp [Op.eqFields,go_sem,Tryz.underlying2,Tryz.underlying4]
 by_cases h1:d.1=e.1 <;> by_cases h2:d.2=e.2 <;> simp [h1,h2]
theorem dep_ne (d e:Dep) (W:World):(binOp .neq 88 (.agg #[.int .i64 d.1,.bool d.2]) (.agg #[.int .i64 e.1,.bool e.2])).run Tryz.prog W=.ok (.bool (!decide (d=e))) W:=by
 rw [run_neq_struct,dep_eqIn]
 rfl
theorem take_same {α:Type} {l m:List α} {k:Nat} {x y:α} (hx:l[k]?=some x) (hy:m[k]?=some y) (he:x=y) (h:l.take k=m.take k):l.take (k+1)=m.take (k+1):=by
 rw [take_snoc hx,take_snoc hy,h,he]
theorem ne_at {α:Type} {l m:List α} {k:Nat} {x y:α} (hx:l[k]?=some x) (hy:m[k]?=some y) (he:¬ x=y):¬ l=m:=fun e=>he (by rw [e,hy] at hx;exact (Option.some.inj hx).symm)
set_option maxRecDepth 100000 in
set_option maxHeartbeats 4000000 in
theorem equal_A (l m:List Dep) (v u:Value) (w:World) (h:RdC w v l.length (flA l)) (h':RdC w u m.length (flA m)) (hm:l.length≤maxLen) (hm':m.length≤maxLen):Calls Tryz.prog 62 #[v,u] w (Told (.bool (decide (l=m))) w):=by
 obtain ⟨p,c,rfl⟩:=h.form
 obtain ⟨p',c',rfl⟩:=h'.form
 have HC:=Lib.hid (fun hk:0 < l.length=>h.at_ (size:=2) rfl hk)
 have HC':=Lib.hid (fun hk:0 < m.length=>h'.at_ (size:=2) rfl hk)
 by_cases hlen:l.length=m.length
 ·obtain ⟨n,hn⟩:∃ n,l.length=n:=⟨_,rfl⟩
  have hn':m.length=n:=hlen ▸ hn
  rw [hn] at hm HC ⊢
  rw [hn'] at HC' ⊢
  have HN:=Lib.hid hn
  have HN':=Lib.hid hn'
  have hm2:n≤9223372036854775807:=by unfold maxLen at hm;omega
  clear h h' hn hn' hm hm' hlen
  go_enter Tryz.func62,Tryz.ntmps62
  go_wp2
  go_loopw [13] (fun s13 wr=>∃ k:Nat,s13=.int .i64 k∧k≤n∧Aside (l.take k=m.take k)∧Aside (Below w.heap.size w wr)) (fun s13 _=>n - (intOf s13).toNat)
  case atStart=>exact ⟨0,rfl,Nat.zero_le _,by show l.take 0=m.take 0;simp,Below.refl _ _⟩
  case round =>
   obtain ⟨k,rfl,hk,hnx,hb⟩:=hrel
   have HX:=Lib.hid (show l.take k=m.take k from hnx)
   have hb:Below w.heap.size w wr:=hb
   have HB:=Lib.hid hb
   clear hnx
   by_cases hkn:k < n
   ·obtain ⟨b,off,rfl,hbl,hc⟩:=HC.out (by omega)
    obtain ⟨b',off',rfl,hbl',hc'⟩:=HC'.out (by omega)
    obtain ⟨x,hx⟩:∃ x,l[k]?=some x:=⟨_,List.getElem?_eq_getElem (by rw [HN.out];exact hkn)⟩
    obtain ⟨y,hy⟩:∃ y,m[k]?=some y:=⟨_,List.getElem?_eq_getElem (by rw [HN'.out];exact hkn)⟩
    have c0:wr.cell? ⟨b,off+k * 2,none⟩=some (.int .i64 x.1):=by
     have:=(Below.cell hb (p:=⟨b,off+(k * 2+0),none⟩) hbl).trans (hc.elt (f:=cA) (k:=2) (fun _=>rfl) (j:=0) hx (by decide) rfl)
     first | exact this | (rw [←Nat.add_assoc] at this;exact this) | (rw [Nat.mul_one,Nat.add_zero] at this;exact this)
    have c1:wr.cell? ⟨b,off+k * 2+1,none⟩=some (.bool x.2):=by
     have:=(Below.cell hb (p:=⟨b,off+(k * 2+1),none⟩) hbl).trans (hc.elt (f:=cA) (k:=2) (fun _=>rfl) (j:=1) hx (by decide) rfl)
     first | exact this | (rw [←Nat.add_assoc] at this;exact this) | (rw [Nat.mul_one,Nat.add_zero] at this;exact this)
    have d0:wr.cell? ⟨b',off'+k * 2,none⟩=some (.int .i64 y.1):=by
     have:=(Below.cell hb (p:=⟨b',off'+(k * 2+0),none⟩) hbl').trans (hc'.elt (f:=cA) (k:=2) (fun _=>rfl) (j:=0) hy (by decide) rfl)
     first | exact this | (rw [←Nat.add_assoc] at this;exact this) | (rw [Nat.mul_one,Nat.add_zero] at this;exact this)
    have d1:wr.cell? ⟨b',off'+k * 2+1,none⟩=some (.bool y.2):=by
     have:=(Below.cell hb (p:=⟨b',off'+(k * 2+1),none⟩) hbl').trans (hc'.elt (f:=cA) (k:=2) (fun _=>rfl) (j:=1) hy (by decide) rfl)
     first | exact this | (rw [←Nat.add_assoc] at this;exact this) | (rw [Nat.mul_one,Nat.add_zero] at this;exact this)
    have HY:=Lib.hid (And.intro hx hy)
    have hbw:b < wr.heap.size:=Nat.lt_of_lt_of_le hbl hb.size
    have hbw':b' < wr.heap.size:=Nat.lt_of_lt_of_le hbl' hb.size
    clear hc hc' hx hy hbl hbl' hb
    by_cases he:x=y
    ·have HM:=Lib.hid (take_same HY.out.1 HY.out.2 he HX.out)
     have q1:∀ W,(binOp .neq 88 (.agg #[.int .i64 x.1,.bool x.2]) (.agg #[.int .i64 y.1,.bool y.2])).run Tryz.prog W=.ok (.bool false) W:=fun W=>by rw [dep_ne,decide_eq_true he];rfl
     clear he
     go_wp2_with (go_quiet (fail))
     go_roundw
     case rel=>exact ⟨k+1,by go_num,by omega,HM.out,HB.out.trans (Joins.below_draws _ _ _)⟩
     case measure=>simp [intOf];omega
    ·have HM:=Lib.hid (ne_at HY.out.1 HY.out.2 he)
     have q1:∀ W,(binOp .neq 88 (.agg #[.int .i64 x.1,.bool x.2]) (.agg #[.int .i64 y.1,.bool y.2])).run Tryz.prog W=.ok (.bool true) W:=fun W=>by rw [dep_ne,decide_eq_false he];rfl
     clear he
     go_wp2_with (go_quiet (fail))
     go_ret
     exact ⟨by rw [decide_eq_false HM.out];rfl,HB.out.trans (Joins.below_draws _ _ _)⟩
   ·obtain rfl:k=n:=by omega
    have hfin:l=m:=by
     have:=HX.out
     rwa [List.take_of_length_le (by rw [HN.out];exact Nat.le_refl _),List.take_of_length_le (by rw [HN'.out];exact Nat.le_refl _)] at this
    have HF:=Lib.hid hfin
    clear hfin hb
    go_wp2
    go_ret
    exact ⟨by rw [decide_eq_true HF.out];rfl,HB.out⟩
 ·have HF:=Lib.hid (show ¬ l=m from fun e=>hlen (by rw [e]))
  have hne:¬ ((l.length:Nat):Int)=((m.length:Nat):Int):=by omega
  have hnb:(((l.length:Nat):Int) == ((m.length:Nat):Int))=false:=by rw [beq_eq_false_iff_ne];exact hne
  clear h h' hlen
  generalize l.length=n1 at *
  generalize m.length=n2 at *
  go_enter Tryz.func62,Tryz.ntmps62
  go_wp2
  go_ret
  exact ⟨by rw [decide_eq_false HF.out];rfl,Below.refl _ _⟩
set_option maxRecDepth 100000 in
set_option maxHeartbeats 4000000 in
theorem equal_M (l m:List Dir) (v u:Value) (w:World) (h:RdC w v l.length (flM l)) (h':RdC w u m.length (flM m)) (hm:l.length≤maxLen) (hm':m.length≤maxLen):Calls Tryz.prog 63 #[v,u] w (Told (.bool (decide (l=m))) w):=by
 obtain ⟨p,c,rfl⟩:=h.form
 obtain ⟨p',c',rfl⟩:=h'.form
 have HC:=Lib.hid (fun hk:0 < l.length=>h.at_ (size:=5) rfl hk)
 have HC':=Lib.hid (fun hk:0 < m.length=>h'.at_ (size:=5) rfl hk)
 by_cases hlen:l.length=m.length
 ·obtain ⟨n,hn⟩:∃ n,l.length=n:=⟨_,rfl⟩
  have hn':m.length=n:=hlen ▸ hn
  rw [hn] at hm HC ⊢
  rw [hn'] at HC' ⊢
  have HN:=Lib.hid hn
  have HN':=Lib.hid hn'
  have hm2:n≤9223372036854775807:=by unfold maxLen at hm;omega
  clear h h' hn hn' hm hm' hlen
  go_enter Tryz.func63,Tryz.ntmps63
  go_wp2
  go_loopw [13] (fun s13 wr=>∃ k:Nat,s13=.int .i64 k∧k≤n∧Aside (l.take k=m.take k)∧Aside (Below w.heap.size w wr)) (fun s13 _=>n - (intOf s13).toNat)
  case atStart=>exact ⟨0,rfl,Nat.zero_le _,by show l.take 0=m.take 0;simp,Below.refl _ _⟩
  case round =>
   obtain ⟨k,rfl,hk,hnx,hb⟩:=hrel
   have HX:=Lib.hid (show l.take k=m.take k from hnx)
   have hb:Below w.heap.size w wr:=hb
   have HB:=Lib.hid hb
   clear hnx
   by_cases hkn:k < n
   ·obtain ⟨b,off,rfl,hbl,hc⟩:=HC.out (by omega)
    obtain ⟨b',off',rfl,hbl',hc'⟩:=HC'.out (by omega)
    obtain ⟨x,hx⟩:∃ x,l[k]?=some x:=⟨_,List.getElem?_eq_getElem (by rw [HN.out];exact hkn)⟩
    obtain ⟨y,hy⟩:∃ y,m[k]?=some y:=⟨_,List.getElem?_eq_getElem (by rw [HN'.out];exact hkn)⟩
    have c0:wr.cell? ⟨b,off+k * 5,none⟩=some (.int .u8 (x.kind:Nat)):=by
     have:=(Below.cell hb (p:=⟨b,off+(k * 5+0),none⟩) hbl).trans (hc.elt (f:=cM) (k:=5) (fun _=>rfl) (j:=0) hx (by decide) rfl)
     first | exact this | (rw [←Nat.add_assoc] at this;exact this) | (rw [Nat.mul_one,Nat.add_zero] at this;exact this)
    have c1:wr.cell? ⟨b,off+k * 5+1,none⟩=some (.string (str x.name)):=by
     have:=(Below.cell hb (p:=⟨b,off+(k * 5+1),none⟩) hbl).trans (hc.elt (f:=cM) (k:=5) (fun _=>rfl) (j:=1) hx (by decide) rfl)
     first | exact this | (rw [←Nat.add_assoc] at this;exact this) | (rw [Nat.mul_one,Nat.add_zero] at this;exact this)
    have c2:wr.cell? ⟨b,off+k * 5+2,none⟩=some (.string (str x.pool)):=by
     have:=(Below.cell hb (p:=⟨b,off+(k * 5+2),none⟩) hbl).trans (hc.elt (f:=cM) (k:=5) (fun _=>rfl) (j:=2) hx (by decide) rfl)
     first | exact this | (rw [←Nat.add_assoc] at this;exact this) | (rw [Nat.mul_one,Nat.add_zero] at this;exact this)
    have c3:wr.cell? ⟨b,off+k * 5+3,none⟩=some (.int .i64 x.size):=by
     have:=(Below.cell hb (p:=⟨b,off+(k * 5+3),none⟩) hbl).trans (hc.elt (f:=cM) (k:=5) (fun _=>rfl) (j:=3) hx (by decide) rfl)
     first | exact this | (rw [←Nat.add_assoc] at this;exact this) | (rw [Nat.mul_one,Nat.add_zero] at this;exact this)
    have c4:wr.cell? ⟨b,off+k * 5+4,none⟩=some (.bool x.opn):=by
     have:=(Below.cell hb (p:=⟨b,off+(k * 5+4),none⟩) hbl).trans (hc.elt (f:=cM) (k:=5) (fun _=>rfl) (j:=4) hx (by decide) rfl)
     first | exact this | (rw [←Nat.add_assoc] at this;exact this) | (rw [Nat.mul_one,Nat.add_zero] at this;exact this)
    have d0:wr.cell? ⟨b',off'+k * 5,none⟩=some (.int .u8 (y.kind:Nat)):=by
     have:=(Below.cell hb (p:=⟨b',off'+(k * 5+0),none⟩) hbl').trans (hc'.elt (f:=cM) (k:=5) (fun _=>rfl) (j:=0) hy (by decide) rfl)
     first | exact this | (rw [←Nat.add_assoc] at this;exact this) | (rw [Nat.mul_one,Nat.add_zero] at this;exact this)
    have d1:wr.cell? ⟨b',off'+k * 5+1,none⟩=some (.string (str y.name)):=by
     have:=(Below.cell hb (p:=⟨b',off'+(k * 5+1),none⟩) hbl').trans (hc'.elt (f:=cM) (k:=5) (fun _=>rfl) (j:=1) hy (by decide) rfl)
     first | exact this | (rw [←Nat.add_assoc] at this;exact this) | (rw [Nat.mul_one,Nat.add_zero] at this;exact this)
    have d2:wr.cell? ⟨b',off'+k * 5+2,none⟩=some (.string (str y.pool)):=by
     have:=(Below.cell hb (p:=⟨b',off'+(k * 5+2),none⟩) hbl').trans (hc'.elt (f:=cM) (k:=5) (fun _=>rfl) (j:=2) hy (by decide) rfl)
     first | exact this | (rw [←Nat.add_assoc] at this;exact this) | (rw [Nat.mul_one,Nat.add_zero] at this;exact this)
    have d3:wr.cell? ⟨b',off'+k * 5+3,none⟩=some (.int .i64 y.size):=by
     have:=(Below.cell hb (p:=⟨b',off'+(k * 5+3),none⟩) hbl').trans (hc'.elt (f:=cM) (k:=5) (fun _=>rfl) (j:=3) hy (by decide) rfl)
     first | exact this | (rw [←Nat.add_assoc] at this;exact this) | (rw [Nat.mul_one,Nat.add_zero] at this;exact this)
    have d4:wr.cell? ⟨b',off'+k * 5+4,none⟩=some (.bool y.opn):=by
     have:=(Below.cell hb (p:=⟨b',off'+(k * 5+4),none⟩) hbl').trans (hc'.elt (f:=cM) (k:=5) (fun _=>rfl) (j:=4) hy (by decide) rfl)
     first | exact this | (rw [←Nat.add_assoc] at this;exact this) | (rw [Nat.mul_one,Nat.add_zero] at this;exact this)
    have HY:=Lib.hid (And.intro hx hy)
    have hbw:b < wr.heap.size:=Nat.lt_of_lt_of_le hbl hb.size
    have hbw':b' < wr.heap.size:=Nat.lt_of_lt_of_le hbl' hb.size
    clear hc hc' hx hy hbl hbl' hb
    by_cases he:x=y
    ·have HM:=Lib.hid (take_same HY.out.1 HY.out.2 he HX.out)
     have q1:∀ W,(binOp .neq 80 (.agg #[.int .u8 (x.kind:Nat),.string (str x.name),.string (str x.pool),.int .i64 x.size,.bool x.opn]) (.agg #[.int .u8 (y.kind:Nat),.string (str y.name),.string (str y.pool),.int .i64 y.size,.bool y.opn])).run Tryz.prog W=.ok (.bool false) W:=fun W=>(dir_ne x y W).trans (by rw [decide_eq_true he];rfl)
     clear he
     go_wp2_with (go_quiet (fail))
     go_roundw
     case rel=>exact ⟨k+1,by go_num,by omega,HM.out,HB.out.trans (Joins.below_draws _ _ _)⟩
     case measure=>simp [intOf];omega
    ·have HM:=Lib.hid (ne_at HY.out.1 HY.out.2 he)
     have q1:∀ W,(binOp .neq 80 (.agg #[.int .u8 (x.kind:Nat),.string (str x.name),.string (str x.pool),.int .i64 x.size,.bool x.opn]) (.agg #[.int .u8 (y.kind:Nat),.string (str y.name),.string (str y.pool),.int .i64 y.size,.bool y.opn])).run Tryz.prog W=.ok (.bool true) W:=fun W=>(dir_ne x y W).trans (by rw [decide_eq_false he];rfl)
     clear he
     go_wp2_with (go_quiet (fail))
     go_ret
     exact ⟨by rw [decide_eq_false HM.out];rfl,HB.out.trans (Joins.below_draws _ _ _)⟩
   ·obtain rfl:k=n:=by omega
    have hfin:l=m:=by
     have:=HX.out
     rwa [List.take_of_length_le (by rw [HN.out];exact Nat.le_refl _),List.take_of_length_le (by rw [HN'.out];exact Nat.le_refl _)] at this
    have HF:=Lib.hid hfin
    clear hfin hb
    go_wp2
    go_ret
    exact ⟨by rw [decide_eq_true HF.out];rfl,HB.out⟩
 ·have HF:=Lib.hid (show ¬ l=m from fun e=>hlen (by rw [e]))
  have hne:¬ ((l.length:Nat):Int)=((m.length:Nat):Int):=by omega
  have hnb:(((l.length:Nat):Int) == ((m.length:Nat):Int))=false:=by rw [beq_eq_false_iff_ne];exact hne
  clear h h' hlen
  generalize l.length=n1 at *
  generalize m.length=n2 at *
  go_enter Tryz.func63,Tryz.ntmps63
  go_wp2
  go_ret
  exact ⟨by rw [decide_eq_false HF.out];rfl,Below.refl _ _⟩
set_option maxRecDepth 100000 in
set_option maxHeartbeats 4000000 in
theorem equal_S (l m:List Tx) (v u:Value) (w:World) (h:RdC w v l.length (flS l)) (h':RdC w u m.length (flS m)) (hm:l.length≤maxLen) (hm':m.length≤maxLen):Calls Tryz.prog 64 #[v,u] w (Told (.bool (decide (l=m))) w):=by
 obtain ⟨p,c,rfl⟩:=h.form
 obtain ⟨p',c',rfl⟩:=h'.form
 have HC:=Lib.hid (fun hk:0 < l.length=>h.at_ (size:=1) rfl hk)
 have HC':=Lib.hid (fun hk:0 < m.length=>h'.at_ (size:=1) rfl hk)
 by_cases hlen:l.length=m.length
 ·obtain ⟨n,hn⟩:∃ n,l.length=n:=⟨_,rfl⟩
  have hn':m.length=n:=hlen ▸ hn
  rw [hn] at hm HC ⊢
  rw [hn'] at HC' ⊢
  have HN:=Lib.hid hn
  have HN':=Lib.hid hn'
  have hm2:n≤9223372036854775807:=by unfold maxLen at hm;omega
  clear h h' hn hn' hm hm' hlen
  go_enter Tryz.func64,Tryz.ntmps64
  go_wp2
  go_loopw [13] (fun s13 wr=>∃ k:Nat,s13=.int .i64 k∧k≤n∧Aside (l.take k=m.take k)∧Aside (Below w.heap.size w wr)) (fun s13 _=>n - (intOf s13).toNat)
  case atStart=>exact ⟨0,rfl,Nat.zero_le _,by show l.take 0=m.take 0;simp,Below.refl _ _⟩
  case round =>
   obtain ⟨k,rfl,hk,hnx,hb⟩:=hrel
   have HX:=Lib.hid (show l.take k=m.take k from hnx)
   have hb:Below w.heap.size w wr:=hb
   have HB:=Lib.hid hb
   clear hnx
   by_cases hkn:k < n
   ·obtain ⟨b,off,rfl,hbl,hc⟩:=HC.out (by omega)
    obtain ⟨b',off',rfl,hbl',hc'⟩:=HC'.out (by omega)
    obtain ⟨x,hx⟩:∃ x,l[k]?=some x:=⟨_,List.getElem?_eq_getElem (by rw [HN.out];exact hkn)⟩
    obtain ⟨y,hy⟩:∃ y,m[k]?=some y:=⟨_,List.getElem?_eq_getElem (by rw [HN'.out];exact hkn)⟩
    have c0:wr.cell? ⟨b,off+k,none⟩=some (.string (str x)):=by
     have:=(Below.cell hb (p:=⟨b,off+(k * 1+0),none⟩) hbl).trans (hc.elt (f:=cS) (k:=1) (fun _=>rfl) (j:=0) hx (by decide) rfl)
     first | exact this | (rw [←Nat.add_assoc] at this;exact this) | (rw [Nat.mul_one,Nat.add_zero] at this;exact this)
    have d0:wr.cell? ⟨b',off'+k,none⟩=some (.string (str y)):=by
     have:=(Below.cell hb (p:=⟨b',off'+(k * 1+0),none⟩) hbl').trans (hc'.elt (f:=cS) (k:=1) (fun _=>rfl) (j:=0) hy (by decide) rfl)
     first | exact this | (rw [←Nat.add_assoc] at this;exact this) | (rw [Nat.mul_one,Nat.add_zero] at this;exact this)
    have HY:=Lib.hid (And.intro hx hy)
    have hbw:b < wr.heap.size:=Nat.lt_of_lt_of_le hbl hb.size
    have hbw':b' < wr.heap.size:=Nat.lt_of_lt_of_le hbl' hb.size
    clear hc hc' hx hy hbl hbl' hb
    by_cases he:x=y
    ·have HM:=Lib.hid (take_same HY.out.1 HY.out.2 he HX.out)
     obtain ⟨q1,q2⟩:=(⟨by rw [eq_str];exact decide_eq_true he,by rw [he]⟩:((str x).toList == (str y).toList)=true∧(str x).toList=(str y).toList)
     clear he
     go_wp2_with (go_quiet (fail))
     go_roundw
     case rel=>exact ⟨k+1,by go_num,by omega,HM.out,HB.out.trans (Joins.below_draws _ _ _)⟩
     case measure=>simp [intOf];omega
    ·have HM:=Lib.hid (ne_at HY.out.1 HY.out.2 he)
     obtain ⟨q1,q2⟩:=(⟨by rw [eq_str];exact decide_eq_false he,fun h=>he (by rw [str_toList,str_toList] at h;exact h)⟩:((str x).toList == (str y).toList)=false∧¬ (str x).toList=(str y).toList)
     clear he
     go_wp2_with (go_quiet (fail))
     go_ret
     exact ⟨by rw [decide_eq_false HM.out];rfl,HB.out.trans (Joins.below_draws _ _ _)⟩
   ·obtain rfl:k=n:=by omega
    have hfin:l=m:=by
     have:=HX.out
     rwa [List.take_of_length_le (by rw [HN.out];exact Nat.le_refl _),List.take_of_length_le (by rw [HN'.out];exact Nat.le_refl _)] at this
    have HF:=Lib.hid hfin
    clear hfin hb
    go_wp2
    go_ret
    exact ⟨by rw [decide_eq_true HF.out];rfl,HB.out⟩
 ·have HF:=Lib.hid (show ¬ l=m from fun e=>hlen (by rw [e]))
  have hne:¬ ((l.length:Nat):Int)=((m.length:Nat):Int):=by omega
  have hnb:(((l.length:Nat):Int) == ((m.length:Nat):Int))=false:=by rw [beq_eq_false_iff_ne];exact hne
  clear h h' hlen
  generalize l.length=n1 at *
  generalize m.length=n2 at *
  go_enter Tryz.func64,Tryz.ntmps64
  go_wp2
  go_ret
  exact ⟨by rw [decide_eq_false HF.out];rfl,Below.refl _ _⟩
end Go.Proofs.YtekcjfdllclphaaGreatDoor.gn
end
