/- The document's Parse of an order: up to the loop over its words. (Written by gen_orPe.py.) -/
import Derived.Test.YtekcjfdllclphaaGreatDoorMQbOrPd
import Derived.Test.YtekcjfdllclphaaGreatDoorMQbOrPl
import Derived.Test.YtekcjfdllclphaaGreatDoorMQbGenLoad
import Derived.Test.YtekcjfdllclphaaGreatDoorMQbOrHd
import Derived.Deep.DeepCutAuto
import Derived.Deep.CutBlock
set_option linter.unusedVariables false
set_option linter.unusedSimpArgs false
section
namespace Go.Proofs.YtekcjfdllclphaaGreatDoor.gn
open Go.RowKit
open Go.Proofs.YtekcjfdllclphaaGreatDoor.un
open Go.Proofs.YtekcjfdllclphaaGreatDoor.di
open Go.Proofs.YtekcjfdllclphaaGreatDoor.sp (Slip sread cuts cuts_ne cuts_lens joinC joinC_snoc jobW userK okW)
open Go.Proofs.YtekcjfdllclphaaGreatDoor.od (Ord oread subL wordO kindO? kindO_word kindO_some dorun dput DO nK resK chkO txtO)
structure DQ (w:World) (bt gp bo:Nat) (L:List Tx) (o:Ord) (W:World):Prop where
 low:Below w.heap.size w W
 p:BoxA W w.heap.size 29 zO
 s:BoxA W (w.heap.size+1) 32 #[.int .i64 0,.int .i64 0]
 t:BoxA W bt 32 #[.int .i64 160,.int .i64 1]
 ws:Prts W gp 0 L
 o:OrdB W bo o g0
 bd:w.heap.size+1 < bt∧bt < bo∧gp < bo
theorem DQ.next {w W W':World} {bt gp bo:Nat} {L:List Tx} {o:Ord} (h:DQ w bt gp bo L o W) (hb:Below W.heap.size W W'):DQ w bt gp bo L o W' :=
 ⟨h.low.trans (hb.mono h.low.size),h.p.next hb,h.s.next hb,h.t.next hb,h.ws.next hb,h.o.next hb,h.bd⟩
theorem DQ.put {w W W':World} {bt gp bo:Nat} {L:List Tx} {o o':Ord} (h:DQ w bt gp bo L o W) (hb:But bo W W') (ho:OrdB W' bo o' g0):DQ w bt gp bo L o' W':=by
 have:=h.bd
 exact ⟨h.low.grown hb h.low.size (fun j hj=>by cases hj;omega),BoxA.but h.p hb (by omega),BoxA.but h.s hb (by omega),BoxA.but h.t hb (by omega),h.ws.but hb (by omega),ho,h.bd⟩
def KD (x:Tx) (k j:Nat):Prop:=(j=0∧∀ i,1≤i→i < k→i≠2→wordO i≠x)∨(1≤j∧j < k∧j≠2∧wordO j=x)
theorem KD.yes {x:Tx} {k j:Nat} (hk:1≤k) (h2:k≠2) (hx:wordO k=x):KD x (k+1) k:=.inr ⟨hk,by omega,h2,hx⟩
theorem KD.no {x:Tx} {k j:Nat} (h:KD x k j) (hx:¬ (wordO k=x∧k≠2)):KD x (k+1) j:=by
 rcases h with ⟨h0,h⟩ | ⟨a,b,c,d⟩
 ·refine .inl ⟨h0,fun i h1 h2 h3 e=>?_⟩
  rcases Nat.lt_or_ge i k with hi | hi
  ·exact h i h1 hi h3 e
  ·obtain rfl:i=k:=by omega
   exact hx ⟨e,h3⟩
 ·exact .inr ⟨a,by omega,c,d⟩
theorem KD.fin {x:Tx} {j:Nat} (h:KD x 19 j):(j=0∧kindO? x=none)∨((1≤j∧j≤18)∧j≠2∧wordO j=x∧kindO? x=some j):=by
 rcases h with ⟨h0,h⟩ | ⟨a,b,c,d⟩
 ·refine .inl ⟨h0,?_⟩
  cases hk:kindO? x with
  | none=>rfl
  | some k =>
   obtain ⟨h1,h2,h3⟩:=kindO_some hk
   exact absurd h3.symm (h k h1.1 (by omega) h2)
 ·exact .inr ⟨⟨a,by omega⟩,c,d,by rw [←d];exact kindO_word ⟨a,by omega⟩ c⟩
theorem at_put {W:World} {b j k:Nat} (h:OrdB W b (Ord.at j) g0):OrdB (W.setCell ⟨b,0,none⟩ (.int .u8 (k:Nat))) b (Ord.at k) g0:=by
 have:=BoxA.set h 0 (.int .u8 (k:Nat))
 exact this
theorem take_while {x:Tx} {j:Nat} (h:(61:UInt8) ∉ x.take j) (hj:j < x.length) (hb:x[j]=61):x.take j=x.takeWhile (fun c=>c≠61):=by
 have hd:x=x.take j++61::x.drop (j+1):=by rw [←hb,← List.drop_eq_getElem_cons hj,List.take_append_drop]
 have hc:cut x=some (x.take j,x.drop (j+1)):=by
  have:=cut_at (x.take j) (x.drop (j+1)) h
  rwa [←hd] at this
 exact (cut_key hc).symm
theorem not_take2 {x:Tx} {j:Nat} (h:(61:UInt8) ∉ x.take j) (hj:j < x.length) (hb:¬ x[j]=61):(61:UInt8) ∉ x.take (j+1):=by
 rw [List.take_add_one,List.getElem?_eq_getElem hj,List.mem_append]
 rintro (h1 | h1)
 ·exact h h1
 ·have:(61:UInt8)=x[j]:=by simpa using h1
  exact hb this.symm
theorem take_whole {x:Tx} {j:Nat} (h:(61:UInt8) ∉ x.take j) (hj:x.length≤j):x.take j=x.takeWhile (fun c=>c≠61):=by
 rw [List.take_of_length_le hj] at h ⊢
 have hc:cut x=none:=by
  cases hc:cut x with
  | none=>rfl
  | some p =>
   obtain ⟨e,_⟩:=cut_some x p.1 p.2 hc
   exact absurd (by rw [e];simp) h
 exact (key_none hc).symm
theorem tw_le (p:UInt8→Bool) (x:Tx):(x.takeWhile p).length≤x.length:=(List.takeWhile_sublist p).length_le
def SWI (w:World) (bt gp bo:Nat) (L:List Tx) (k:Nat) (o:Ord) (key v:Tx) (e:Int) (U:Tx) (W:World):Prop:=∃ o',DQ w bt gp bo L o' W∧DO k o'∧((e=0∧dput o (key,v)=some (o',(key,U)))∨(e≠0∧dput o (key,v)=none))
theorem ob_job {W:World} {b:Nat} {o:Ord} (h:OrdB W b o g0) (v:Int):OrdB (W.setCell ⟨b,1,none⟩ (.int .i64 v)) b { o with job:=v } g0:=by
 have:=BoxA.set h 1 (.int .i64 v)
 exact this
theorem ob_n {W:World} {b:Nat} {o:Ord} (h:OrdB W b o g0) (v:Int):OrdB (W.setCell ⟨b,2,none⟩ (.int .i64 v)) b { o with n:=v } g0:=by
 have:=BoxA.set h 2 (.int .i64 v)
 exact this
theorem ob_name {W:World} {b:Nat} {o:Ord} (h:OrdB W b o g0) (v:Tx):OrdB (W.setCell ⟨b,3,none⟩ (.string (str v))) b { o with name:=v } g0:=by
 have:=BoxA.set h 3 (.string (str v))
 exact this
theorem ob_pool {W:World} {b:Nat} {o:Ord} (h:OrdB W b o g0) (v:Tx):OrdB (W.setCell ⟨b,4,none⟩ (.string (str v))) b { o with pool:=v } g0:=by
 have:=BoxA.set h 4 (.string (str v))
 exact this
theorem ob_user {W:World} {b:Nat} {o:Ord} (h:OrdB W b o g0) (v:Tx):OrdB (W.setCell ⟨b,5,none⟩ (.string (str v))) b { o with user:=v } g0:=by
 have:=BoxA.set h 5 (.string (str v))
 exact this
theorem ob_size {W:World} {b:Nat} {o:Ord} (h:OrdB W b o g0) (v:Int):OrdB (W.setCell ⟨b,6,none⟩ (.int .i64 v)) b { o with size:=v } g0:=by
 have:=BoxA.set h 6 (.int .i64 v)
 exact this
theorem ob_yes {W:World} {b:Nat} {o:Ord} (h:OrdB W b o g0) (v:Bool):OrdB (W.setCell ⟨b,7,none⟩ (.bool v)) b { o with yes:=v } g0:=by
 have:=BoxA.set h 7 (.bool v)
 exact this
theorem mid_zero:Mid Slip.zero:=⟨Nat.zero_le _,Nat.zero_le _,Nat.zero_le _,⟨Nat.zero_le _,fun d h=>by cases h⟩,⟨Nat.zero_le _,fun d h=>by cases h⟩,⟨Nat.zero_le _,fun d h=>by cases h⟩⟩
theorem do_text {k:Nat} {o:Ord} (h:DO k o) (hk:k≤255∧k≠2) (W:World):Calls Tryz.prog 13 #[oV o g0] W (OTextT o W):=by
 have h1:=h.job;have h2:=h.n;have h3:=h.size;have h4:=h.name;have h5:=h.pool;have h6:=h.user
 exact dText_oth o g0 W (by rw [h.slip];exact sr_zero W) (by rw [h.slip];exact sW_zero) (by rw [h.slip];exact mid_zero)
  ⟨by omega,by omega,by omega,by omega,by omega,by omega,by rw [h.kind];exact hk.1⟩ ⟨by omega,by omega,by omega⟩ (by rw [h.kind];exact hk.2)
theorem add5_str (T key U:Tx):str T++{ data:=#[32] }++str key++{ data:=#[61] }++str U=str (T++32::(key++61::U)):=by
 show str T++str [32]++str key++str [61]++str U=_
 rw [str_app,str_app,str_app,str_app]
 simp
theorem num_top {v:Tx} {n:Nat} (h:num? v=some n):n≤top:=(num_iff.1 h).1
theorem len_app {T key U:Tx} {i:Nat} (h1:T.length≤10+i * 20100) (h2:key.length≤10000) (h3:U.length≤10000):(T++32::(key++61::U)).length≤10+(i+1) * 20100:=by
 simp
 omega
theorem load_row {P:Program} {o:Oper} {ev:Operand→Value} {w:World} (ty:TypeId) (x:Operand) (ho:o.op=.load ty x)
  (g:Nat) (hx:ev x=.pointer (some ⟨g,0,none⟩)) (t:TypeId) (cs:Array Value) (fr:Nat × Nat) (d:TypeDesc) (hg:w.heap[g]?=some (.cells cs t fr))
  (hu:P.underlying ty=some d) (hd:(match d with | .struct _ | .array _ _=>true | _=>false)=true) (hi:(P.info? ty).map (·.size)=some cs.size) :
  (execOp ev o).run P w=.ok (.value (.agg cs)) w:=by
 unfold execOp
 simp only [ho,hx,Instr.loadAt,Instr.sureAddr,Sem.run_bind,Sem.run_pure,Result.andThen_ok,run_loadVar_row w g t ty cs fr d hg hu hd hi]
set_option maxRecDepth 100000 in
set_option maxHeartbeats 64000000 in
theorem dparse_try (s:Tx) (hl:s.length≤10000) (w:World) (hp:¬ subL.isPrefixOf s=true):Calls Tryz.prog 9 #[.string (str s)] w (OPaT s w):=by
 obtain ⟨W0,hW0,hpr,hsp,hlow⟩:=made2 w zO #[.int .i64 0,.int .i64 0] 29 32
 obtain ⟨l0,ws,hcs⟩:∃ l0 ws,cuts 32 s=l0::ws:=by
  cases h:cuts 32 s with
  | nil=>exact absurd h (cuts_ne 32 s)
  | cons a b=>exact ⟨a,b,rfl⟩
 obtain ⟨n,hn⟩:∃ n,ws.length=n:=⟨_,rfl⟩
 have hn1:(l0::ws).length=n+1:=by rw [List.length_cons,hn]
 have HSP:=Lib.hid (fun (X:World)=>(show Calls Tryz.prog 20 #[.string (str s),.int .u8 32] X (fun e w'=>∃ gp cp,e=.returned (.slice (some ⟨gp,0,none⟩) (n+1) cp)∧Prts w' gp 0 (l0::ws)∧n+1≤cp∧Below X.heap.size X w') from (split_sp s (by omega) X).mono (by
  rw [hcs]
  rintro e w' ⟨v,rfl,⟨gp,cp,rfl,h1,h2,h3⟩,hb⟩
  rw [hn1] at h2 ⊢
  exact ⟨gp,cp,rfl,h1,h2,hb⟩)))
 have hcl:=cuts_lens 32 s
 rw [hcs] at hcl
 have HCL:=Lib.hid (fun (p:Tx) (hp:p∈l0::ws)=>(show p.length≤10000 from Nat.le_trans (hcl.2 p hp) hl))
 have hnb:n≤10000:=by have:=hcl.1;omega
 have HN:=Lib.hid hn
 have HCS:=Lib.hid hcs
 have HNP:=Lib.hid hp
 have hz:=str_size s
 have HSS:=Lib.hid hl
 have hz1:(str s).size≤10000:=by omega
 have HP0:=Lib.hid hpr
 have HS0:=Lib.hid hsp
 have HL0:=Lib.hid hlow
 have HW0:=Lib.hid hW0
 unfold zO at HW0
 clear hl hp hcl hcs hpr hsp hlow hW0 hz hn hn1
 go_enter Tryz.func9,Tryz.ntmps9
 go_upto_region 1 with fail
 rw [HW0.out]
 go_upto_region 2 with (refine wpList_store_row rfl _ _ _ rfl W0.heap.size #[.int .i64 160,.int .i64 1] rfl rfl _ _ (BoxA.new W0 _ _) (by kernel_rfl) rfl (spot_all _ _) ?_)
 obtain ⟨w3,hw3,hbt,hb3⟩:=box_end W0 #[.int .i64 0,.int .i64 0] #[.int .i64 160,.int .i64 1] 32
 rw [hw3]
 have HP3:=Lib.hid (HP0.out.next hb3)
 have HS3:=Lib.hid (HS0.out.next hb3)
 have HT3:=Lib.hid hbt
 have HZ2:=Lib.hid (show w.heap.size+1 < W0.heap.size from HS0.out.lt)
 have HL3:=Lib.hid (HL0.out.trans (hb3.mono HL0.out.size))
 clear hw3 hb3 hbt
 generalize W0.heap.size=bt at *
 (try simp only [Act.put,List.setIfInBounds_toArray,List.set_cons_zero,List.set_cons_succ])
 go_upto_region 2 with fail
 go_cut [28] (fun s28 wx=>s28=.bool false∧w3=wx)
 case first =>
  by_cases h7:7≤s.length
  ·have z7:7≤(str s).size:=by rw [str_size];exact h7
   have d7:decide ((7:Int)≤(str s).size)=true:=decide_eq_true (by omega)
   have hne:s.take 7≠subL:=fun e=>HNP.out (List.isPrefixOf_iff_prefix.2 ⟨s.drop 7,by rw [←e];exact List.take_append_drop 7 s⟩)
   obtain ⟨q0,q1⟩:=lit_no (a:=s.take 7) (c:=[115,117,98,109,105,116,10]) hne
   rw [←str_take] at q0 q1
   clear h7 hne
   go_wp2
   go_meet
   case rel=>exact ⟨rfl,rfl⟩
  ·have d7:decide ((7:Int)≤(str s).size)=false:=decide_eq_false (by rw [str_size];omega)
   clear h7
   go_wp2
   go_meet
   case rel=>exact ⟨rfl,rfl⟩
 case rest =>
 obtain ⟨rfl,rfl⟩:=hcut
 go_upto_region 8 with (go_at_call 20;((with_reducible refine (HSP.out _).mono ?_);rintro e w1 ⟨gp,cp,rfl,hps,hcp,hb⟩);have A1:=Lib.hid hb;have HPS:=Lib.hid hps;clear hb hps)
 go_upto_region 9 with (refine wpList_store_row rfl _ _ _ rfl w1.heap.size zO rfl rfl _ _ (BoxA.new w1 _ _) (by kernel_rfl) rfl (by kernel_rfl) ?_)
 obtain ⟨w2,hw2,hbo,hb2⟩:=box_end w1 #[.int .u8 0,.int .i64 0,.int .i64 0,.string { data:=#[] },.string { data:=#[] },.string { data:=#[] },.int .i64 0,.bool false,.string { data:=#[] },.int .i64 0,.int .i64 0,.int .i64 0,.slice none 0 0,.int .i64 0,.int .i64 0,.int .i64 0,.string { data:=#[] },.slice none 0 0,.slice none 0 0,.slice none 0 0] zO 29
 rw [hw2]
 have HQ:=Lib.hid (show DQ w bt gp w1.heap.size (l0::ws) (Ord.at 0) w2 from
  ⟨(HL3.out.trans (A1.out.mono HL3.out.size)).trans (hb2.mono (Nat.le_trans HL3.out.size A1.out.size)),(HP3.out.next A1.out).next hb2,(HS3.out.next A1.out).next hb2,(HT3.out.next A1.out).next hb2,HPS.out.next hb2,hbo,HZ2.out,Nat.lt_of_lt_of_le HT3.out.lt A1.out.size,HPS.out.1⟩)
 clear hw2 hbo hb2 HPS A1
 generalize w1.heap.size=bo at *
 go_upto_region 10 with fail
 go_loopw [9] (fun s9 W=>∃ (k j:Nat),s9=.int .u8 (k:Int)∧1≤k∧k≤19∧Aside (KD l0 k j∧DQ w bt gp bo (l0::ws) (Ord.at j) W)) (fun s9 _=>19 - (intOf s9).toNat)
 case atStart=>exact ⟨1,0,rfl,by omega,by omega,.inl ⟨rfl,fun i h1 h2=>by omega⟩,HQ.out⟩
 case round =>
  obtain ⟨k,j,rfl,hk1,hk19,hkd,hdq⟩:=hrel
  have HKD:=Lib.hid (show KD l0 k j from hkd)
  have HR:=Lib.hid (show DQ w bt gp bo (l0::ws) (Ord.at j) wr from hdq)
  clear hkd hdq HQ
  by_cases hk:k≤18
  ·have dk:decide ((k:Int)≤18)=true:=decide_eq_true (by omega)
   have HWD:=Lib.hid (fun X=>dwordO_any k (by omega) X)
   have HCE:=Lib.hid (fun (X:World) (hb:Below wr.heap.size wr X)=>prt_at (HR.out.next hb).ws (show (l0::ws)[0]?=some l0 from rfl))
   have AY:=Lib.hid (drew_low wr)
   have HA0:=Lib.hid (Below.refl wr.heap.size wr)
   go_upto_region 12 with fail
   go_cut [64] (fun s64 wx=>s64=.bool (decide (wordO k=l0) && decide (k≠2))∧Aside (Below wr.heap.size wr wx))
   case first =>
    obtain ⟨y,hy⟩:∃ y,wordO k=y:=⟨_,rfl⟩
    rw [hy] at HWD
    have HY:=Lib.hid hy
    clear hy
    by_cases he:y=l0
    ·obtain ⟨q1,q2⟩:=(⟨by rw [eq_str];exact decide_eq_true he,by rw [he]⟩:((str y).toList == (str l0).toList)=true∧(str y).toList=(str l0).toList)
     have HE:=Lib.hid he
     clear he
     by_cases h2:k=2
     ·have d2:((k:Int) != 2)=false:=by rw [h2];rfl
      have HX:=Lib.hid (show (decide (wordO k=l0) && decide (k≠2))=false by rw [decide_eq_false (p:=k≠2) (fun h=>h h2),Bool.and_false])
      clear h2
      go_region_held3 (fun W=>W.cell? ⟨gp,0,none⟩=some (.string (str l0))) (first | exact HCE.out _ A5.out | exact HCE.out _ AY.out | exact HCE.out _ HA0.out) (first
       | (go_at_call 21;((with_reducible refine (HWD.out _).mono ?_);rintro e w5 ⟨rfl,hb⟩);have A5:=Lib.hid (show Below wr.heap.size wr w5 from Below.trans AY.out (hb.mono (Below.size AY.out)));clear hb))
      go_wp2
      go_meet
      case rel=>exact ⟨by rw [HX.out],A5.out⟩
     ·have d2:((k:Int) != 2)=true:=by rw [bne_iff_ne];omega
      have HX:=Lib.hid (show (decide (wordO k=l0) && decide (k≠2))=true by rw [decide_eq_true (p:=k≠2) h2,decide_eq_true (show wordO k=l0 from HY.out.trans HE.out)];rfl)
      clear h2
      go_region_held3 (fun W=>W.cell? ⟨gp,0,none⟩=some (.string (str l0))) (first | exact HCE.out _ A5.out | exact HCE.out _ AY.out | exact HCE.out _ HA0.out) (first
       | (go_at_call 21;((with_reducible refine (HWD.out _).mono ?_);rintro e w5 ⟨rfl,hb⟩);have A5:=Lib.hid (show Below wr.heap.size wr w5 from Below.trans AY.out (hb.mono (Below.size AY.out)));clear hb))
      go_wp2
      go_meet
      case rel=>exact ⟨by rw [HX.out],A5.out⟩
    ·obtain ⟨q1,q2⟩:=(⟨by rw [eq_str];exact decide_eq_false he,fun h=>he (by rw [str_toList,str_toList] at h;exact h)⟩:((str y).toList == (str l0).toList)=false∧¬ (str y).toList=(str l0).toList)
     have HX:=Lib.hid (show (decide (wordO k=l0) && decide (k≠2))=false by rw [decide_eq_false (p:=wordO k=l0) (fun h=>he (HY.out.symm.trans h)),Bool.false_and])
     have q3:decide ((str y).toList=(str l0).toList)=false:=decide_eq_false q2
     clear he q2
     refine wp_region_held_drew (S:=(fun X=>X.cell? ⟨gp,0,none⟩=some (.string (str l0)))) (by kernel_rfl) (by exact HCE.out _ AY.out) (fun hHeld=>?_)
     refine wpAnyH_take (i:=0) (v:=?_) (ata at0) (by kernel_rfl) (by kernel_rfl) (by kernel_rfl) (fun _ _ _ h=>h) (Or.inl ⟨by rfl,?_⟩) (by assumption) ?_
     rotate_left
     ·(intro w hSw;(try dsimp only at hSw);go_simp;(first | done | with_reducible rfl))
     try simp only [Act.put,List.setIfInBounds_toArray,List.set_cons_zero,List.set_cons_succ]
     refine wpAnyH_take (i:=2) (v:=?_) (ata (atS (atS at0))) (by kernel_rfl) (by kernel_rfl) (by kernel_rfl) (fun _ _ _ h=>h) (Or.inl ⟨by rfl,?_⟩) (by assumption) ?_
     rotate_left
     ·(intro w hSw;(try dsimp only at hSw);go_simp;(first | done | with_reducible rfl))
     try simp only [Act.put,List.setIfInBounds_toArray,List.set_cons_zero,List.set_cons_succ]
     refine wpAnyH_take (i:=3) (v:=?_) (ata (atS (atS (atS at0)))) (by kernel_rfl) (by kernel_rfl) (by kernel_rfl) (fun _ _ _ h=>h) (Or.inl ⟨by rfl,?_⟩) (by assumption) ?_
     rotate_left
     ·(intro w hSw;(try dsimp only at hSw);go_simp;(first | done | with_reducible rfl))
     try simp only [Act.put,List.setIfInBounds_toArray,List.set_cons_zero,List.set_cons_succ]
     refine wpAnyH_take (i:=4) (v:=?_) (ata (atS (atS (atS (atS at0))))) (by kernel_rfl) (by kernel_rfl) (by kernel_rfl) (fun _ _ _ h=>h) (Or.inl ⟨by rfl,?_⟩) (by assumption) ?_
     rotate_left
     ·(intro w hSw;(try dsimp only at hSw);go_simp;(first | done | with_reducible rfl))
     try simp only [Act.put,List.setIfInBounds_toArray,List.set_cons_zero,List.set_cons_succ]
     refine wpAnyH_ready (rs:=[1]) (by kernel_rfl) (by simp) ?_
     refine AllReadyH.cons (ata (atS at0)) (fun K hK=>?_) AllReadyH.nil
     go_simp
     (go_at_call 21;((with_reducible refine (HWD.out _).mono ?_);rintro e w5 ⟨rfl,hb⟩);have A5:=Lib.hid (show Below wr.heap.size wr w5 from Below.trans AY.out (hb.mono (Below.size AY.out)));clear hb)
     go_wp2_with fail
     refine hK.out _ _ (by exact HCE.out _ A5.out) (fun hHeld=>?_)
     clear hK K
     try simp only [Act.put,List.setIfInBounds_toArray,List.set_cons_zero,List.set_cons_succ]
     refine wpAnyH_take (i:=5) (v:=?_) (ata (atS (atS (atS (atS (atS at0)))))) (by kernel_rfl) (by kernel_rfl) (by kernel_rfl) (fun _ _ _ h=>h) (Or.inl ⟨by rfl,?_⟩) (by assumption) ?_
     rotate_left
     ·(intro w hSw;(try dsimp only at hSw);go_simp;(first | done | with_reducible rfl))
     try simp only [Act.put,List.setIfInBounds_toArray,List.set_cons_zero,List.set_cons_succ]
     refine wpAnyH_take (i:=6) (v:=?_) (ata (atS (atS (atS (atS (atS (atS at0))))))) (by kernel_rfl) (by kernel_rfl) (by kernel_rfl) (fun _ _ _ h=>h) (Or.inl ⟨by rfl,?_⟩) (by assumption) ?_
     rotate_left
     ·(intro w hSw;(try dsimp only at hSw);go_simp;(first | done | with_reducible rfl))
     try simp only [Act.put,List.setIfInBounds_toArray,List.set_cons_zero,List.set_cons_succ]
     refine wpAnyH_take (i:=7) (v:=undef) (ata (atS (atS (atS (atS (atS (atS (atS at0)))))))) (by kernel_rfl) (by kernel_rfl) (by kernel_rfl) (fun _ _ _ h=>h) (Or.inr ⟨by rfl,rfl⟩) (by assumption) ?_
     try simp only [Act.put,List.setIfInBounds_toArray,List.set_cons_zero,List.set_cons_succ]
     refine wpAnyH_take (i:=8) (v:=undef) (ata (atS (atS (atS (atS (atS (atS (atS (atS at0))))))))) (by kernel_rfl) (by kernel_rfl) (by kernel_rfl) (fun _ _ _ h=>h) (Or.inr ⟨by rfl,rfl⟩) (by assumption) ?_
     try simp only [Act.put,List.setIfInBounds_toArray,List.set_cons_zero,List.set_cons_succ]
     refine wpAnyH_take (i:=9) (v:=?_) (ata (atS (atS (atS (atS (atS (atS (atS (atS (atS at0)))))))))) (by kernel_rfl) (by kernel_rfl) (by kernel_rfl) (fun _ _ _ h=>h) (Or.inl ⟨by rfl,?_⟩) (by assumption) ?_
     rotate_left
     ·(intro w hSw;(try dsimp only at hSw);go_simp;(first | done | with_reducible rfl))
     try simp only [Act.put,List.setIfInBounds_toArray,List.set_cons_zero,List.set_cons_succ]
     refine wpAnyH_done (by kernel_rfl) ?_ _
     go_wp2
     go_meet
     case rel=>exact ⟨by rw [HX.out],A5.out⟩
   case rest =>
   obtain ⟨rfl,hcut⟩:=hcut
   have HB5:=Lib.hid (show Below wr.heap.size wr wc from hcut)
   have HR5:=Lib.hid (HR.out.next HB5.out)
   clear hcut
   by_cases hx:wordO k=l0∧k≠2
   ·rw [decide_eq_true hx.1,decide_eq_true hx.2]
    have HN:=Lib.hid (KD.yes (j:=j) hk1 hx.2 hx.1)
    have c0:wc.cell? ⟨bo,0,none⟩=some (.int .u8 (j:Nat)):=BoxA.cell HR5.out.o 0 _
    have f0:=BoxA.free HR5.out.o 0
    have clt:=HR5.out.o.lt
    clear hx
    go_wp2
    go_roundw
    case rel=>exact ⟨k+1,k,by go_num,by omega,by omega,HN.out,HR5.out.put ((But.refl _ _).setCell 0 _) (at_put HR5.out.o)⟩
    case measure=>simp [intOf];omega
   ·have HN:=Lib.hid (HKD.out.no hx)
    have hbo:(decide (wordO k=l0) && decide (k≠2))=false:=by
     rw [←Bool.decide_and];exact decide_eq_false hx
    rw [hbo]
    clear hx hbo
    go_wp2
    go_roundw
    case rel=>exact ⟨k+1,j,by go_num,by omega,by omega,HN.out,HR5.out⟩
    case measure=>simp [intOf];omega
  ·obtain rfl:k=19:=by omega
   rcases HKD.out.fin with ⟨rfl,hk0⟩ | ⟨hj1,hj2,hjw,hjk⟩
   ·have HB:=Lib.hid (od.dres_kind HNP.out HCS.out hk0)
    have c0:wr.cell? ⟨bo,0,none⟩=some (.int .u8 0):=BoxA.cell HR.out.o 0 (.int .u8 0)
    have clt:=HR.out.o.lt
    clear hk0 HKD
    go_upto_region 15 with fail
    have HPD:=Lib.hid (show BoxA wr.drew w.heap.size 29 zO from HR.out.p)
    have HSD:=Lib.hid (show BoxA wr.drew (w.heap.size+1) 32 #[.int .i64 0,.int .i64 0] from HR.out.s)
    have HTD:=Lib.hid (show BoxA wr.drew bt 32 #[.int .i64 160,.int .i64 1] from HR.out.t)
    have HBD:=HR.out.bd
    have HLD:=Lib.hid (Below.drew HR.out.low)
    have HSE:=Lib.hid (show (wr.drew.setRow w.heap.size zO).heap[w.heap.size+1]?=some (.cells #[.int .i64 0,.int .i64 0] 32 (0,0)) from (setRow_other _ _ _ _ (by omega)).trans HSD.out)
    have HTE:=Lib.hid (show BoxA (wr.drew.setRow w.heap.size zO) bt 32 #[.int .i64 160,.int .i64 1] from (setRow_other _ _ _ _ (by omega)).trans HTD.out)
    have HTF:=Lib.hid (show BoxA ((wr.drew.setRow w.heap.size zO).setRow (w.heap.size+1) #[.int .i64 160,.int .i64 1]) bt 32 #[.int .i64 160,.int .i64 1] from (setRow_other _ _ _ _ (by omega)).trans HTE.out)
    clear HBD
    refine wp_region_held_drew (S:=(fun X=>BoxA X bt 32 #[.int .i64 160,.int .i64 1])) (by kernel_rfl) (by exact HTD.out) (fun hHeld=>?_)
    refine wpAnyH_take (i:=0) (v:=?_) (ata at0) (by kernel_rfl) (by kernel_rfl) (by kernel_rfl) (fun _ _ _ h=>h) (Or.inl ⟨by rfl,?_⟩) (by assumption) ?_
    rotate_left
    ·(intro w hSw;(try dsimp only at hSw);go_simp;(first | done | with_reducible rfl))
    try simp only [Act.put,List.setIfInBounds_toArray,List.set_cons_zero,List.set_cons_succ]
    refine wpAnyH_take (i:=1) (v:=.agg (#[.int .i64 160,.int .i64 1])) (ata (atS at0)) (by kernel_rfl) (by kernel_rfl) (by kernel_rfl) (fun _ _ _ h=>h) (Or.inl ⟨by rfl,?_⟩) (by assumption) ?_
    ·intro X hX;exact load_row _ _ rfl bt rfl _ _ _ _ hX Tryz.underlying32 rfl (by kernel_rfl)
    try simp only [Act.put,List.setIfInBounds_toArray,List.set_cons_zero,List.set_cons_succ]
    refine wpAnyH_ready (rs:=[2]) (by kernel_rfl) (by simp) ?_
    refine AllReadyH.cons (ata (atS (atS at0))) (fun K hK=>?_) AllReadyH.nil
    refine wp_store_row _ _ _ rfl w.heap.size zO rfl rfl 29 zO HPD.out (by kernel_rfl) rfl (by kernel_rfl) ?_
    refine hK.out _ _ (by exact HTE.out) (fun hHeld=>?_)
    clear hK K
    try simp only [Act.put,List.setIfInBounds_toArray,List.set_cons_zero,List.set_cons_succ]
    refine wpAnyH_ready (rs:=[3]) (by kernel_rfl) (by simp) ?_
    refine AllReadyH.cons (ata (atS (atS (atS at0)))) (fun K hK=>?_) AllReadyH.nil
    refine wp_store_row _ _ _ rfl (w.heap.size+1) #[.int .i64 160,.int .i64 1] rfl rfl 32 #[.int .i64 0,.int .i64 0] HSE.out (by kernel_rfl) rfl (spot_all _ _) ?_
    refine hK.out _ _ (by exact HTF.out) (fun hHeld=>?_)
    clear hK K
    try simp only [Act.put,List.setIfInBounds_toArray,List.set_cons_zero,List.set_cons_succ]
    refine wpAnyH_done (by kernel_rfl) ?_ _
    go_wp2
    exact dopa_ret (o:=Ord.zero) (g:=g0) HLD.out rfl rfl HPD.out HSD.out rfl (by rw [HB.out];rfl) (sr_zero _)
   ·have HKK:=Lib.hid hjk
    have c0:wr.cell? ⟨bo,0,none⟩=some (.int .u8 (j:Nat)):=BoxA.cell HR.out.o 0 _
    have clt:=HR.out.o.lt
    have d0:((j:Int) == 0)=false:=by rw [beq_eq_false_iff_ne];omega
    have HWD:=Lib.hid (fun X=>dwordO_any j (by omega) X)
    have HJB:=Lib.hid (show j≤255∧j≠2 from ⟨by omega,hj2⟩)
    have HWL:=Lib.hid (show (wordO j).length≤7 from (od.word_plain hj1).2.2)
    clear hj1 hj2 hjw hjk HKD
    go_upto_region 17 with (go_at_call 21;((with_reducible refine (HWD.out _).mono ?_);rintro e w5 ⟨rfl,hb⟩);have A5:=Lib.hid hb;clear hb)
    have HR5:=Lib.hid (HR.out.next A5.out)
    clear c0 clt d0 HWD A5 HR
    obtain ⟨ANS,hans⟩:∃ A,dorun (Ord.at j) [] ws=A:=⟨_,rfl⟩
    have HAN:=Lib.hid hans
    clear hans
    go_upto_region 18 with fail
    go_loopw [10,11] (fun s10 s11 W=>∃ (i:Nat) (o:Ord) (fs:List Fl) (T:Tx),s10=.string (str T)∧s11=.int .i64 ((i+1:Nat):Int)∧i≤n∧T.length≤10+i * 20100∧Aside (DQ w bt gp bo (l0::ws) o W∧DO j o∧T=joinC 32 (wordO j::fs.map wtx)∧dorun o fs (ws.drop i)=ANS)) (fun _ s11 _=>n+2 - (intOf s11).toNat)
    case atStart=>exact ⟨0,Ord.at j,[],wordO j,rfl,rfl,Nat.zero_le _,Nat.le_trans HWL.out (by decide),HR5.out,DO.start j,rfl,HAN.out⟩
    case round =>
     obtain ⟨i,o,fs,T,rfl,rfl,hi,hTl,hrest⟩:=hrel
     have F1:=Lib.hid (show DQ w bt gp bo (l0::ws) o wr from hrest.1)
     have HDO:=Lib.hid (show DO j o from hrest.2.1)
     have HTT:=Lib.hid (show T=joinC 32 (wordO j::fs.map wtx) from hrest.2.2.1)
     have HDR:=Lib.hid (show dorun o fs (ws.drop i)=ANS from hrest.2.2.2)
     clear hrest HR5
     have HTL:=Lib.hid hTl
     have zT:(str T).size≤300000000:=by rw [str_size];omega
     clear hTl
     by_cases hin:i < n
     ·have hil:i < ws.length:=by rw [HN.out];exact hin
      obtain ⟨x,hx⟩:∃ x,ws[i]?=some x:=⟨_,List.getElem?_eq_getElem hil⟩
      have c2:wr.cell? ⟨gp,0+(i+1),none⟩=some (.string (str x)):=F1.out.ws.2 (i+1) x hx
      rw [Nat.zero_add] at c2
      have hxl:x.length≤10000:=HCL.out x (List.mem_cons_of_mem _ (List.mem_of_getElem? hx))
      have HXL:=Lib.hid hxl
      have HDC:=Lib.hid (show dorun o fs (x::ws.drop (i+1))=ANS by
       rw [←HDR.out]
       obtain ⟨_,rfl⟩:=List.getElem?_eq_some_iff.1 hx
       rw [←List.drop_eq_getElem_cons hil])
      have HXZ:=Lib.hid (str_size x)
      have zx:(str x).size≤10000:=by rw [str_size];exact hxl
      have hin2:i+1 < n+1:=by omega
      have hgl:=F1.out.ws.1
      clear hx hil hxl HDR
      go_upto_block 4 with fail
      go_cut [12] (fun s12 wx=>∃ jj:Nat,s12=.int .i64 (jj:Nat)∧jj≤(str x).size∧Aside (x.take jj=x.takeWhile (fun c=>c≠61))∧wr=wx)
      case first =>
       go_wp2_with fail
       go_loop [12] (fun s12=>∃ jj:Nat,s12=.int .i64 (jj:Nat)∧jj≤(str x).size∧Aside ((61:UInt8) ∉ x.take jj)) (fun s12=>(str x).size - (intOf s12).toNat)
       case atStart=>exact ⟨0,rfl,Nat.zero_le _,by rw [List.take_zero];exact List.not_mem_nil⟩
       case round =>
        obtain ⟨jj,rfl,hj,hnm⟩:=hrel
        have HNM:=Lib.hid (show (61:UInt8) ∉ x.take jj from hnm)
        clear hnm
        by_cases h1:jj < (str x).size
        ·have hjl:jj < x.length:=by rw [←HXZ.out];exact h1
         have hge:=str_at x jj h1
         by_cases hb:x[jj]=61
         ·have q5:((((str x)[jj]'h1).toNat:Int) != 61)=false:=by rw [hge,hb];rfl
          have HTW:=Lib.hid (take_while HNM.out hjl hb)
          clear hge hb hjl HNM
          go_wp2
          go_meet
          case rel=>exact ⟨jj,rfl,hj,HTW.out,rfl⟩
         ·have q5:((((str x)[jj]'h1).toNat:Int) != 61)=true:=by rw [hge,bne_iff_ne];exact fun e=>hb (UInt8.toNat_inj.1 (by have:(61:UInt8).toNat=61:=rfl;omega))
          have HNM2:=Lib.hid (not_take2 HNM.out hjl hb)
          clear hge hb hjl HNM
          go_wp2
          go_round
          case rel=>exact ⟨jj+1,by go_num,by omega,HNM2.out⟩
          case measure=>simp [intOf];omega
        ·have hje:jj=(str x).size:=by omega
         have HTW:=Lib.hid (take_whole HNM.out (by rw [hje,HXZ.out];exact Nat.le_refl _))
         subst hje
         clear HNM
         go_wp2
         go_meet
         case rel=>exact ⟨_,rfl,Nat.le_refl _,HTW.out,rfl⟩
      case rest =>
      obtain ⟨jj,rfl,hjj,htw,hwc⟩:=hcut
      subst hwc
      obtain ⟨key0,hk0⟩:∃ y,x.takeWhile (fun c=>c≠61)=y:=⟨_,rfl⟩
      have s1:=sl_upto x (jj:Int) jj rfl (by rw [←str_size];exact hjj)
      rw [show x.take jj=key0 from (show x.take jj=x.takeWhile (fun c=>c≠61) from htw).trans hk0] at s1
      have HVA:=Lib.hid (fun X=>dvalue_any x (by have:=HXL.out;omega) X)
      rw [hk0] at HVA
      have hlk:key0.length≤10000:=by rw [←hk0];exact Nat.le_trans (tw_le _ x) HXL.out
      have HLK:=Lib.hid hlk
      have zk:(str key0).size≤10000:=by rw [str_size];exact hlk
      clear hlk htw
      cases hcx:cut x with
      | none =>
       rw [show valV x=.tuple #[.string (str []),.bool false] by unfold valV;rw [hcx]] at HVA
       have HB:=Lib.hid (od.dres_no HCS.out HKK.out (HAN.out.trans (HDC.out.symm.trans (od.dorun_none _ _ _ _ hcx))))
       clear hcx hk0
       go_upto_region 26 with (go_at_call 22;((with_reducible refine (HVA.out _).mono ?_);rintro e w6 ⟨rfl,hb⟩);have F6:=Lib.hid (F1.out.next hb);clear hb)
       have HPD:=Lib.hid (show BoxA w6.drew w.heap.size 29 zO from F6.out.p)
       have HSD:=Lib.hid (show BoxA w6.drew (w.heap.size+1) 32 #[.int .i64 0,.int .i64 0] from F6.out.s)
       have HTD:=Lib.hid (show BoxA w6.drew bt 32 #[.int .i64 160,.int .i64 1] from F6.out.t)
       have HBD:=F6.out.bd
       have HLD:=Lib.hid (Below.drew F6.out.low)
       have HSE:=Lib.hid (show (w6.drew.setRow w.heap.size zO).heap[w.heap.size+1]?=some (.cells #[.int .i64 0,.int .i64 0] 32 (0,0)) from (setRow_other _ _ _ _ (by omega)).trans HSD.out)
       have HTE:=Lib.hid (show BoxA (w6.drew.setRow w.heap.size zO) bt 32 #[.int .i64 160,.int .i64 1] from (setRow_other _ _ _ _ (by omega)).trans HTD.out)
       have HTF:=Lib.hid (show BoxA ((w6.drew.setRow w.heap.size zO).setRow (w.heap.size+1) #[.int .i64 160,.int .i64 1]) bt 32 #[.int .i64 160,.int .i64 1] from (setRow_other _ _ _ _ (by omega)).trans HTE.out)
       clear HBD
       refine wp_region_held_drew (S:=(fun X=>BoxA X bt 32 #[.int .i64 160,.int .i64 1])) (by kernel_rfl) (by exact HTD.out) (fun hHeld=>?_)
       refine wpAnyH_take (i:=0) (v:=?_) (ata at0) (by kernel_rfl) (by kernel_rfl) (by kernel_rfl) (fun _ _ _ h=>h) (Or.inl ⟨by rfl,?_⟩) (by assumption) ?_
       rotate_left
       ·(intro w hSw;(try dsimp only at hSw);go_simp;(first | done | with_reducible rfl))
       try simp only [Act.put,List.setIfInBounds_toArray,List.set_cons_zero,List.set_cons_succ]
       refine wpAnyH_take (i:=1) (v:=.agg (#[.int .i64 160,.int .i64 1])) (ata (atS at0)) (by kernel_rfl) (by kernel_rfl) (by kernel_rfl) (fun _ _ _ h=>h) (Or.inl ⟨by rfl,?_⟩) (by assumption) ?_
       ·intro X hX;exact load_row _ _ rfl bt rfl _ _ _ _ hX Tryz.underlying32 rfl (by kernel_rfl)
       try simp only [Act.put,List.setIfInBounds_toArray,List.set_cons_zero,List.set_cons_succ]
       refine wpAnyH_ready (rs:=[2]) (by kernel_rfl) (by simp) ?_
       refine AllReadyH.cons (ata (atS (atS at0))) (fun K hK=>?_) AllReadyH.nil
       refine wp_store_row _ _ _ rfl w.heap.size zO rfl rfl 29 zO HPD.out (by kernel_rfl) rfl (by kernel_rfl) ?_
       refine hK.out _ _ (by exact HTE.out) (fun hHeld=>?_)
       clear hK K
       try simp only [Act.put,List.setIfInBounds_toArray,List.set_cons_zero,List.set_cons_succ]
       refine wpAnyH_ready (rs:=[3]) (by kernel_rfl) (by simp) ?_
       refine AllReadyH.cons (ata (atS (atS (atS at0)))) (fun K hK=>?_) AllReadyH.nil
       refine wp_store_row _ _ _ rfl (w.heap.size+1) #[.int .i64 160,.int .i64 1] rfl rfl 32 #[.int .i64 0,.int .i64 0] HSE.out (by kernel_rfl) rfl (spot_all _ _) ?_
       refine hK.out _ _ (by exact HTF.out) (fun hHeld=>?_)
       clear hK K
       try simp only [Act.put,List.setIfInBounds_toArray,List.set_cons_zero,List.set_cons_succ]
       refine wpAnyH_done (by kernel_rfl) ?_ _
       go_wp2
       exact dopa_ret (o:=Ord.zero) (g:=g0) HLD.out rfl rfl HPD.out HSD.out rfl (by rw [HB.out];rfl) (sr_zero _)
      | some f =>
       obtain ⟨key,v⟩:=f
       rw [show valV x=.tuple #[.string (str v),.bool true] by unfold valV;rw [hcx]] at HVA
       have hkk:key0=key:=by rw [←hk0];exact cut_key hcx
       subst hkk
       have hvl:v.length≤10000:=by have:=(cut_some x _ _ hcx).1;have hh:=HXL.out;rw [this] at hh;simp at hh;omega
       have HVL:=Lib.hid hvl
       have HCX:=Lib.hid hcx
       have zv:(str v).size≤10000:=by rw [str_size];exact hvl
       clear hcx hk0 hvl
       go_upto_block 6 with (go_at_call 22;((with_reducible refine (HVA.out _).mono ?_);rintro e w6 ⟨rfl,hb⟩);have F6:=Lib.hid (F1.out.next hb);clear hb)
       clear c2 hgl s1 HVA F1
       go_cut [16,17] (fun s16 s17 wx=>∃ (e:Int) (U:Tx),s16=.int .i64 e∧s17=.string (str U)∧U.length≤10000∧Aside (SWI w bt gp bo (l0::ws) j o key0 v e U wx))
       case first =>
        by_cases k0:key0=jobW
        ·obtain ⟨q0,r0⟩:=lit_yes (a:=key0) (c:=[106,111,98]) k0
         have HNU:=Lib.hid (fun X=>dnumber_any v (by have:=HVL.out;omega) X)
         have HPU:=Lib.hid (show dput o (key0,v)=(num? v).map fun n=>({ o with job:=(n:Int) },(key0,v)) by rw [k0];exact od.dp_job o v)
         have c1:w6.cell? ⟨bo,1,none⟩=some (.int .i64 o.job):=BoxA.cell F6.out.o 1 _
         have fz:=BoxA.free F6.out.o 1
         have clt:=F6.out.o.lt
         clear k0
         cases hnm:num? v with
         | none =>
          rw [hnm,qv_none,qe_none] at HNU
          have HP:=Lib.hid (show dput o (key0,v)=none by rw [HPU.out,hnm];rfl)
          clear hnm HPU
          go_wp2_with (go_at_call 23;((with_reducible refine (HNU.out _).mono ?_);rintro e w7 ⟨rfl,rfl⟩))
          go_meet
          case rel=>exact ⟨130,v,rfl,rfl,HVL.out,{ o with job:=((0:Nat):Int) },F6.out.put ((But.refl _ _).setCell 1 _) (ob_job F6.out.o _),HDO.out.ofJob (Nat.zero_le _),.inr ⟨by decide,HP.out⟩⟩
         | some m =>
          rw [hnm,qv_some,qe_some] at HNU
          have HP:=Lib.hid (show dput o (key0,v)=some ({ o with job:=(m:Int) },(key0,v)) by rw [HPU.out,hnm];rfl)
          have HMT:=Lib.hid (num_top hnm)
          clear hnm HPU
          go_wp2_with (go_at_call 23;((with_reducible refine (HNU.out _).mono ?_);rintro e w7 ⟨rfl,rfl⟩))
          go_meet
          case rel=>exact ⟨0,v,rfl,rfl,HVL.out,{ o with job:=(m:Int) },F6.out.put ((But.refl _ _).setCell 1 _) (ob_job F6.out.o _),HDO.out.ofJob HMT.out,.inl ⟨rfl,HP.out⟩⟩
        obtain ⟨q0,r0⟩:=lit_no (a:=key0) (c:=[106,111,98]) k0
        by_cases k1:key0=nK
        ·obtain ⟨q1,r1⟩:=lit_yes (a:=key0) (c:=[110]) k1
         have HNU:=Lib.hid (fun X=>dnumber_any v (by have:=HVL.out;omega) X)
         have HPU:=Lib.hid (show dput o (key0,v)=(num? v).map fun n=>({ o with n:=(n:Int) },(key0,v)) by rw [k1];exact od.dp_n o v)
         have c2:w6.cell? ⟨bo,2,none⟩=some (.int .i64 o.n):=BoxA.cell F6.out.o 2 _
         have fz:=BoxA.free F6.out.o 2
         have clt:=F6.out.o.lt
         clear k0 k1
         cases hnm:num? v with
         | none =>
          rw [hnm,qv_none,qe_none] at HNU
          have HP:=Lib.hid (show dput o (key0,v)=none by rw [HPU.out,hnm];rfl)
          clear hnm HPU
          go_wp2_with (go_at_call 23;((with_reducible refine (HNU.out _).mono ?_);rintro e w7 ⟨rfl,rfl⟩))
          go_meet
          case rel=>exact ⟨130,v,rfl,rfl,HVL.out,{ o with n:=((0:Nat):Int) },F6.out.put ((But.refl _ _).setCell 2 _) (ob_n F6.out.o _),HDO.out.ofN (Nat.zero_le _),.inr ⟨by decide,HP.out⟩⟩
         | some m =>
          rw [hnm,qv_some,qe_some] at HNU
          have HP:=Lib.hid (show dput o (key0,v)=some ({ o with n:=(m:Int) },(key0,v)) by rw [HPU.out,hnm];rfl)
          have HMT:=Lib.hid (num_top hnm)
          clear hnm HPU
          go_wp2_with (go_at_call 23;((with_reducible refine (HNU.out _).mono ?_);rintro e w7 ⟨rfl,rfl⟩))
          go_meet
          case rel=>exact ⟨0,v,rfl,rfl,HVL.out,{ o with n:=(m:Int) },F6.out.put ((But.refl _ _).setCell 2 _) (ob_n F6.out.o _),HDO.out.ofN HMT.out,.inl ⟨rfl,HP.out⟩⟩
        obtain ⟨q1,r1⟩:=lit_no (a:=key0) (c:=[110]) k1
        by_cases k2:key0=resK
        ·obtain ⟨q2,r2⟩:=lit_yes (a:=key0) (c:=[114,101,115,117,108,116]) k2
         have c7:w6.cell? ⟨bo,7,none⟩=some (.bool o.yes):=BoxA.cell F6.out.o 7 _
         have fz:=BoxA.free F6.out.o 7
         have clt:=F6.out.o.lt
         by_cases hv:v=okW
         ·obtain ⟨v1,v2⟩:=lit_yes (a:=v) (c:=[111,107]) hv
          have HP:=Lib.hid (show dput o (key0,v)=some ({ o with yes:=true },(key0,v)) by rw [k2,od.dp_res,decide_eq_true hv])
          clear k0 k1 k2 hv
          go_wp2
          go_meet
          case rel=>exact ⟨0,v,rfl,rfl,HVL.out,{ o with yes:=true },F6.out.put ((But.refl _ _).setCell 7 _) (ob_yes F6.out.o _),HDO.out.ofYes _,.inl ⟨rfl,HP.out⟩⟩
         ·obtain ⟨v1,v2⟩:=lit_no (a:=v) (c:=[111,107]) hv
          have HP:=Lib.hid (show dput o (key0,v)=some ({ o with yes:=false },(key0,v)) by rw [k2,od.dp_res,decide_eq_false hv])
          clear k0 k1 k2 hv
          go_wp2
          go_meet
          case rel=>exact ⟨0,v,rfl,rfl,HVL.out,{ o with yes:=false },F6.out.put ((But.refl _ _).setCell 7 _) (ob_yes F6.out.o _),HDO.out.ofYes _,.inl ⟨rfl,HP.out⟩⟩
        obtain ⟨q2,r2⟩:=lit_no (a:=key0) (c:=[114,101,115,117,108,116]) k2
        by_cases k3:key0=accK
        ·obtain ⟨q3,r3⟩:=lit_yes (a:=key0) (c:=[97,99,99,101,115,115]) k3
         have c7:w6.cell? ⟨bo,7,none⟩=some (.bool o.yes):=BoxA.cell F6.out.o 7 _
         have fz:=BoxA.free F6.out.o 7
         have clt:=F6.out.o.lt
         by_cases hv:v=pubV
         ·obtain ⟨v1,v2⟩:=lit_yes (a:=v) (c:=[112,117,98,108,105,99]) hv
          have HP:=Lib.hid (show dput o (key0,v)=some ({ o with yes:=true },(key0,v)) by rw [k3,od.dp_acc,decide_eq_true hv])
          clear k0 k1 k2 k3 hv
          go_wp2
          go_meet
          case rel=>exact ⟨0,v,rfl,rfl,HVL.out,{ o with yes:=true },F6.out.put ((But.refl _ _).setCell 7 _) (ob_yes F6.out.o _),HDO.out.ofYes _,.inl ⟨rfl,HP.out⟩⟩
         ·obtain ⟨v1,v2⟩:=lit_no (a:=v) (c:=[112,117,98,108,105,99]) hv
          have HP:=Lib.hid (show dput o (key0,v)=some ({ o with yes:=false },(key0,v)) by rw [k3,od.dp_acc,decide_eq_false hv])
          clear k0 k1 k2 k3 hv
          go_wp2
          go_meet
          case rel=>exact ⟨0,v,rfl,rfl,HVL.out,{ o with yes:=false },F6.out.put ((But.refl _ _).setCell 7 _) (ob_yes F6.out.o _),HDO.out.ofYes _,.inl ⟨rfl,HP.out⟩⟩
        obtain ⟨q3,r3⟩:=lit_no (a:=key0) (c:=[97,99,99,101,115,115]) k3
        by_cases k4:key0=userK
        ·obtain ⟨q4,r4⟩:=lit_yes (a:=key0) (c:=[117,115,101,114]) k4
         have c5:w6.cell? ⟨bo,5,none⟩=some (.string (str o.user)):=BoxA.cell F6.out.o 5 _
         have fz:=BoxA.free F6.out.o 5
         have clt:=F6.out.o.lt
         have HP:=Lib.hid (show dput o (key0,v)=some ({ o with user:=v },(key0,v)) by rw [k4,od.dp_user])
         clear k0 k1 k2 k3 k4
         go_wp2
         go_meet
         case rel=>exact ⟨0,v,rfl,rfl,HVL.out,{ o with user:=v },F6.out.put ((But.refl _ _).setCell 5 _) (ob_user F6.out.o _),HDO.out.ofUser HVL.out,.inl ⟨rfl,HP.out⟩⟩
        obtain ⟨q4,r4⟩:=lit_no (a:=key0) (c:=[117,115,101,114]) k4
        by_cases k5:key0=nameK
        ·obtain ⟨q5,r5⟩:=lit_yes (a:=key0) (c:=[110,97,109,101]) k5
         have c3:w6.cell? ⟨bo,3,none⟩=some (.string (str o.name)):=BoxA.cell F6.out.o 3 _
         have fz:=BoxA.free F6.out.o 3
         have clt:=F6.out.o.lt
         have HP:=Lib.hid (show dput o (key0,v)=some ({ o with name:=v },(key0,v)) by rw [k5,od.dp_name])
         clear k0 k1 k2 k3 k4 k5
         go_wp2
         go_meet
         case rel=>exact ⟨0,v,rfl,rfl,HVL.out,{ o with name:=v },F6.out.put ((But.refl _ _).setCell 3 _) (ob_name F6.out.o _),HDO.out.ofName HVL.out,.inl ⟨rfl,HP.out⟩⟩
        obtain ⟨q5,r5⟩:=lit_no (a:=key0) (c:=[110,97,109,101]) k5
        by_cases k6:key0=poolK
        ·obtain ⟨q6,r6⟩:=lit_yes (a:=key0) (c:=[112,111,111,108]) k6
         have c4:w6.cell? ⟨bo,4,none⟩=some (.string (str o.pool)):=BoxA.cell F6.out.o 4 _
         have fz:=BoxA.free F6.out.o 4
         have clt:=F6.out.o.lt
         have HP:=Lib.hid (show dput o (key0,v)=some ({ o with pool:=v },(key0,v)) by rw [k6,od.dp_pool])
         clear k0 k1 k2 k3 k4 k5 k6
         go_wp2
         go_meet
         case rel=>exact ⟨0,v,rfl,rfl,HVL.out,{ o with pool:=v },F6.out.put ((But.refl _ _).setCell 4 _) (ob_pool F6.out.o _),HDO.out.ofPool HVL.out,.inl ⟨rfl,HP.out⟩⟩
        obtain ⟨q6,r6⟩:=lit_no (a:=key0) (c:=[112,111,111,108]) k6
        by_cases k7:key0=capK
        ·obtain ⟨q7,r7⟩:=lit_yes (a:=key0) (c:=[99,97,112,97,99,105,116,121]) k7
         have HSZ:=Lib.hid (fun X=>dsize_any v (by have:=HVL.out;omega) X)
         unfold Tnum at HSZ
         have HPU:=Lib.hid (show dput o (key0,v)=(size? v).map fun n=>({ o with size:=(n:Int) },(key0,stxt (n:Int))) by rw [k7];exact od.dp_cap o v)
         clear k0 k1 k2 k3 k4 k5 k6 k7
         cases hnm:size? v with
         | none =>
          rw [hnm,qv_none,qe_none] at HSZ
          have HP:=Lib.hid (show dput o (key0,v)=none by rw [HPU.out,hnm];rfl)
          have HTX:=Lib.hid (fun X=>dstext_any 0 X)
          have HSL:=Lib.hid (stxt_len 0)
          clear hnm HPU
          go_wp2_with (first
           | (go_at_call 24;((with_reducible refine (HSZ.out _).mono ?_);rintro e w7 ⟨rfl,hb⟩);have F7:=Lib.hid (F6.out.next hb);have c6:w7.cell? ⟨bo,6,none⟩=some (.int .i64 o.size):=BoxA.cell F7.out.o 6 _;have fz:=BoxA.free F7.out.o 6;have clt:=F7.out.o.lt;clear hb)
           | (go_at_call 25;((with_reducible refine (HTX.out _).mono ?_);rintro e w8 ⟨rfl,hb⟩);have F8:=Lib.hid ((F7.out.put ((But.refl _ _).setCell 6 _) (ob_size F7.out.o _)).next hb);clear hb))
          go_meet
          case rel=>exact ⟨130,stxt 0,rfl,rfl,Nat.le_trans HSL.out (by decide),{ o with size:=((0:Nat):Int) },F8.out,HDO.out.ofSize (Nat.zero_le _),.inr ⟨by decide,HP.out⟩⟩
         | some m =>
          rw [hnm,qv_some,qe_some] at HSZ
          have HP:=Lib.hid (show dput o (key0,v)=some ({ o with size:=(m:Int) },(key0,stxt (m:Int))) by rw [HPU.out,hnm];rfl)
          have HMT:=Lib.hid (size_le hnm)
          have HTX:=Lib.hid (fun X=>dstext_any (m:Int) X)
          have HSL:=Lib.hid (stxt_len (m:Int))
          clear hnm HPU
          go_wp2_with (first
           | (go_at_call 24;((with_reducible refine (HSZ.out _).mono ?_);rintro e w7 ⟨rfl,hb⟩);have F7:=Lib.hid (F6.out.next hb);have c6:w7.cell? ⟨bo,6,none⟩=some (.int .i64 o.size):=BoxA.cell F7.out.o 6 _;have fz:=BoxA.free F7.out.o 6;have clt:=F7.out.o.lt;clear hb)
           | (go_at_call 25;((with_reducible refine (HTX.out _).mono ?_);rintro e w8 ⟨rfl,hb⟩);have F8:=Lib.hid ((F7.out.put ((But.refl _ _).setCell 6 _) (ob_size F7.out.o _)).next hb);clear hb))
          go_meet
          case rel=>exact ⟨0,stxt (m:Int),rfl,rfl,Nat.le_trans HSL.out (by decide),{ o with size:=(m:Int) },F8.out,HDO.out.ofSize HMT.out,.inl ⟨rfl,HP.out⟩⟩
        obtain ⟨q7,r7⟩:=lit_no (a:=key0) (c:=[99,97,112,97,99,105,116,121]) k7
        have HP:=Lib.hid (show dput o (key0,v)=none from od.dp_none o key0 v k0 k1 k2 k3 k4 k5 k6 k7)
        clear k0 k1 k2 k3 k4 k5 k6 k7
        go_wp2
        go_meet
        case rel=>exact ⟨160,v,rfl,rfl,HVL.out,o,F6.out,HDO.out,.inr ⟨by decide,HP.out⟩⟩
       case rest =>
       obtain ⟨e,U,rfl,rfl,hU,hsw⟩:=hcut
       have zU:(str U).size≤10000:=by rw [str_size];exact hU
       have HU:=Lib.hid hU
       have HSW:=Lib.hid (show SWI w bt gp bo (l0::ws) j o key0 v e U wc from hsw)
       clear hsw hU
       obtain ⟨o',hq,hdo,hh⟩:=HSW.out
       have F8:=Lib.hid hq
       have HD8:=Lib.hid hdo
       clear hq hdo HSW
       rcases hh with ⟨rfl,hdp⟩ | ⟨he,hdp⟩
       ·have HGO:=Lib.hid (od.dorun_go _ _ fs _ _ _ (ws.drop (i+1)) HCX.out hdp)
        have HST:=add5_str T key0 U
        clear hdp
        go_wp2
        go_roundw
        case rel=>exact ⟨i+1,o',fs++[(key0,U)],T++32::(key0++61::U),rfl,by go_num,by omega,len_app HTL.out HLK.out HU.out,F8.out,HD8.out,by
         rw [List.map_append,← List.cons_append]
         show T++32::wtx (key0,U)=joinC 32 ((wordO j::fs.map wtx)++[wtx (key0,U)])
         rw [joinC_snoc 32 _ _ (by simp),← HTT.out],HGO.out.symm.trans HDC.out⟩
        case measure=>simp [intOf];omega
       ·have HB:=Lib.hid (od.dres_no HCS.out HKK.out (HAN.out.trans (HDC.out.symm.trans (od.dorun_bad _ _ _ _ _ HCX.out hdp))))
        have q9:(e != 0)=true:=by rw [bne_iff_ne];exact he
        clear hdp
        go_upto_region 49 with fail
        have HPD:=Lib.hid (show BoxA wc.drew w.heap.size 29 zO from F8.out.p)
        have HSD:=Lib.hid (show BoxA wc.drew (w.heap.size+1) 32 #[.int .i64 0,.int .i64 0] from F8.out.s)
        have HTD:=Lib.hid (show BoxA wc.drew bt 32 #[.int .i64 160,.int .i64 1] from F8.out.t)
        have HBD:=F8.out.bd
        have HLD:=Lib.hid (Below.drew F8.out.low)
        have HSE:=Lib.hid (show (wc.drew.setRow w.heap.size zO).heap[w.heap.size+1]?=some (.cells #[.int .i64 0,.int .i64 0] 32 (0,0)) from (setRow_other _ _ _ _ (by omega)).trans HSD.out)
        have HTE:=Lib.hid (show BoxA (wc.drew.setRow w.heap.size zO) bt 32 #[.int .i64 160,.int .i64 1] from (setRow_other _ _ _ _ (by omega)).trans HTD.out)
        have HTF:=Lib.hid (show BoxA ((wc.drew.setRow w.heap.size zO).setRow (w.heap.size+1) #[.int .i64 160,.int .i64 1]) bt 32 #[.int .i64 160,.int .i64 1] from (setRow_other _ _ _ _ (by omega)).trans HTE.out)
        clear HBD
        refine wp_region_held_drew (S:=(fun X=>BoxA X bt 32 #[.int .i64 160,.int .i64 1])) (by kernel_rfl) (by exact HTD.out) (fun hHeld=>?_)
        refine wpAnyH_take (i:=0) (v:=?_) (ata at0) (by kernel_rfl) (by kernel_rfl) (by kernel_rfl) (fun _ _ _ h=>h) (Or.inl ⟨by rfl,?_⟩) (by assumption) ?_
        rotate_left
        ·(intro w hSw;(try dsimp only at hSw);go_simp;(first | done | with_reducible rfl))
        try simp only [Act.put,List.setIfInBounds_toArray,List.set_cons_zero,List.set_cons_succ]
        refine wpAnyH_take (i:=1) (v:=.agg (#[.int .i64 160,.int .i64 1])) (ata (atS at0)) (by kernel_rfl) (by kernel_rfl) (by kernel_rfl) (fun _ _ _ h=>h) (Or.inl ⟨by rfl,?_⟩) (by assumption) ?_
        ·intro X hX;exact load_row _ _ rfl bt rfl _ _ _ _ hX Tryz.underlying32 rfl (by kernel_rfl)
        try simp only [Act.put,List.setIfInBounds_toArray,List.set_cons_zero,List.set_cons_succ]
        refine wpAnyH_ready (rs:=[2]) (by kernel_rfl) (by simp) ?_
        refine AllReadyH.cons (ata (atS (atS at0))) (fun K hK=>?_) AllReadyH.nil
        refine wp_store_row _ _ _ rfl w.heap.size zO rfl rfl 29 zO HPD.out (by kernel_rfl) rfl (by kernel_rfl) ?_
        refine hK.out _ _ (by exact HTE.out) (fun hHeld=>?_)
        clear hK K
        try simp only [Act.put,List.setIfInBounds_toArray,List.set_cons_zero,List.set_cons_succ]
        refine wpAnyH_ready (rs:=[3]) (by kernel_rfl) (by simp) ?_
        refine AllReadyH.cons (ata (atS (atS (atS at0)))) (fun K hK=>?_) AllReadyH.nil
        refine wp_store_row _ _ _ rfl (w.heap.size+1) #[.int .i64 160,.int .i64 1] rfl rfl 32 #[.int .i64 0,.int .i64 0] HSE.out (by kernel_rfl) rfl (spot_all _ _) ?_
        refine hK.out _ _ (by exact HTF.out) (fun hHeld=>?_)
        clear hK K
        try simp only [Act.put,List.setIfInBounds_toArray,List.set_cons_zero,List.set_cons_succ]
        refine wpAnyH_done (by kernel_rfl) ?_ _
        go_wp2
        exact dopa_ret (o:=Ord.zero) (g:=g0) HLD.out rfl rfl HPD.out HSD.out rfl (by rw [HB.out];rfl) (sr_zero _)
     ·obtain rfl:i=n:=by omega
      have HFD:=Lib.hid (show dorun (Ord.at j) [] ws=some (o,fs) from HAN.out.trans (by
       have:=HDR.out
       rw [List.drop_of_length_le (by rw [HN.out];exact Nat.le_refl _)] at this
       exact this.symm))
      have HRS:=Lib.hid (od.dres HCS.out HKK.out HFD.out)
      rw [←HTT.out] at HRS
      have HTX:=Lib.hid (fun X=>do_text HDO.out HJB.out X)
      unfold OTextT at HTX
      by_cases hc:chkO o=true
      ·have HE:=Lib.hid (show oE o=0∧oT o=txtO o by unfold oE oT;rw [if_pos hc,if_pos hc];exact ⟨rfl,rfl⟩)
       rw [HE.out.1,HE.out.2] at HTX
       obtain ⟨y,hy⟩:∃ y,txtO o=y:=⟨_,rfl⟩
       rw [hy] at HTX HRS
       by_cases hyT:y=T
       ·have HOR:=Lib.hid (HRS.out.1 hc hyT)
        have q1:((str y).toList == (str T).toList)=true:=by rw [eq_str];exact decide_eq_true hyT
        have q2:(str y).toList=(str T).toList:=by rw [hyT]
        clear hc hy hyT HRS
        go_upto_region 54 with (first
         | (refine wpl_load_g (by rfl) _ _ rfl bo rfl _ _ _ _ F1.out.o Tryz.underlying29 rfl (by kernel_rfl) ?_)
         | (go_at_call 13;((refine (HTX.out _).mono ?_);rintro e w6 ⟨rfl,hb⟩);have F6:=Lib.hid (F1.out.next hb);clear hb))
        have HS6:=Lib.hid (show o.slip=Slip.zero from HDO.out.slip)
        have HBD:=F6.out.bd
        go_wp2_with (first
         | (refine wpl_load_g (by rfl) _ _ rfl bo rfl _ _ _ _ F6.out.o Tryz.underlying29 rfl (by kernel_rfl) ?_)
         | (refine wpList_store_row rfl _ _ _ rfl w.heap.size (ocs o g0) rfl rfl _ _ F6.out.p (by kernel_rfl) rfl (ocs_one (by rw [HS6.out];exact sr_zero w6)) ?_)
         | (refine wpList_store_row rfl _ _ _ rfl (w.heap.size+1) #[.int .i64 0,.int .i64 0] rfl rfl _ _ ((setRow_other _ _ _ _ (by omega)).trans F6.out.s) (by kernel_rfl) rfl (spot_all _ _) ?_))
        exact dopa_ret (o:=o) (g:=g0) F6.out.low rfl rfl F6.out.p F6.out.s rfl (by rw [HOR.out];rfl) (by rw [HS6.out];exact sr_zero _)
       ·have HB:=Lib.hid (HRS.out.2.1 hc hyT)
        have q1:((str y).toList == (str T).toList)=false:=by rw [eq_str];exact decide_eq_false hyT
        have q2:¬ (str y).toList=(str T).toList:=fun h=>hyT (by rw [str_toList,str_toList] at h;exact h)
        clear hc hy hyT HRS
        go_upto_region 53 with (first
         | (refine wpl_load_g (by rfl) _ _ rfl bo rfl _ _ _ _ F1.out.o Tryz.underlying29 rfl (by kernel_rfl) ?_)
         | (go_at_call 13;((refine (HTX.out _).mono ?_);rintro e w6 ⟨rfl,hb⟩);have F6:=Lib.hid (F1.out.next hb);clear hb))
        have HPD:=Lib.hid (show BoxA w6.drew w.heap.size 29 zO from F6.out.p)
        have HSD:=Lib.hid (show BoxA w6.drew (w.heap.size+1) 32 #[.int .i64 0,.int .i64 0] from F6.out.s)
        have HTD:=Lib.hid (show BoxA w6.drew bt 32 #[.int .i64 160,.int .i64 1] from F6.out.t)
        have HBD:=F6.out.bd
        have HLD:=Lib.hid (Below.drew F6.out.low)
        have HSE:=Lib.hid (show (w6.drew.setRow w.heap.size zO).heap[w.heap.size+1]?=some (.cells #[.int .i64 0,.int .i64 0] 32 (0,0)) from (setRow_other _ _ _ _ (by omega)).trans HSD.out)
        have HTE:=Lib.hid (show BoxA (w6.drew.setRow w.heap.size zO) bt 32 #[.int .i64 160,.int .i64 1] from (setRow_other _ _ _ _ (by omega)).trans HTD.out)
        have HTF:=Lib.hid (show BoxA ((w6.drew.setRow w.heap.size zO).setRow (w.heap.size+1) #[.int .i64 160,.int .i64 1]) bt 32 #[.int .i64 160,.int .i64 1] from (setRow_other _ _ _ _ (by omega)).trans HTE.out)
        clear HBD
        refine wp_region_held_drew (S:=(fun X=>BoxA X bt 32 #[.int .i64 160,.int .i64 1])) (by kernel_rfl) (by exact HTD.out) (fun hHeld=>?_)
        refine wpAnyH_take (i:=0) (v:=?_) (ata at0) (by kernel_rfl) (by kernel_rfl) (by kernel_rfl) (fun _ _ _ h=>h) (Or.inl ⟨by rfl,?_⟩) (by assumption) ?_
        rotate_left
        ·(intro w hSw;(try dsimp only at hSw);go_simp;(first | done | with_reducible rfl))
        try simp only [Act.put,List.setIfInBounds_toArray,List.set_cons_zero,List.set_cons_succ]
        refine wpAnyH_take (i:=1) (v:=.agg (#[.int .i64 160,.int .i64 1])) (ata (atS at0)) (by kernel_rfl) (by kernel_rfl) (by kernel_rfl) (fun _ _ _ h=>h) (Or.inl ⟨by rfl,?_⟩) (by assumption) ?_
        ·intro X hX;exact load_row _ _ rfl bt rfl _ _ _ _ hX Tryz.underlying32 rfl (by kernel_rfl)
        try simp only [Act.put,List.setIfInBounds_toArray,List.set_cons_zero,List.set_cons_succ]
        refine wpAnyH_ready (rs:=[2]) (by kernel_rfl) (by simp) ?_
        refine AllReadyH.cons (ata (atS (atS at0))) (fun K hK=>?_) AllReadyH.nil
        refine wp_store_row _ _ _ rfl w.heap.size zO rfl rfl 29 zO HPD.out (by kernel_rfl) rfl (by kernel_rfl) ?_
        refine hK.out _ _ (by exact HTE.out) (fun hHeld=>?_)
        clear hK K
        try simp only [Act.put,List.setIfInBounds_toArray,List.set_cons_zero,List.set_cons_succ]
        refine wpAnyH_ready (rs:=[3]) (by kernel_rfl) (by simp) ?_
        refine AllReadyH.cons (ata (atS (atS (atS at0)))) (fun K hK=>?_) AllReadyH.nil
        refine wp_store_row _ _ _ rfl (w.heap.size+1) #[.int .i64 160,.int .i64 1] rfl rfl 32 #[.int .i64 0,.int .i64 0] HSE.out (by kernel_rfl) rfl (spot_all _ _) ?_
        refine hK.out _ _ (by exact HTF.out) (fun hHeld=>?_)
        clear hK K
        try simp only [Act.put,List.setIfInBounds_toArray,List.set_cons_zero,List.set_cons_succ]
        refine wpAnyH_done (by kernel_rfl) ?_ _
        go_wp2
        exact dopa_ret (o:=Ord.zero) (g:=g0) HLD.out rfl rfl HPD.out HSD.out rfl (by rw [HB.out];rfl) (sr_zero _)
      ·have HE:=Lib.hid (show oE o=160∧oT o=[] by unfold oE oT;rw [if_neg hc,if_neg hc];exact ⟨rfl,rfl⟩)
       rw [HE.out.1,HE.out.2] at HTX
       have HB:=Lib.hid (HRS.out.2.2 hc)
       clear hc HRS
       go_upto_region 53 with (first
         | (refine wpl_load_g (by rfl) _ _ rfl bo rfl _ _ _ _ F1.out.o Tryz.underlying29 rfl (by kernel_rfl) ?_)
         | (go_at_call 13;((refine (HTX.out _).mono ?_);rintro e w6 ⟨rfl,hb⟩);have F6:=Lib.hid (F1.out.next hb);clear hb))
       have HPD:=Lib.hid (show BoxA w6.drew w.heap.size 29 zO from F6.out.p)
       have HSD:=Lib.hid (show BoxA w6.drew (w.heap.size+1) 32 #[.int .i64 0,.int .i64 0] from F6.out.s)
       have HTD:=Lib.hid (show BoxA w6.drew bt 32 #[.int .i64 160,.int .i64 1] from F6.out.t)
       have HBD:=F6.out.bd
       have HLD:=Lib.hid (Below.drew F6.out.low)
       have HSE:=Lib.hid (show (w6.drew.setRow w.heap.size zO).heap[w.heap.size+1]?=some (.cells #[.int .i64 0,.int .i64 0] 32 (0,0)) from (setRow_other _ _ _ _ (by omega)).trans HSD.out)
       have HTE:=Lib.hid (show BoxA (w6.drew.setRow w.heap.size zO) bt 32 #[.int .i64 160,.int .i64 1] from (setRow_other _ _ _ _ (by omega)).trans HTD.out)
       have HTF:=Lib.hid (show BoxA ((w6.drew.setRow w.heap.size zO).setRow (w.heap.size+1) #[.int .i64 160,.int .i64 1]) bt 32 #[.int .i64 160,.int .i64 1] from (setRow_other _ _ _ _ (by omega)).trans HTE.out)
       clear HBD
       refine wp_region_held_drew (S:=(fun X=>BoxA X bt 32 #[.int .i64 160,.int .i64 1])) (by kernel_rfl) (by exact HTD.out) (fun hHeld=>?_)
       refine wpAnyH_take (i:=0) (v:=?_) (ata at0) (by kernel_rfl) (by kernel_rfl) (by kernel_rfl) (fun _ _ _ h=>h) (Or.inl ⟨by rfl,?_⟩) (by assumption) ?_
       rotate_left
       ·(intro w hSw;(try dsimp only at hSw);go_simp;(first | done | with_reducible rfl))
       try simp only [Act.put,List.setIfInBounds_toArray,List.set_cons_zero,List.set_cons_succ]
       refine wpAnyH_take (i:=1) (v:=.agg (#[.int .i64 160,.int .i64 1])) (ata (atS at0)) (by kernel_rfl) (by kernel_rfl) (by kernel_rfl) (fun _ _ _ h=>h) (Or.inl ⟨by rfl,?_⟩) (by assumption) ?_
       ·intro X hX;exact load_row _ _ rfl bt rfl _ _ _ _ hX Tryz.underlying32 rfl (by kernel_rfl)
       try simp only [Act.put,List.setIfInBounds_toArray,List.set_cons_zero,List.set_cons_succ]
       refine wpAnyH_ready (rs:=[2]) (by kernel_rfl) (by simp) ?_
       refine AllReadyH.cons (ata (atS (atS at0))) (fun K hK=>?_) AllReadyH.nil
       refine wp_store_row _ _ _ rfl w.heap.size zO rfl rfl 29 zO HPD.out (by kernel_rfl) rfl (by kernel_rfl) ?_
       refine hK.out _ _ (by exact HTE.out) (fun hHeld=>?_)
       clear hK K
       try simp only [Act.put,List.setIfInBounds_toArray,List.set_cons_zero,List.set_cons_succ]
       refine wpAnyH_ready (rs:=[3]) (by kernel_rfl) (by simp) ?_
       refine AllReadyH.cons (ata (atS (atS (atS at0)))) (fun K hK=>?_) AllReadyH.nil
       refine wp_store_row _ _ _ rfl (w.heap.size+1) #[.int .i64 160,.int .i64 1] rfl rfl 32 #[.int .i64 0,.int .i64 0] HSE.out (by kernel_rfl) rfl (spot_all _ _) ?_
       refine hK.out _ _ (by exact HTF.out) (fun hHeld=>?_)
       clear hK K
       try simp only [Act.put,List.setIfInBounds_toArray,List.set_cons_zero,List.set_cons_succ]
       refine wpAnyH_done (by kernel_rfl) ?_ _
       go_wp2
       exact dopa_ret (o:=Ord.zero) (g:=g0) HLD.out rfl rfl HPD.out HSD.out rfl (by rw [HB.out];rfl) (sr_zero _)
end Go.Proofs.YtekcjfdllclphaaGreatDoor.gn
end
