/- The contract of read: the order of a line. -/
import Derived.Test.YtekcjfdllclphaaGreatDoorMQbOrG
import Derived.Test.YtekcjfdllclphaaGreatDoorMQbOrI
import Derived.Test.YtekcjfdllclphaaGreatDoorMQbSlLi
import Derived.Test.YtekcjfdllclphaaGreatDoorMQbOrR
set_option linter.unusedVariables false
set_option linter.unusedSimpArgs false
section
namespace Go.Proofs.YtekcjfdllclphaaGreatDoor.gn
open Go.RowKit
open Go.Proofs.YtekcjfdllclphaaGreatDoor.un
open Go.Proofs.YtekcjfdllclphaaGreatDoor.di
open Go.Proofs.YtekcjfdllclphaaGreatDoor.sp (Slip cuts cutB joinC fldB fldB_len cuts_ne join_cuts)
open Go.Proofs.YtekcjfdllclphaaGreatDoor.od (Ord okO stO fsO keysO wordO LO kindN kindN_le pread pway pread_cons line_cut cut_join orun)
def zO:Array Value:=#[.int .u8 0,.int .i64 0,.int .i64 0,.string { data:=#[] },.string { data:=#[] },.string { data:=#[] },.int .i64 0,.bool false,.string { data:=#[] },.int .i64 0,.int .i64 0,.int .i64 0,.slice none 0 0,.int .i64 0,.int .i64 0,.int .i64 0,.string { data:=#[] },.slice none 0 0,.slice none 0 0,.slice none 0 0]
def atO (k:Nat):Array Value:=#[.int .u8 (k:Nat),.int .i64 0,.int .i64 0,.string { data:=#[] },.string { data:=#[] },.string { data:=#[] },.int .i64 0,.bool false,.string { data:=#[] },.int .i64 0,.int .i64 0,.int .i64 0,.slice none 0 0,.int .i64 0,.int .i64 0,.int .i64 0,.string { data:=#[] },.slice none 0 0,.slice none 0 0,.slice none 0 0]
theorem zO_eq:ocs Ord.zero g0=zO:=rfl
theorem ocs_one {w:World} {o:Ord} {g:Gh} (h:SR w o.slip g):(ocs o g).all (·.oneCell')=true:=by
 have:=scs_one h
 simp only [scs,ocs,Array.all_eq_true'] at this ⊢
 intro u hu
 simp only [List.mem_toArray,List.mem_cons,List.not_mem_nil,or_false] at hu this
 rcases hu with rfl | rfl | rfl | rfl | rfl | rfl | rfl | rfl | hu
 ·rfl
 ·rfl
 ·rfl
 ·rfl
 ·rfl
 ·rfl
 ·rfl
 ·rfl
 ·exact this u hu
theorem OW_at {k:Nat} (h:k≤255):OW (Ord.at k):=by
 have z:-9223372036854775808≤(0:Int)∧(0:Int)≤9223372036854775807:=by decide
 exact ⟨z,z,z,Nat.zero_le _,Nat.zero_le _,Nat.zero_le _,h⟩
theorem cellF {w:World} {b off:Nat} {l:List FE} (h:CellsC w b off (flF l)) {k:Nat} {d:FE} (hd:l[k]?=some d) :
  w.cell? ⟨b,off+k * 3,none⟩=some (.string (str d.key))∧w.cell? ⟨b,off+k * 3+1,none⟩=some (.string (str d.text))∧w.cell? ⟨b,off+k * 3+2,none⟩=some (.func (.func d.fn) #[] d.cp):=by
 have key:=fun j u=>h.elt (f:=cF) (k:=3) (fun _=>rfl) (j:=j) (u:=u) hd
 refine ⟨key 0 _ (by decide) rfl,?_,?_⟩
 ·have:=key 1 _ (by decide) rfl;rwa [←Nat.add_assoc] at this
 ·have:=key 2 _ (by decide) rfl;rwa [←Nat.add_assoc] at this
theorem FlS.next {w w':World} {bo k:Nat} {g:Gh} {fs:List (Tx × Tx)} {L:List FE} (h:FlS w bo k g fs L) (hb:Below w.heap.size w w'):FlS w' bo k g fs L:=⟨h.map,fun f hf=>(h.sto f hf).next hb⟩
theorem FlS.but {w w':World} {bo k:Nat} {g:Gh} {fs:List (Tx × Tx)} {L:List FE} (h:FlS w bo k g fs L) (hb:But bo w w'):FlS w' bo k g fs L:=⟨h.map,fun f hf=>(h.sto f hf).but hb⟩
theorem FlS.key {w:World} {bo k:Nat} {g:Gh} {o:Ord} {L:List FE} (h:FlS w bo k g (fsO o) L) {i:Nat} {f:FE} (hf:L[i]?=some f):(keysO o.kind)[i]?=some f.key∧(fsO o)[i]?=some (f.key,f.text):=by
 have h1:(fsO o)[i]?=some (f.key,f.text):=by rw [←h.map,List.getElem?_map,hf];rfl
 refine ⟨?_,h1⟩
 rw [←od.keys_fs,List.getElem?_map,h1]
 rfl
theorem FlS.len {w:World} {bo k:Nat} {g:Gh} {o:Ord} {L:List FE} (h:FlS w bo k g (fsO o) L):(keysO o.kind).length=L.length∧(fsO o).length=L.length:=by
 have h1:(fsO o).length=L.length:=by rw [←h.map,List.length_map]
 exact ⟨by rw [←od.keys_fs,List.length_map,h1],h1⟩
structure LS (w:World) (B bo k:Nat) (line:Tx) (ws0:List Tx) (v:Value) (L:List FE) (i:Nat) (ws:List Tx) (o:Ord) (W:World):Prop where
 lo:LO k ws0 i ws o
 o:OrdB W bo o g0
 fl:FlS W bo k g0 (fsO (Ord.at k)) L
 own:W.ownsRow B 67 3 v L.length (flF L)
 res:BoxA W w.heap.size 29 zO
 low:Below w.heap.size w W
 len:(joinC 32 ws).length≤line.length
 bd:w.heap.size < bo∧bo < B
section
variable {w W W' : World} {B bo k i : Nat} {line : Tx} {ws0 ws : List Tx} {v : Value} {L : List FE} {o : Ord}
theorem LS.next (h:LS w B bo k line ws0 v L i ws o W) (hb:Below W.heap.size W W'):LS w B bo k line ws0 v L i ws o W' :=
 ⟨h.lo,h.o.next hb,h.fl.next hb,own_same h.own fun b hb2=>hb.block b (World.ownsRow.lt h.own b hb2).2,h.res.next hb,h.low.trans (hb.mono h.low.size),h.len,h.bd⟩
theorem LS.low2 (h:LS w B bo k line ws0 v L i ws o W) (hb:But bo W W'):Below w.heap.size w W':=h.low.grown hb h.low.size (fun j hj=>by cases hj;have:=h.bd.1;omega)
theorem LS.turn (h:LS w B bo k line ws0 v L i ws o W) {f:FE} (hf:L[i]?=some f) (h1:(fldB 61 (ws.headD [])).1=f.key) (h2:okO k f.key (fldB 61 (ws.headD [])).2=true) (hl:(joinC 32 ws.tail).length≤(joinC 32 ws).length) (hb:But bo W W') (ho:OrdB W' bo (stO f.key (fldB 61 (ws.headD [])).2 o) g0) :
  LS w B bo k line ws0 v L (i+1) ws.tail (stO f.key (fldB 61 (ws.headD [])).2 o) W' :=
 ⟨h.lo.step (h.fl.key (o:=Ord.at k) hf).1 h1 h2,ho,h.fl.but hb,own_same h.own fun b hb2=>hb.block b (World.ownsRow.lt h.own b hb2).2 (fun e=>by have:=(World.ownsRow.lt h.own b hb2).1;have:=h.bd.2;have:=Option.some.inj e;omega),
  h.res.but hb (by have:=h.bd.1;omega),h.low2 hb,Nat.le_trans hl h.len,h.bd⟩
end
def OreadT (line:Tx) (w:World) (e:Ending) (w':World):Prop:=∃ o',e=.returned (.tuple #[oV o' g0,.bool (pread line).isSome])∧(∀ o,pread line=some o→o'=o)∧Below w.heap.size w w'
theorem oline_ret {line:Tx} {tmps:Array Value} {w W:World} {old cs:Array Value} {b:Bool} {o':Ord} (hr:BoxA W w.heap.size 29 old) (hlow:Below w.heap.size w W) (h23:(tmps.getD 2 undef,tmps.getD 3 undef)=(.pointer (some ⟨w.heap.size,0,none⟩),.bool b))
  (hcs:ocs o' g0=cs) (hb:(pread line).isSome=b) (ho:∀ o,pread line=some o→o'=o):bodyPost Tryz.prog Tryz.f17 (OreadT line w) Exit.ret ⟨tmps,[]⟩ (W.setRow w.heap.size cs):=by
 subst hcs
 exact bodyPost_ret (v:=.tuple #[oV o' g0,.bool b]) (results_two2 rfl _ _ w.heap.size _ (ocs o' g0) _ _ _ h23 (setRow_heap _ _ _ _ _ _ hr) Tryz.underlying29 rfl (by kernel_rfl)) rfl ⟨o',by rw [hb],ho,below_setRow hlow (Nat.le_refl _) _⟩
theorem none_ret {line:Tx} (h:pread line=none):(pread line).isSome=false∧∀ o,pread line=some o→Ord.zero=o:=by
 rw [h]
 exact ⟨rfl,fun o e=>by cases e⟩
set_option maxRecDepth 100000 in
set_option maxHeartbeats 16000000 in
theorem oline_any (line:Tx) (hl:line.length≤100000) (w:World) (hL:LaidD w):Calls Tryz.prog 17 #[.string (str line)] w (OreadT line w):=by
 obtain ⟨word,ws0,hcs⟩:∃ a b,cuts 32 line=a::b:=by
  cases h:cuts 32 line with
  | nil=>exact absurd h (cuts_ne 32 line)
  | cons a b=>exact ⟨a,b,rfl⟩
 obtain ⟨hc1,hc2,hc3⟩:=line_cut line
 rw [hcs] at hc1 hc2 hc3
 simp only [List.headD_cons,List.tail_cons] at hc1 hc2 hc3
 have HPR:=Lib.hid (pread_cons hcs)
 have hjl:(joinC 32 ws0).length≤line.length:=by have:=(fldB_len 32 line).2;rw [hc1] at this;exact this
 obtain ⟨W,hW,b1,hlw,hs⟩:=made1 w zO 29
 have HC:=Lib.hid (cut_c 32 line hl W (hL.next hlw))
 rw [hc1,hc2] at HC
 dsimp only at HC
 obtain ⟨k,hk⟩:∃ k,kindN word=k:=⟨_,rfl⟩
 have hk18:k≤18:=by rw [←hk];exact (kindN_le word).1
 have HK:=Lib.hid (fun (X:World)=>okind_any word X)
 rw [hk] at HK HPR
 have HB1:=Lib.hid b1
 have HW:=Lib.hid (show w.alloc (.cells zO 29)=W from hW)
 have HLW:=Lib.hid hlw
 have HS:=Lib.hid hs
 have HL:=Lib.hid (fun (X:World) (hb:Below w.heap.size w X)=>hL.next hb)
 have HJL:=Lib.hid hjl
 have HC3:=Lib.hid hc3
 have HLL:=Lib.hid hl
 clear hcs hc1 hc2 hc3 hjl b1 hlw hs hW hk hL hl
 unfold zO at HW
 go_enter Tryz.func17,Tryz.ntmps17
 go_upto_region 1 with fail
 rw [HW.out]
 go_upto_region 3 with (first
  | (go_at_call 16;((with_reducible refine HC.out.mono ?_);rintro e w1 ⟨rfl,hb⟩);have A1:=Lib.hid hb;clear hb)
  | (go_at_call 38;((with_reducible refine (HK.out _).mono ?_);rintro e w2 ⟨rfl,hb⟩);have A2:=Lib.hid hb;clear hb)
  | (refine wpList_store_row rfl _ _ _ rfl w2.heap.size (atO k) rfl rfl _ _ (BoxA.new w2 _ _) (by kernel_rfl) rfl (by kernel_rfl) ?_))
 obtain ⟨w3,hw3,hbx,hb3⟩:=box_end w2 zO (atO k) 29
 unfold zO at hw3
 rw [hw3]
 have hlow2:Below w.heap.size w w2:=HLW.out.trans ((A1.out.trans (A2.out.mono A1.out.size)).mono HLW.out.size)
 have HO3:=Lib.hid (show OrdB w3 w2.heap.size (Ord.at k) g0 from hbx)
 have HLOW3:=Lib.hid (hlow2.trans (hb3.mono hlow2.size))
 have HR3:=Lib.hid (((HB1.out.next A1.out).next A2.out).next hb3)
 have HBO:=Lib.hid (show w.heap.size < w2.heap.size∧w2.heap.size < w3.heap.size from ⟨by have:=A1.out.size;have:=A2.out.size;have:=HS.out;omega,HO3.out.lt⟩)
 clear hw3 hbx hb3 hlow2
 generalize w2.heap.size=bo at *
 have HFD:=Lib.hid (ofields_any bo (Ord.at k) g0 w3 HO3.out (OW_at (by omega)) (HL.out _ HLOW3.out).u)
 unfold FieldsT at HFD
 go_upto_region 4 with (go_at_call 29;((with_reducible refine HFD.out.mono ?_);rintro e w4 ⟨v,L,rfl,hfl,hown,hb⟩);obtain ⟨p,c,hv⟩:=(RdC.form (ApC.rdc (.inr hown)));have HLS0:=Lib.hid (show LS w w3.heap.size bo k line ws0 v L 0 ws0 (Ord.at k) w4 from ⟨LO.start k HC3.out,HO3.out.next hb,hfl,hown,HR3.out.next hb,HLOW3.out.trans (hb.mono HLOW3.out.size),HJL.out,HBO.out⟩);subst hv;clear hfl hown hb)
 obtain ⟨n,hn⟩:∃ n,L.length=n:=⟨_,rfl⟩
 have HN:=Lib.hid hn
 have hn5:n≤8:=by
  have:=HLS0.out.fl.len (o:=Ord.at k)
  rw [←hn,← this.2]
  exact od.fs_count _
 rw [hn] at HLS0 ⊢
 clear hn
 go_loopw [5,6,25] (fun s5 s6 s25 W=>∃ (i:Nat) (ws:List Tx) (o:Ord),s5=.string (str (joinC 32 ws))∧s6=.bool (decide (ws≠[]))∧s25=.int .i64 (i:Int)∧i≤n∧Aside (LS w w3.heap.size bo k line ws0 (.slice p n c) L i ws o W)) (fun _ _ s25 _=>n - (intOf s25).toNat)
 case atStart=>exact ⟨0,ws0,Ord.at k,rfl,rfl,rfl,Nat.zero_le _,HLS0.out⟩
 case round =>
  obtain ⟨i,ws,o,rfl,rfl,rfl,hi,hls⟩:=hrel
  have HR:=Lib.hid (show LS w w3.heap.size bo k line ws0 (.slice p n c) L i ws o wr from hls)
  clear hls HLS0
  by_cases hin:i < n
  ·have hrd:=ApC.rdc (.inr HR.out.own)
   rw [HN.out] at hrd
   obtain ⟨b,off,hp,hb,hc⟩:=RdC.at_ (size:=3) hrd rfl (by omega)
   subst hp
   obtain ⟨f,hf⟩:∃ f,L[i]?=some f:=⟨_,List.getElem?_eq_getElem (by rw [HN.out];exact hin)⟩
   obtain ⟨y0,y1,y2⟩:=cellF hc hf
   have HF:=Lib.hid hf
   have hst:=HR.out.fl.sto f (List.mem_of_getElem? hf)
   have hen:=hst.en
   have hws:=HR.out.lo.c
   have hwl:=HR.out.len
   have HKEY:=Lib.hid (HR.out.fl.key (o:=Ord.at k) hf).1
   clear hrd hc hst
   obtain ⟨key,tx,fn,cp⟩:=f
   dsimp only at y0 y1 y2 hen HKEY
   go_upto_region 6 with (refine wpList_store_row rfl _ _ _ rfl wr.heap.size #[.string (str key),.string (str tx),.func (.func fn) #[] cp] rfl rfl _ _ (BoxA.new wr _ _) (by kernel_rfl) rfl (by kernel_rfl) ?_)
   obtain ⟨w5,hw5,hD,hb4⟩:=box_end wr #[.string { data:=#[] },.string { data:=#[] },.nilFunc] #[.string (str key),.string (str tx),.func (.func fn) #[] cp] 67
   rw [hw5]
   clear hw5
   have HR4:=Lib.hid (HR.out.next hb4)
   generalize wr.heap.size=bd at *
   have HD:=Lib.hid hD
   have hcj:=cut_join ws hws
   have HCA:=Lib.hid (cut_c 32 (joinC 32 ws) (by have:=HLL.out;omega) w5 (HL.out _ HR4.out.low))
   rw [hcj.1,hcj.2] at HCA
   have hjt:(joinC 32 ws.tail).length≤(joinC 32 ws).length:=by have:=(fldB_len 32 (joinC 32 ws)).2;rw [hcj.1] at this;exact this
   have hph:(ws.headD []).length≤line.length:=by have:=(fldB_len 32 (joinC 32 ws)).1;rw [hcj.1] at this;exact Nat.le_trans this hwl
   have HJT:=Lib.hid hjt
   have HCE:=Lib.hid (fun (X:World) (hX:Below w.heap.size w X)=>cut_c 61 (ws.headD []) (by have:=HLL.out;omega) X (HL.out X hX))
   have hvl:=(fldB_len 61 (ws.headD [])).2
   obtain ⟨part,hpart⟩:∃ a,ws.headD []=a:=⟨_,rfl⟩
   obtain ⟨rest2,hrest2⟩:∃ a,joinC 32 ws.tail=a:=⟨_,rfl⟩
   obtain ⟨more2,hmore2⟩:∃ a,decide (ws.tail≠[])=a:=⟨_,rfl⟩
   rw [hpart,hrest2,hmore2] at HCA
   rw [hpart] at HCE
   have HRM:=Lib.hid (And.intro hrest2 hmore2)
   clear hrest2 hmore2
   obtain ⟨key',hkey'⟩:∃ a,(fldB 61 (ws.headD [])).1=a:=⟨_,rfl⟩
   obtain ⟨v',hv'⟩:∃ a,(fldB 61 (ws.headD [])).2=a:=⟨_,rfl⟩
   rw [←hpart,hkey',hv',hpart] at HCE
   rw [hv'] at hvl
   have HKV:=Lib.hid (And.intro hkey' hv')
   have HVL:=Lib.hid (show v'.length≤140737488355328 by have:=HLL.out;omega)
   dsimp only at HCA
   clear hD hb4 y0 y1 y2 hb hws hwl hcj hjt hph hkey' hv' hvl hpart
   go_upto_region 9 with (first
    | (go_at_call 16;((with_reducible refine HCA.out.mono ?_);rintro e w6 ⟨rfl,hb⟩);have HR6:=Lib.hid (HR4.out.next hb);have HD6:=Lib.hid (HD.out.next hb);clear hb)
    | (go_at_call 16;((with_reducible refine (HCE.out _ HR6.out.low).mono ?_);rintro e w7 ⟨rfl,hb⟩);have HR7:=Lib.hid (HR6.out.next hb);have HD7:=Lib.hid (HD6.out.next hb);clear hb))
   have z0:=HD7.out.cell 0 _
   have z2:=HD7.out.cell 2 _
   have zl:=HD7.out.lt
   by_cases hkk:key'=key
   ·subst hkk
    have HST:=Lib.hid ((HR7.out.fl.sto _ (List.mem_of_getElem? HF.out)).call o v' HR7.out.o HVL.out (HL.out _ HR7.out.low).u)
    unfold StO at HST
    dsimp only at HST
    obtain ⟨okb,hok⟩:∃ okb,okO k key' v'=okb:=⟨_,rfl⟩
    rw [hok] at HST
    have HOK:=Lib.hid hok
    clear hok
    cases okb with
    | true =>
     go_wp2_with (go_at_fn fn;((with_reducible refine HST.out.mono ?_);rintro e w8 ⟨rfl,hbt,ho⟩);have HBT:=Lib.hid hbt;have HO8:=Lib.hid ho;clear hbt ho)
     go_roundw
     case rel=>exact ⟨i+1,ws.tail,_,by rw [HRM.out.1],by rw [HRM.out.2],by go_num,by omega,by
      have ht:=HR7.out.turn HF.out HKV.out.1 (by rw [HKV.out.2];exact HOK.out) HJT.out HBT.out (by rw [HKV.out.2];exact HO8.out)
      rw [HKV.out.2] at ht
      exact ht⟩
     case measure=>simp [intOf];omega
    | false =>
     have HNO:=Lib.hid (none_ret (show pread line=none by
      rw [HPR.out]
      unfold pway
      split
      ·rfl
      ·exact HR.out.lo.fail HKEY.out (by rw [HKV.out.2];intro h;rw [HOK.out] at h;cases h.2)))
     have hne:w.heap.size≠bo:=by have:=HBO.out.1;omega
     go_wp2_with (first
      | (go_at_fn fn;((with_reducible refine HST.out.mono ?_);rintro e w8 ⟨rfl,hbt,ho⟩);have HBT:=Lib.hid hbt;have HRS:=Lib.hid (HR7.out.res.but hbt hne);clear hbt ho)
      | (refine wpList_store_row rfl _ _ _ rfl w.heap.size zO rfl rfl _ _ HRS.out (by kernel_rfl) rfl (by kernel_rfl) ?_))
     exact oline_ret HRS.out (HR7.out.low2 HBT.out) rfl zO_eq HNO.out.1 HNO.out.2
   ·obtain ⟨q1,q2⟩:=(⟨by rw [eq_str];exact decide_eq_false hkk,fun h=>hkk (by rw [str_toList,str_toList] at h;exact h)⟩:((str key').toList == (str key).toList)=false∧¬ (str key').toList=(str key).toList)
    have HNO:=Lib.hid (none_ret (show pread line=none by
     rw [HPR.out]
     unfold pway
     split
     ·rfl
     ·exact HR.out.lo.fail HKEY.out (by rw [HKV.out.1];exact fun h=>hkk h.1)))
    clear hkk
    go_wp2_with (refine wpList_store_row rfl _ _ _ rfl w.heap.size zO rfl rfl _ _ HR7.out.res (by kernel_rfl) rfl (by kernel_rfl) ?_)
    exact oline_ret HR7.out.res HR7.out.low rfl zO_eq HNO.out.1 HNO.out.2
  ·obtain rfl:i=n:=by omega
   have HFIN:=Lib.hid (show orun k (Ord.at k) (keysO k) ws0=if ws=[] then some o else none from LO.fin (by
    have:=(HR.out.fl.len (o:=Ord.at k)).1
    rw [show (Ord.at k).kind=k from rfl,HN.out] at this
    rw [this]
    exact HR.out.lo))
   have hkd:o.kind=k:=HR.out.lo.kd
   have c0:wr.cell? ⟨bo,0,none⟩=some (.int .u8 (k:Nat)):=by rw [←hkd];exact BoxA.cell HR.out.o 0 _
   have hlt:=HR.out.o.lt
   have HON:=Lib.hid (show (ocs o g0).all (·.oneCell')=true by kernel_rfl)
   clear hkd hin
   by_cases hk0:k=0
   ·subst hk0
    have HNO:=Lib.hid (show pread line=none by rw [HPR.out];rfl)
    go_wp2_with (first
     | (refine wpList_load_row rfl _ _ rfl bo rfl _ _ _ _ HR.out.o Tryz.underlying29 rfl (by kernel_rfl) ?_)
     | (refine wpList_store_row rfl _ _ _ rfl w.heap.size (ocs o g0) rfl rfl _ _ HR.out.res (by kernel_rfl) rfl HON.out ?_))
    exact oline_ret HR.out.res HR.out.low rfl rfl (by rw [HNO.out];rfl) (fun o h=>by rw [HNO.out] at h;cases h)
   ·have q0:((k:Int) != 0)=true:=by simp;omega
    have HP2:=Lib.hid (show pread line=if ws=[] then some o else none by rw [HPR.out];unfold pway;rw [if_neg hk0];exact HFIN.out)
    by_cases hw0:ws=[]
    ·have HNO:=Lib.hid (show pread line=some o by rw [HP2.out,if_pos hw0])
     have q1:decide (ws≠[])=false:=by rw [hw0];rfl
     rw [q1]
     clear q1 hw0
     go_wp2_with (first
      | (refine wpList_load_row rfl _ _ rfl bo rfl _ _ _ _ HR.out.o Tryz.underlying29 rfl (by kernel_rfl) ?_)
      | (refine wpList_store_row rfl _ _ _ rfl w.heap.size (ocs o g0) rfl rfl _ _ HR.out.res (by kernel_rfl) rfl HON.out ?_))
     exact oline_ret HR.out.res HR.out.low rfl rfl (by rw [HNO.out];rfl) (fun o2 h=>by rw [HNO.out] at h;exact Option.some.inj h)
    ·have HNO:=Lib.hid (show pread line=none by rw [HP2.out,if_neg hw0])
     have q1:decide (ws≠[])=true:=decide_eq_true hw0
     rw [q1]
     clear q1 hw0
     go_wp2_with (first
      | (refine wpList_load_row rfl _ _ rfl bo rfl _ _ _ _ HR.out.o Tryz.underlying29 rfl (by kernel_rfl) ?_)
      | (refine wpList_store_row rfl _ _ _ rfl w.heap.size (ocs o g0) rfl rfl _ _ HR.out.res (by kernel_rfl) rfl HON.out ?_))
     exact oline_ret HR.out.res HR.out.low rfl rfl (by rw [HNO.out];rfl) (fun o h=>by rw [HNO.out] at h;cases h)
end Go.Proofs.YtekcjfdllclphaaGreatDoor.gn
end
