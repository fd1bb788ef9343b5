/- The contracts of apart, Check. -/
import Derived.Test.YtekcjfdllclphaaGreatDoorMQbSlLi
import Derived.Test.YtekcjfdllclphaaGreatDoorMQbGenLoad
import Derived.Maps.AppendAt
import Derived.BigFrame
import Derived.Laws.AppendOwnNone
set_option linter.unusedVariables false
set_option linter.unusedSimpArgs false
section
namespace Go.Proofs.YtekcjfdllclphaaGreatDoor.gn
open Go.RowKit
open Go.Proofs.YtekcjfdllclphaaGreatDoor.un
open Go.Proofs.YtekcjfdllclphaaGreatDoor.di
open Go.Proofs.YtekcjfdllclphaaGreatDoor.sp (Slip shortP soundP waitsP storedP apartP dirsP dropD useD capD innD outD chkS chkS_P)
theorem apart_eq (x:Slip):apartP x=(decide (∀ d∈x.make,d.kind=4) && (decide (x.make.map (·.name)++x.use).Nodup && decide x.drop.Nodup)):=by
 unfold apartP
 rw [Bool.eq_iff_iff]
 simp only [Bool.and_eq_true,decide_eq_true_eq]
set_option maxRecDepth 100000 in
set_option maxHeartbeats 8000000 in
theorem apart_any (x:Slip) (g:Gh) (w:World) (h:SR w x g) (hm:x.make.length≤100) (hu:x.use.length≤100):Calls Tryz.prog 61 #[sV x g] w (Told (.bool (apartP x)) w):=by
 have HAP:=Lib.hid (apart_eq x)
 have HM:=Lib.hid h.m
 have HU:=Lib.hid h.u
 have HD:=Lib.hid h.d
 have HCD:=Lib.hid h.cd
 obtain ⟨va,vm,vd,vu⟩:=g
 obtain ⟨pm,cm,em,lm1,lm2⟩:=h.cm
 dsimp only at em
 subst em
 clear h lm1 lm2
 unfold sV scs
 dsimp only at HM HU HD HCD ⊢
 obtain ⟨us,nodes,wall,qos,after,cap,inn,out,pool,mk,dr,use⟩:=x
 dsimp only at HAP HM HU HD HCD hm hu ⊢
 obtain ⟨n,hn⟩:∃ n,mk.length=n:=⟨_,rfl⟩
 obtain ⟨nu,hnu⟩:∃ n,use.length=n:=⟨_,rfl⟩
 rw [hn] at hm HM ⊢
 rw [hnu] at hu HU
 have HN:=Lib.hid hn
 have HNU:=Lib.hid hnu
 generalize str us=sus at *
 generalize str pool=spl at *
 generalize apartP _=ap at *
 clear hn hnu
 obtain ⟨wb,hwb⟩:∃ wb,w.alloc (.cells #[.string sus,.int .i64 nodes,.int .i64 wall,.int .i64 qos,va,.int .i64 cap,.int .i64 inn,.int .i64 out,.string spl,.slice pm n cm,vd,vu] 27)=wb:=⟨_,rfl⟩
 have hbx:BoxA wb w.heap.size 27 #[.string sus,.int .i64 nodes,.int .i64 wall,.int .i64 qos,va,.int .i64 cap,.int .i64 inn,.int .i64 out,.string spl,.slice pm n cm,vd,vu]:=by rw [←hwb];exact BoxA.new _ _ _
 have hB1:Below w.heap.size w wb:=by rw [←hwb];exact (Below.refl _ _).alloc (Nat.le_refl _) _
 have hzb:wb.heap.size=w.heap.size+1:=by rw [←hwb];simp
 have HZ:=Lib.hid hzb
 have HB1:=Lib.hid hB1
 have HWB:=Lib.hid hwb
 have hlt:=hbx.lt
 have cellAt:=Lib.hid (fun (W:World) (hb:Below (w.heap.size+1) wb W)=>(show BoxA W w.heap.size 27 #[.string sus,.int .i64 nodes,.int .i64 wall,.int .i64 qos,va,.int .i64 cap,.int .i64 inn,.int .i64 out,.string spl,.slice pm n cm,vd,vu] from (hb.block _ (Nat.lt_succ_self _)).trans hbx))
 have c9:=hbx.cell 9 _
 clear hbx hB1 hzb hwb
 go_enter Tryz.func61,Tryz.ntmps61
 go_upto_region 2 with fail
 rw [HWB.out]
 go_upto_region 3 with fail
 go_loopw [3,9] (fun s3 s9 W=>∃ (k:Nat) (v3:Value),s3=v3∧s9=.int .i64 k∧k≤n∧Aside (∀ d∈mk.take k,d.kind=4)∧Aside (W.ownsRow (w.heap.size+1) 9 1 v3 k (flS ((mk.take k).map (·.name))))∧Aside (Below (w.heap.size+1) wb W)) (fun _ s9 _=>n - (intOf s9).toNat)
 case atStart=>exact ⟨0,_,rfl,rfl,Nat.zero_le _,by show ∀ d∈mk.take 0,_;simp,World.ownsRow_nil _ _ _ _,Below.refl _ _⟩
 case round =>
  obtain ⟨k,v3,h3,rfl,hk,hok,hown,hbl⟩:=hrel
  replace h3:=h3.symm
  subst h3
  have HO:=Lib.hid (show ∀ d∈mk.take k,d.kind=4 from hok)
  have HW:=Lib.hid (show wr.ownsRow (w.heap.size+1) 9 1 v3 k (flS ((mk.take k).map (·.name))) from hown)
  have HB:=Lib.hid (show Below (w.heap.size+1) wb wr from hbl)
  have HZR:=Lib.hid (show w.heap.size+1≤wr.heap.size by have:=hbl.size;have:=HZ.out;omega)
  clear hok hown hbl c9
  by_cases hkn:k < n
  ·obtain ⟨b,off,hp,hb,hc⟩:=(HM.out.next (low_next HB1.out HB.out)).at_ (size:=5) rfl (by omega)
   subst hp
   obtain ⟨d,hd⟩:∃ d,mk[k]?=some d:=⟨_,List.getElem?_eq_getElem (by rw [HN.out];exact hkn)⟩
   obtain ⟨y0,y1,y2,y3,y4⟩:=cellM hc hd
   have HX:=Lib.hid hd
   clear hc hd
   obtain ⟨dk,dn,dp,dz,dop⟩:=d
   dsimp only at y0 y1 y2 y3 y4
   go_upto_region 5 with fail
   have hD:BoxA (wr.alloc (.cells #[.int .u8 (dk:Nat),.string (str dn),.string (str dp),.int .i64 dz,.bool dop] 80)) wr.heap.size 80 #[.int .u8 (dk:Nat),.string (str dn),.string (str dp),.int .i64 dz,.bool dop]:=BoxA.new _ _ _
   have hb4:Below wr.heap.size wr (wr.alloc (.cells #[.int .u8 (dk:Nat),.string (str dn),.string (str dp),.int .i64 dz,.bool dop] 80)):=(Below.refl _ _).alloc (Nat.le_refl _) _
   generalize wr.alloc (.cells #[.int .u8 (dk:Nat),.string (str dn),.string (str dp),.int .i64 dz,.bool dop] 80)=w4 at *
   have z0:=hD.cell 0 _
   have z1:=hD.cell 1 _
   have zl:=hD.lt
   have HW4:=Lib.hid (show w4.ownsRow (w.heap.size+1) 9 1 v3 k (flS ((mk.take k).map (·.name))) from World.ownsRow.kept HW.out (grown_new hb4) (by cases hv:v3.ownBlock <;> simp))
   have HB4:=Lib.hid (HB.out.trans (hb4.mono HZR.out))
   have HZ4:=Lib.hid (Nat.le_trans HZR.out hb4.size)
   generalize wr.heap.size=bd at *
   clear hD hb4 y0 y1 y2 y3 y4 hb
   by_cases h4:dk=4
   ·have q4:((dk:Int) != 4)=false:=by rw [h4];rfl
    have HK:=Lib.hid (show ∀ d∈mk.take (k+1),d.kind=4 from fun y hy=>by
     rw [take_snoc HX.out] at hy
     rcases List.mem_append.1 hy with hy | hy
     ·exact HO.out y hy
     ·simp at hy;subst hy;exact h4)
    have HK2:=Lib.hid (show flS ((mk.take k).map (·.name))++cS dn=flS ((mk.take (k+1)).map (·.name)) by rw [take_snoc HX.out,List.map_append,flS_app];rfl)
    have hb5:Below w4.heap.size w4 (w4.alloc (.cells #[.string (str dn)] 9)):=(Below.refl _ _).alloc (Nat.le_refl _) _
    have HW5:=Lib.hid (show (w4.alloc (.cells #[.string (str dn)] 9)).ownsRow (w.heap.size+1) 9 1 v3 k (flS ((mk.take k).map (·.name))) from World.ownsRow.kept HW4.out (grown_new hb5) (by cases hv:v3.ownBlock <;> simp))
    have HC5:=Lib.hid (show ∀ j u,(cS dn)[j]?=some u→(w4.alloc (.cells #[.string (str dn)] 9)).cell? ((⟨w4.heap.size,0,none⟩:Addr).add j)=some u from row_cells' w4 (cS dn) 9)
    have HZ5:=Lib.hid (Nat.le_trans HZ4.out hb5.size)
    have HB5:=Lib.hid (HB4.out.trans (hb5.mono HZ4.out))
    clear hb5 h4
    go_wp2_with (at_builtin;refine wpl_app eltS rfl _ _ rfl (base:=w.heap.size+1) (n:=k) (cs:=flS ((mk.take k).map (·.name))) (v:=v3) rfl HW5.out ⟨w4.heap.size,0,none⟩ (cS dn) rfl HC5.out rfl (fun u hu=>by simp [cS] at hu;subst hu;rfl) (by omega) (by decide) HZ5.out ?_;intro gb cb w6 h1 h2;have HW6:=Lib.hid h1;have HB6:=Lib.hid (HB5.out.trans h2);clear h1 h2)
    go_roundw
    case rel=>exact ⟨k+1,_,rfl,by go_num,by omega,HK.out,by rw [←HK2.out];exact HW6.out,HB6.out⟩
    case measure=>simp [intOf];omega
   ·have q4:((dk:Int) != 4)=true:=by simp;omega
    have HF:=Lib.hid (show ap=false by rw [HAP.out,decide_eq_false (fun h=>h4 (h _ (List.mem_of_getElem? HX.out)))];rfl)
    clear h4
    go_wp2
    go_ret
    exact ⟨by rw [HF.out];rfl,low_next HB1.out HB4.out⟩
  ·obtain rfl:k=n:=by omega
   have ht:mk.take k=mk:=List.take_of_length_le (by rw [HN.out];exact Nat.le_refl _)
   rw [ht] at HO HW
   have HA2:=Lib.hid (show ap=(decide (mk.map (·.name)++use).Nodup && decide dr.Nodup) by rw [HAP.out,decide_eq_true HO.out];rfl)
   have c11:=(cellAt.out wr HB.out).cell 11 _
   have c10:=(cellAt.out wr HB.out).cell 10 _
   have hl:=(cellAt.out wr HB.out).lt
   have HRU:=Lib.hid (show RdC wr vu nu (flS use) from HU.out.next (low_next HB1.out HB.out))
   have HFU:=Lib.hid (show (flS use).length=nu * 1 by rw [flS_len,HNU.out])
   have HLN:=Lib.hid (show (mk.map (·.name)++use).length=k+nu by rw [List.length_append,List.length_map,HN.out,HNU.out])
   have HDR:=Lib.hid (fun (W:World) (hb:Below (w.heap.size+1) wb W)=>distinct_s dr vd W (HD.out.next (low_next HB1.out hb)) HCD.out)
   have HCL:=Lib.hid (fun (W:World) (hb:Below (w.heap.size+1) wb W)=>And.intro ((cellAt.out W hb).cell 10 _) (cellAt.out W hb).lt)
   clear ht hk hkn
   obtain ⟨b1,hb1⟩:∃ b,decide (mk.map (·.name)++use).Nodup=b:=⟨_,rfl⟩
   obtain ⟨b2,hb2⟩:∃ b,decide dr.Nodup=b:=⟨_,rfl⟩
   rw [hb1,hb2] at HA2
   rw [hb2] at HDR
   have H1:=Lib.hid hb1
   clear hb1 hb2
   cases b1 with
   | false =>
    go_wp2_with (first
     | (at_builtin;refine wpl_ow eltS rfl _ _ rfl (base:=w.heap.size+1) (n:=k) (m:=nu) (cs:=flS (mk.map (·.name))) (ds:=flS use) (v:=v3) (u:=vu) rfl HW.out rfl HRU.out HFU.out (flS_one use) (by omega) (by decide) HZR.out ?_;intro p6 k6 w6 h1 h2;rw [←flS_app] at h1;have HC:=Lib.hid (by have:=distinct_s (mk.map (·.name)++use) (.slice p6 (k+nu) k6) w6 (by rw [HLN.out];exact ApC.rdc (.inr h1)) (by rw [HLN.out];exact cp_own h1);rw [H1.out] at this;exact this);have HB6:=Lib.hid (HB.out.trans h2);clear h1 h2)
     | (go_at_call 101;((with_reducible refine HC.out.mono ?_);rintro e w3 ⟨rfl,rfl⟩)))
    go_ret
    exact ⟨by rw [HA2.out];rfl,low_next HB1.out HB6.out⟩
   | true =>
    go_wp2_with (first
     | (at_builtin;refine wpl_ow eltS rfl _ _ rfl (base:=w.heap.size+1) (n:=k) (m:=nu) (cs:=flS (mk.map (·.name))) (ds:=flS use) (v:=v3) (u:=vu) rfl HW.out rfl HRU.out HFU.out (flS_one use) (by omega) (by decide) HZR.out ?_;intro p6 k6 w6 h1 h2;rw [←flS_app] at h1;have HC:=Lib.hid (by have:=distinct_s (mk.map (·.name)++use) (.slice p6 (k+nu) k6) w6 (by rw [HLN.out];exact ApC.rdc (.inr h1)) (by rw [HLN.out];exact cp_own h1);rw [H1.out] at this;exact this);have HB6:=Lib.hid (HB.out.trans h2);obtain ⟨c10b,hlb⟩:=HCL.out _ HB6.out;clear h1 h2)
     | (go_at_call 101;first | ((with_reducible refine HC.out.mono ?_);rintro e w3 ⟨rfl,rfl⟩) | ((with_reducible refine (HDR.out _ HB6.out).mono ?_);rintro e w3 ⟨rfl,rfl⟩)))
    go_ret
    exact ⟨by rw [HA2.out];rfl,low_next HB1.out HB6.out⟩
end Go.Proofs.YtekcjfdllclphaaGreatDoor.gn
end
section
namespace Go.Proofs.YtekcjfdllclphaaGreatDoor.gn
open Go.RowKit
set_option maxRecDepth 100000
set_option maxHeartbeats 1000000
def Strw (w:World) (v:Value) (L:List (List UInt8)):Prop:=Strs w v L∧∀ n c,v=.slice none n c→n=0∧c=0
theorem Ss.form {w:World} {B:Nat} {v:Value} {L:List (List UInt8)} (h:Ss w B v L):∃ A c,v=.slice A L.length c∧(A=none→L.length=0∧c=0)∧L.length≤c∧c≤maxLen:=by
 rcases h.2 with ⟨rfl,hn⟩ | ⟨g,cap,cur,rfl,_,_,h1,h2,_⟩
 ·exact ⟨none,0,by rw [hn],fun _=>⟨hn,rfl⟩,by omega,by decide⟩
 ·exact ⟨_,cap,rfl,fun e=>(by cases e),h1,h2⟩
def AtRow (w w':World) (v:Value) (A:Option Addr):Prop:=∀ g,A.map (·.block)=some g→v.ownBlock=some g∨(w.heap.size≤g∧g < w'.heap.size)
theorem wpList_append_strs' {ops:Array Oper} {rest:List Oper} {o:Oper} {a:Act} {w:World} {Q:Exit→Act→World→Prop} (hw:Region.wanted o (yielded ops a.tmps)=true) (s x:Operand)
  (ho:o.op=.call { callee:=.builtin .append,args:=#[s,x],argTypes:=#[25,25] }) (B:Nat) (v u:Value) (S R:List (List UInt8)) (hs:a.eval s=v) (hown:Ss w B v S) (hx:a.eval x=u) (hst:Strw w u R)
  (hlim:S.length+R.length≤1099511627776) (hB:B≤w.heap.size)
  (h:∀ A c n w',n=S.length+R.length→Ss w' B (.slice A n c) (S++R)→w.grownBy w' v.ownBlock→AtRow w w' v A→wpList Tryz.prog ops Q rest (a.put o.dst (.slice A n c)) w'):wpList Tryz.prog ops Q (o::rest) a w:=by
 obtain ⟨i0,hi,hz0,hz1,hz2⟩:=info_parts Tryz.info9
 obtain ⟨⟨A,c,rfl,hlc,hcm,hcell,_⟩,hnone⟩:=hst
 cases A with
 | none =>
  obtain ⟨h1,rfl⟩:=hnone _ _ rfl
  have hR:R=[]:=List.eq_nil_of_length_eq_zero h1
  subst hR
  obtain ⟨A2,c2,hv,_⟩:=hown.form
  have e:S++[]=S:=List.append_nil S
  have hrun:=run_append_owned_none (P:=Tryz.prog) (w:=w) B 25 o.type 9 i0 1 Tryz.underlying25 hi v S.length _ hown
  have hk:=h A2 c2 S.length w (by simp) (by rw [e,← hv];exact hown) ⟨rfl,rfl,rfl,Nat.le_refl _,fun _ _ _=>rfl⟩ fun g hg=>.inl (by
   rw [hv]
   cases A2 with
   | none=>cases hg
   | some a=>exact hg)
  rw [←hv] at hk
  have hx0:a.eval x=.slice none 0 0:=hx
  refine BigFrame.wpList_want hw fun K hK=>?_
  unfold Oper.wp execOp
  simp only [ho,resolve,invoke,builtin,Sem.run_bind,Sem.run_pure,Result.andThen_ok,List.map_toArray,List.map_cons,List.map_nil,hs,hx0,hrun]
  exact hK _ _ hk
 | some ad =>
  have hn:∀ j u,(R.map fun s=>Value.string (str s))[j]?=some u→w.cell? (ad.add j)=some u:=fun j u hj=>by
   rcases hcell with h0 | ⟨b,off,hA,hc⟩
   ·have:R=[]:=List.eq_nil_of_length_eq_zero h0
    subst this
    simp at hj
   ·cases hA
    have hadd:(⟨b,off,none⟩:Addr).add j=⟨b,off+j,none⟩:=by unfold Addr.add;split <;> simp_all
    rw [hadd]
    rw [List.getElem?_map,Option.map_eq_some_iff] at hj
    obtain ⟨z,hz,rfl⟩:=hj
    obtain ⟨hlt,rfl⟩:=List.getElem?_eq_some_iff.1 hz
    exact hc j hlt
  obtain ⟨v',w',hr,h1,h2,_,h5⟩:=run_append_own_at (P:=Tryz.prog) w B 25 o.type 9 i0 (.string ⟨#[]⟩) 1 16 Tryz.underlying25 hi hz0 hz1 hz2 rfl (by decide) v S.length _ hown ad R.length c (R.map fun s=>.string (str s)) (by simp) hn
   (fun u hu=>by obtain ⟨z,_,rfl⟩:=List.mem_map.1 hu;rfl) (by unfold maxLen;omega) (by omega) hB
  have hss:Ss w' B v' (S++R):=by
   unfold Ss
   rw [List.length_append,List.map_append]
   exact h1
  have hlt:=h1.lt
  obtain ⟨A2,c2,rfl,_⟩:=hss.form
  refine BigFrame.wpList_want hw fun K hK=>?_
  unfold Oper.wp execOp
  simp only [ho,resolve,invoke,builtin,Sem.run_bind,Sem.run_pure,Result.andThen_ok,List.map_toArray,List.map_cons,List.map_nil,hs,hx,hr]
  refine hK _ _ (h A2 c2 _ w' (by simp) hss h2 fun g hg=>?_)
  have hg':(Value.slice A2 (S++R).length c2).ownBlock=some g:=by
   cases A2 with
   | none=>cases hg
   | some a=>exact hg
  rcases h5 with h5 | h5
  ·exact .inl (by rw [←h5];exact hg')
  ·rw [hg'] at h5
   cases h5
   exact .inr ⟨Nat.le_refl _,(hlt _ hg').2⟩
theorem wpList_append_strs {ops:Array Oper} {rest:List Oper} {o:Oper} {a:Act} {w:World} {Q:Exit→Act→World→Prop} (hgd:o.guard=none) (s x:Operand)
  (ho:o.op=.call { callee:=.builtin .append,args:=#[s,x],argTypes:=#[25,25] }) (B:Nat) (v u:Value) (S R:List (List UInt8)) (hs:a.eval s=v) (hown:Ss w B v S) (hx:a.eval x=u) (hst:Strw w u R)
  (hlim:S.length+R.length≤1099511627776) (hB:B≤w.heap.size)
  (h:∀ A c n w',n=S.length+R.length→Ss w' B (.slice A n c) (S++R)→w.grownBy w' v.ownBlock→AtRow w w' v A→wpList Tryz.prog ops Q rest (a.put o.dst (.slice A n c)) w'):wpList Tryz.prog ops Q (o::rest) a w :=
 wpList_append_strs' (by simp [Region.wanted,hgd]) s x ho B v u S R hs hown hx hst hlim hB h
end Go.Proofs.YtekcjfdllclphaaGreatDoor.gn
end
